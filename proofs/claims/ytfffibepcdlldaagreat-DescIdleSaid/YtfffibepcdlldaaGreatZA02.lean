/- A part. -/
import Derived.Test.YtfffibepcdlldaaGreatZA01
import Derived.WalkKit
import Derived.ProofKit
import Derived.OpenShut
import Derived.Outline
import Derived.WalkLawsBesides
import Derived.Deep.QuietTactic
import Derived.BigQuiet
import Derived.Deep.RegionWith
import Derived.Deep.RegionLaw
import Derived.RegionTactic
import Derived.Deep.DeepAppendWide
import Derived.Laws.AppendOwnNone
import Derived.Maps.AppendAt
import Derived.WalkSmall
set_option linter.unusedVariables false
set_option linter.unusedSimpArgs false
set_option maxRecDepth 100000
set_option maxHeartbeats 64000000
open Go.Proofs.Tryz

namespace Go.Proofs.YtfffibepcdlldaaGreat
open Go.ChangeShapes Go.WideShapes Go.ChangeAt Go.RowKit
namespace Own
section
variable {w w':World}{base e size n:Nat}{v:Value}{xs:List Value}
theorem ge (hown:w.ownsRow base e size v n xs)(g:Nat)(hg:v.ownBlock=some g):base<=g:=by
 rcases hown.2 with ⟨rfl,_⟩|⟨g',cap,cur,rfl,hb,_⟩
 ·cases hg
 ·cases hg;exact hb
theorem low {base':Nat}(h:base'<=base)(hown:w.ownsRow base e size v n xs):w.ownsRow base' e size v n xs:=by
 rcases hown.2 with h0|⟨g,cap,cur,h1,h2,h3⟩
 ·exact⟨hown.1,.inl h0⟩
 ·exact⟨hown.1,.inr ⟨g,cap,cur,h1,Nat.le_trans h h2,h3⟩⟩
theorem form (h:w.ownsRow base e size v n xs):∃ ao cap,v=.slice ao n cap:=by
 rcases h.2 with ⟨rfl,rfl⟩|⟨g,cap,cur,rfl,_⟩
 ·exact⟨_,_,rfl⟩
 ·exact⟨_,_,rfl⟩
theorem set (h:w.ownsRow base e size v n xs){p:Addr}(hp:p.block<base)(u:Value):(w.setCell p u).ownsRow base e size v n xs:=by
 rcases h.2 with h0|⟨g,cap,cur,h1,h2,h3,h4⟩
 ·exact⟨h.1,.inl h0⟩
 ·exact⟨h.1,.inr ⟨g,cap,cur,h1,h2,(Below.heap_setCell w p u g (by omega)).trans h3,h4⟩⟩
theorem below (h:w.ownsRow base e size v n xs)(hb:Below w.heap.size w w'):w'.ownsRow base e size v n xs:=by
 rcases h.2 with h0|⟨g,cap,cur,h1,h2,h3,h4⟩
 ·exact⟨h.1,.inl h0⟩
 ·have hlt:g<w.heap.size:=by
   rcases Nat.lt_or_ge g w.heap.size with hlt|hge
   ·exact hlt
   ·rw[Array.getElem?_eq_none hge] at h3;cases h3
  exact⟨h.1,.inr ⟨g,cap,cur,h1,h2,(hb.block g hlt).trans h3,h4⟩⟩
theorem cut {ao:Option Addr}{cap:Nat}(h:w.ownsRow base e size (.slice ao n cap) n xs){k:Nat}(hk:k<=n):w.ownsRow base e size (.slice ao k cap) k (xs.take (k*size)):=by
 have hks:k*size<=n*size:=Nat.mul_le_mul_right _ hk;rcases h.2 with ⟨h',h''⟩|⟨g,cap',cur,h',hb,hg,hnc,hcm,hcs,htake⟩
 ·simp only[Value.slice.injEq] at h';obtain⟨rfl,rfl,rfl⟩:=h';obtain rfl:k=0:=by omega
  rw[Nat.zero_mul,List.take_zero];exact World.ownsRow_nil _ _ _ _
 ·simp only[Value.slice.injEq,true_and] at h';obtain⟨rfl,rfl⟩:=h';refine⟨by rw[List.length_take,h.1];omega,.inr ⟨g,cap,cur,rfl,hb,hg,by omega,hcm,hcs,?_⟩⟩;rw[<-htake,List.take_take,Nat.min_eq_left hks]
end
theorem undrew {w w':World}{row:Option Nat}(h:w.drew.grownBy w' row):w.grownBy w' row:=⟨h.os,h.tape,h.output,h.size,h.block⟩
theorem bundrew {B:Nat}{w w':World}(h:Below B w.drew w'):Below B w w':=⟨h.os,h.tape,h.output,h.size,h.block⟩
theorem cellg {w w':World}{row:Option Nat}{p:Addr}{v:Value}(hg:w.grownBy w' row)(hc:w.cell? p=some v)(hp:some p.block≠row):w'.cell? p=some v:=by
 rw[World.cell?_of_block (w:=w) (hg.block p.block (World.block_lt_of_cell? w _ hc) hp)];exact hc
theorem cells_two (w:World)(a b:Value)(t:TypeId)(s:Nat×Nat):∀ j u,[a,b][j]? = some u->(w.alloc (.cells #[a,b] t s)).cell? ((⟨w.heap.size,0,none⟩:Addr).add j)=some u:=by
 intro j u hu;have hr:=heap_alloc_new w (.cells #[a,b] t s);rw[Addr.add_lit,cell_of_row _ _ _ _ _ _ hr]
 match j,hu with
 | 0,hu=>simpa using hu
 | 1,hu=>simpa using hu
end Own
end Go.Proofs.YtfffibepcdlldaaGreat

namespace Go.Proofs.YtfffibepcdlldaaGreat
namespace EM
def fin (x:Int×ByteArray):Int:=x.1+x.2.size
def ok:Int->List (Int×ByteArray)->Bool
 | _,[]=>true
 | b,x :: r=>decide (0<x.2.size) && decide (b<=x.1) && decide (fin x<=1048576) && ok (fin x+1) r
def nxt:Int->List (Int×ByteArray)->Int
 | b,[]=>b
 | _,x :: r=>nxt (fin x+1) r
def wk:Int->List (Int×ByteArray)->Prop
 | _,[]=>True
 | b,x :: r=>0<x.2.size/\b<=x.1/\fin x<=1048576/\wk (fin x) r
def get (x:Int×ByteArray)(i:Int):Option UInt8:=if x.1<=i then x.2.data.toList[(i-x.1).toNat]? else none
def cont:List (Int×ByteArray)->Int->Option UInt8
 | [],_=>none
 | x :: r,i=>(get x i).or (cont r i)
def piece (lo hi:Int)(x:Int×ByteArray):Option (Int×ByteArray):=
 if max x.1 lo<min (fin x) hi then some (max x.1 lo,x.2.extract (max x.1 lo-x.1).toNat (min (fin x) hi-x.1).toNat) else none
def part (lo hi:Int)(l:List (Int×ByteArray)):List (Int×ByteArray):=l.filterMap (piece lo hi)
def put (out:List (Int×ByteArray))(x:Int×ByteArray):List (Int×ByteArray):=
 match out.getLast? with
 | some y=>if fin y=x.1 then out.dropLast ++ [(y.1,y.2 ++ x.2)] else out ++ [x]
 | none=>[x]
def merge (l:List (Int×ByteArray)):List (Int×ByteArray):=l.foldl put []
def wr (l:List (Int×ByteArray))(f:Int)(d:ByteArray):List (Int×ByteArray):=
 merge (if d.size=0 then l else part 0 f l ++ [(f,d)] ++ part (f+d.size) 1048576 l)
def rd (l:List (Int×ByteArray))(f:Int)(m:Nat):List UInt8:=(List.range m).map fun (i:Nat)=>(cont l (f+(i:Int))).getD 0
def cnt (l:List (Int×ByteArray)):Nat:=(l.map fun x=>x.2.size).sum
def cat (l:List (Int×ByteArray)):List UInt8:=l.flatMap fun x=>x.2.data.toList
theorem list_size (s:ByteArray):s.data.toList.length=s.size:=Array.length_toList
theorem ba_inj {s t:ByteArray}(h:s.data.toList=t.data.toList):s=t:=by
 cases s;cases t
 congr 1
 exact Array.toList_inj.1 h
theorem cut_list (s:ByteArray)(a b:Nat):(s.extract a b).data.toList=(s.data.toList.take b).drop a:=by
 rw[ByteArray.data_extract,Array.toList_extract,List.extract_eq_take_drop,List.drop_take]
theorem cut_size (s:ByteArray)(a b:Nat)(h:b<=s.size):(s.extract a b).size=b-a:=by
 rw[<-list_size,cut_list,List.length_drop,List.length_take,list_size];omega
theorem app_list (s t:ByteArray):(s ++ t).data.toList=s.data.toList ++ t.data.toList:=by rw[ByteArray.data_append,Array.toList_append]
theorem app_size (s t:ByteArray):(s ++ t).size=s.size+t.size:=by rw[<-list_size,app_list,List.length_append,list_size,list_size]
theorem get_some {x:Int×ByteArray}{i:Int}(h1:x.1<=i)(h2:i<fin x):∃ c,get x i=some c:=by
 unfold get fin at *;rw[if_pos h1,List.getElem?_eq_getElem (by rw[list_size];omega)];exact⟨_,rfl⟩
theorem get_none {x:Int×ByteArray}{i:Int}(h:i<x.1∨fin x<=i):get x i=none:=by
 unfold get fin at *
 split
 ·rw[List.getElem?_eq_none (by rw[list_size];omega)]
 ·rfl
theorem get_piece (lo hi:Int)(x:Int×ByteArray)(i:Int):((piece lo hi x).bind fun y=>get y i)=if lo<=i/\i<hi then get x i else none:=by
 unfold piece
 by_cases h:max x.1 lo<min (fin x) hi
 ·rw[if_pos h]
  show get _ i=_
  have hf:fin x=x.1+x.2.size:=rfl
  by_cases hi1:max x.1 lo<=i/\i<min (fin x) hi
  ·rw[if_pos (by omega)];unfold get;rw[if_pos hi1.1,if_pos (by omega)];simp only;rw[cut_list,List.getElem?_drop,List.getElem?_take,if_pos (by omega)]
   congr 1
   omega
  ·rw[get_none]
   ·split
    ·rw[get_none (by omega)]
    ·rfl
   ·simp only[fin];rw[cut_size _ _ _ (by omega)]
    omega
 ·rw[if_neg h]
  show none=_
  have hf:fin x=x.1+x.2.size:=rfl
  split
  ·rw[get_none (by omega)]
  ·rfl
theorem piece_fin {lo hi:Int}{x y:Int×ByteArray}(h:piece lo hi x=some y):y.1=max x.1 lo/\fin y=min (fin x) hi/\y.1<fin y:=by
 unfold piece at h;have hf:fin x=x.1+x.2.size:=rfl
 split at h
 ·obtain rfl:=Option.some.inj h;have:fin (max x.1 lo,x.2.extract (max x.1 lo-x.1).toNat (min (fin x) hi-x.1).toNat)=min (fin x) hi:=by
   simp only[fin];rw[cut_size _ _ _ (by omega)]
   omega
  exact⟨rfl,this,by rw[this];assumption⟩
 ·cases h
theorem fin_pos (x:Int×ByteArray):x.1<fin x↔0<x.2.size:=by unfold fin;omega
theorem cont_append (a b:List (Int×ByteArray))(i:Int):cont (a ++ b) i=(cont a i).or (cont b i):=by
 induction a with
 | nil=>rfl
 | cons x r ih=>simp only[List.cons_append,cont,ih,Option.or_assoc]
theorem cont_one (x:Int×ByteArray)(i:Int):cont [x] i=get x i:=by simp[cont]
theorem cont_part (lo hi:Int)(l:List (Int×ByteArray))(i:Int):cont (part lo hi l) i=if lo<=i/\i<hi then cont l i else none:=by
 induction l with
 | nil=>simp[part,cont]
 | cons x r ih=>
   have hp:=get_piece lo hi x i;unfold part at ih ⊢
   cases h:piece lo hi x with
   | none=>
     rw[h] at hp;rw[List.filterMap_cons_none h,ih];simp only[cont]
     split
     ·rename_i hc
      rw[if_pos hc] at hp;rw[<-hp];rfl
     ·rfl
   | some y=>
     rw[h] at hp;rw[List.filterMap_cons_some h];simp only[cont,ih];rw[show get y i=_ from hp]
     split <;> simp
theorem ok_append (b:Int)(l m:List (Int×ByteArray)):ok b (l ++ m)=(ok b l && ok (nxt b l) m):=by
 induction l generalizing b with
 | nil=>simp[ok,nxt]
 | cons x r ih=>simp only[List.cons_append,ok,nxt,ih,Bool.and_assoc]
theorem nxt_append (b:Int)(l m:List (Int×ByteArray)):nxt b (l ++ m)=nxt (nxt b l) m:=by
 induction l generalizing b with
 | nil=>rfl
 | cons x r ih=>simp only[List.cons_append,nxt,ih]
theorem nxt_snoc (b:Int)(l:List (Int×ByteArray))(x:Int×ByteArray):nxt b (l ++ [x])=fin x+1:=by rw[nxt_append];rfl
theorem ok_cons {b:Int}{x:Int×ByteArray}{r:List (Int×ByteArray)}:ok b (x :: r)=true↔0<x.2.size/\b<=x.1/\fin x<=1048576/\ok (fin x+1) r=true:=by
 simp only[ok,Bool.and_eq_true,decide_eq_true_eq,and_assoc]
theorem ok_le {b c:Int}{l:List (Int×ByteArray)}(h:ok b l=true)(hc:c<=b):ok c l=true:=by
 cases l with
 | nil=>rfl
 | cons x r=>
   rw[ok_cons] at h ⊢;exact⟨h.1,by omega,h.2.2⟩
theorem ok_wk {b:Int}{l:List (Int×ByteArray)}(h:ok b l=true):wk b l:=by
 induction l generalizing b with
 | nil=>trivial
 | cons x r ih=>
   rw[ok_cons] at h;exact⟨h.1,h.2.1,h.2.2.1,ih (ok_le h.2.2.2 (by omega))⟩
theorem wk_le {b c:Int}{l:List (Int×ByteArray)}(h:wk b l)(hc:c<=b):wk c l:=by
 cases l with
 | nil=>trivial
 | cons x r=>exact⟨h.1,by have:=h.2.1;omega,h.2.2⟩
theorem wk_append {b c:Int}{l m:List (Int×ByteArray)}(h:wk b l)(hb:b<=c)(hc:∀ x∈l,fin x<=c)(hm:wk c m):wk b (l ++ m):=by
 induction l generalizing b with
 | nil=>exact wk_le hm hb
 | cons x r ih=>exact⟨h.1,h.2.1,h.2.2.1,ih h.2.2.2 (hc x (by simp)) fun y hy=>hc y (by simp[hy])⟩
theorem wk_part {b:Int}{l:List (Int×ByteArray)}(h:ok b l=true)(lo hi:Int):wk (max b lo) (part lo hi l)/\∀ x∈part lo hi l,fin x<=hi:=by
 unfold part
 induction l generalizing b with
 | nil=>exact⟨trivial,fun x hx=>by simp at hx⟩
 | cons x r ih=>
   rw[ok_cons] at h;obtain⟨i1,i2⟩:=ih h.2.2.2
   cases hp:piece lo hi x with
   | none=>
     rw[List.filterMap_cons_none hp];refine⟨wk_le i1 ?_,i2⟩;have:=(fin_pos x).2 h.1
     omega
   | some y=>
     rw[List.filterMap_cons_some hp];obtain⟨h1,h2,h3⟩:=piece_fin hp;refine⟨⟨(fin_pos y).1 h3,by omega,by omega,wk_le i1 (by omega)⟩,fun z hz=>?_⟩;rcases List.mem_cons.1 hz with rfl|hz
     ·omega
     ·exact i2 z hz
theorem ok_part {b:Int}{l:List (Int×ByteArray)}(h:ok b l=true)(lo hi:Int)(hlo:lo<=b):ok b (part lo hi l)=true:=by
 unfold part
 induction l generalizing b with
 | nil=>rfl
 | cons x r ih=>
   rw[ok_cons] at h;have:=(fin_pos x).2 h.1;have i1:=ih h.2.2.2 (by omega)
   cases hp:piece lo hi x with
   | none=>rw[List.filterMap_cons_none hp];exact ok_le i1 (by omega)
   | some y=>
     rw[List.filterMap_cons_some hp,ok_cons];obtain⟨h1,h2,h3⟩:=piece_fin hp;exact⟨(fin_pos y).1 h3,by omega,by omega,ok_le i1 (by omega)⟩
theorem cont_below {b:Int}{l:List (Int×ByteArray)}(h:wk b l){i:Int}(hi:i<b):cont l i=none:=by
 induction l generalizing b with
 | nil=>rfl
 | cons x r ih=>
   have:=(fin_pos x).2 h.1;have h2:=h.2.1;simp only[cont];rw[get_none (by omega),ih h.2.2.2 (by omega)];rfl
theorem cont_above {b:Int}{l:List (Int×ByteArray)}(h:wk b l){i:Int}(hi:1048576<=i):cont l i=none:=by
 induction l generalizing b with
 | nil=>rfl
 | cons x r ih=>
   have h2:=h.2.2.1;simp only[cont];rw[get_none (by omega),ih h.2.2.2];rfl
theorem ok_unique {b c:Int}{l m:List (Int×ByteArray)}(hl:ok b l=true)(hm:ok c m=true)(h:∀ i,cont l i=cont m i):l=m:=by
 induction l generalizing b c m with
 | nil=>
   cases m with
   | nil=>rfl
   | cons y s=>
     rw[ok_cons] at hm;obtain⟨c,hc⟩:=get_some (x:=y) (Int.le_refl _) ((fin_pos y).2 hm.1);have:=h y.1;simp only[cont,hc] at this;simp at this
 | cons x r ih=>
   cases m with
   | nil=>
     rw[ok_cons] at hl;obtain⟨c,hc⟩:=get_some (x:=x) (Int.le_refl _) ((fin_pos x).2 hl.1);have:=h x.1;simp only[cont,hc] at this;simp at this
   | cons y s=>
     rw[ok_cons] at hl hm;have px:=(fin_pos x).2 hl.1;have py:=(fin_pos y).2 hm.1;have kx:∀ i,i<fin x+1->cont r i=none:=fun i hi=>cont_below (ok_wk hl.2.2.2) hi;have ky:∀ i,i<fin y+1->cont s i=none:=fun i hi=>cont_below (ok_wk hm.2.2.2) hi;have h':∀ i,(get x i).or (cont r i)=(get y i).or (cont s i):=h;have e1:x.1=y.1:=by
      rcases Int.lt_trichotomy x.1 y.1 with hlt|he|hlt
      ·have:=h' x.1;obtain⟨c,hc⟩:=get_some (x:=x) (Int.le_refl _) px;rw[hc,get_none (x:=y) (by omega),ky _ (by omega)] at this;simp at this
      ·exact he
      ·have:=h' y.1;obtain⟨c,hc⟩:=get_some (x:=y) (Int.le_refl _) py;rw[hc,get_none (x:=x) (by omega),kx _ (by omega)] at this;simp at this
     have e2:fin x=fin y:=by
      rcases Int.lt_trichotomy (fin x) (fin y) with hlt|he|hlt
      ·have:=h' (fin x);obtain⟨c,hc⟩:=get_some (x:=y) (i:=fin x) (by omega) hlt;rw[hc,get_none (x:=x) (by omega),kx _ (by omega)] at this;simp at this
      ·exact he
      ·have:=h' (fin y);obtain⟨c,hc⟩:=get_some (x:=x) (i:=fin y) (by omega) hlt;rw[hc,get_none (x:=y) (by omega),ky _ (by omega)] at this;simp at this
     have e3:x.2=y.2:=by
      apply ba_inj
      have hs:x.2.size=y.2.size:=by unfold fin at e2;omega
      apply List.ext_getElem?
      intro k
      by_cases hk:k<x.2.size
      ·have hg:=h' (x.1+k);rw[kx _ (by unfold fin;omega),ky _ (by unfold fin;omega)] at hg;simp only[Option.or_none] at hg;unfold get at hg;rw[if_pos (by omega),if_pos (by omega),<-e1,show (x.1+(k:Int)-x.1).toNat=k by omega] at hg;exact hg
      ·rw[List.getElem?_eq_none (by rw[list_size];omega),List.getElem?_eq_none (by rw[list_size];omega)]
     have e:x=y:=Prod.ext e1 e3;subst e
     congr 1
     refine ih hl.2.2.2 hm.2.2.2 fun i=>?_
     by_cases hi:i<fin x+1
     ·rw[kx i hi,ky i hi]
     ·have:=h' i;rw[get_none (x:=x) (by omega)] at this;simpa using this
theorem put_nil (x:Int×ByteArray):put [] x=[x]:=rfl
theorem put_snoc (o:List (Int×ByteArray))(y x:Int×ByteArray):put (o ++ [y]) x=if fin y=x.1 then o ++ [(y.1,y.2 ++ x.2)] else o ++ [y] ++ [x]:=by
 unfold put;rw[List.getLast?_concat,List.dropLast_concat]
theorem fin_join {y x:Int×ByteArray}(h:fin y=x.1):fin (y.1,y.2 ++ x.2)=fin x:=by
 unfold fin at *;simp only;rw[app_size];omega
theorem get_join {y x:Int×ByteArray}(h:fin y=x.1)(i:Int):get (y.1,y.2 ++ x.2) i=(get y i).or (get x i):=by
 by_cases h1:i<y.1
 ·rw[get_none (x:=(y.1,y.2 ++ x.2)) (.inl h1),get_none (x:=y) (.inl h1),get_none (x:=x) (.inl (by unfold fin at h;omega))];rfl
 ·by_cases h2:i<fin y
  ·obtain⟨c,hc⟩:=get_some (x:=y) (by omega) h2;rw[hc];unfold get at hc ⊢;simp only;rw[if_pos (by omega)] at hc ⊢;rw[app_list,List.getElem?_append_left (by rw[list_size];unfold fin at h2;omega),hc];rfl
  ·rw[get_none (x:=y) (.inr (by omega))];unfold get;unfold fin at h h2;simp only;rw[if_pos (by omega),if_pos (by omega),app_list,List.getElem?_append_right (by rw[list_size];omega),list_size];simp only[Option.none_or]
   congr 1
   omega
theorem cont_put (o:List (Int×ByteArray))(x:Int×ByteArray)(i:Int):cont (put o x) i=(cont o i).or (get x i):=by
 rcases List.eq_nil_or_concat o with rfl|⟨q,y,rfl⟩
 ·simp[put_nil,cont]
 ·rw[List.concat_eq_append,put_snoc]
  split
  ·rename_i h
   rw[cont_append,cont_append,cont_one,cont_one,get_join h,Option.or_assoc]
  ·rw[cont_append,cont_one]
theorem cont_fold (o l:List (Int×ByteArray))(i:Int):cont (l.foldl put o) i=(cont o i).or (cont l i):=by
 induction l generalizing o with
 | nil=>simp[cont]
 | cons x r ih=>rw[List.foldl_cons,ih,cont_put,Option.or_assoc];rfl
theorem cont_merge (l:List (Int×ByteArray))(i:Int):cont (merge l) i=cont l i:=by unfold merge;rw[cont_fold];rfl
theorem ok_put {b c:Int}{o:List (Int×ByteArray)}{x:Int×ByteArray}(ho:ok b o=true)(hn:nxt b o<=c+1)(hb:b<=c)(h0:0<x.2.size)(h1:c<=x.1)(h2:fin x<=1048576):ok b (put o x)=true/\nxt b (put o x)<=fin x+1:=by
 rcases List.eq_nil_or_concat o with rfl|⟨q,y,rfl⟩
 ·rw[put_nil];exact⟨ok_cons.2 ⟨h0,by omega,h2,rfl⟩,Int.le_refl _⟩
 ·rw[List.concat_eq_append] at *;rw[nxt_snoc] at hn;rw[ok_append,Bool.and_eq_true,ok_cons] at ho;rw[put_snoc]
  split
  ·rename_i h
   rw[nxt_snoc,ok_append,Bool.and_eq_true,ok_cons,fin_join h];refine⟨⟨ho.1,?_,ho.2.2.1,h2,rfl⟩,Int.le_refl _⟩;simp only;rw[app_size];omega
  ·rw[nxt_snoc,ok_append,ok_append,nxt_snoc,Bool.and_eq_true,Bool.and_eq_true,ok_cons,ok_cons];exact⟨⟨⟨ho.1,ho.2⟩,h0,by omega,h2,rfl⟩,Int.le_refl _⟩
theorem ok_fold {b c:Int}{o l:List (Int×ByteArray)}(ho:ok b o=true)(hn:nxt b o<=c+1)(hb:b<=c)(hl:wk c l):ok b (l.foldl put o)=true:=by
 induction l generalizing o c with
 | nil=>exact ho
 | cons x r ih=>
   obtain⟨h0,h1,h2,h3⟩:=hl;obtain⟨p1,p2⟩:=ok_put ho hn hb h0 h1 h2;have:=(fin_pos x).2 h0;exact ih p1 p2 (by omega) h3
theorem ok_merge {b:Int}{l:List (Int×ByteArray)}(hl:wk b l):ok b (merge l)=true:=ok_fold rfl (by show b<=b+1;omega) (Int.le_refl _) hl
theorem merge_id {b:Int}{l:List (Int×ByteArray)}(hl:ok b l=true):merge l=l:=ok_unique (ok_merge (ok_wk hl)) hl (cont_merge l)
theorem wk_write {l:List (Int×ByteArray)}{f:Int}{d:ByteArray}(hl:ok 0 l=true)(hf:0<=f)(hd:f+d.size<=1048576)(h0:0<d.size):wk 0 (part 0 f l ++ [(f,d)] ++ part (f+d.size) 1048576 l):=by
 obtain⟨p1,p2⟩:=wk_part hl 0 f;obtain⟨q1,q2⟩:=wk_part hl (f+d.size) 1048576;have hone:wk f [(f,d)]:=⟨h0,Int.le_refl _,hd,trivial⟩;refine wk_append (c:=f+d.size) (wk_append (c:=f) (wk_le p1 (by omega)) hf p2 hone) (by omega) (fun x hx=>?_) (wk_le q1 (by omega));rcases List.mem_append.1 hx with hx|hx
 ·have:=p2 x hx;omega
 ·rw[List.mem_singleton.1 hx];exact Int.le_refl _
theorem wr_nil {l:List (Int×ByteArray)}{f:Int}{d:ByteArray}(hl:ok 0 l=true)(h:d.size=0):wr l f d=l:=by
 unfold wr;rw[if_pos h,merge_id hl]
theorem wr_ok {l:List (Int×ByteArray)}{f:Int}{d:ByteArray}(hl:ok 0 l=true)(hf:0<=f)(hd:f+d.size<=1048576):ok 0 (wr l f d)=true:=by
 unfold wr
 split
 ·exact ok_merge (ok_wk hl)
 ·exact ok_merge (wk_write hl hf hd (by omega))
theorem get_one (f:Int)(d:ByteArray)(i:Int):get (f,d) i=if f<=i/\i<f+d.size then d.data.toList[(i-f).toNat]? else none:=by
 by_cases h:f<=i/\i<f+d.size
 ·rw[if_pos h];unfold get;rw[if_pos h.1]
 ·rw[if_neg h,get_none];unfold fin;simp only;omega
theorem wr_cont {l:List (Int×ByteArray)}{f:Int}{d:ByteArray}(hl:ok 0 l=true)(hf:0<=f)(hd:f+d.size<=1048576)(i:Int) :
 cont (wr l f d) i=if f<=i/\i<f+d.size then d.data.toList[(i-f).toNat]? else cont l i:=by
 unfold wr
 split
 ·rw[cont_merge,if_neg (by omega)]
 ·rw[cont_merge,cont_append,cont_append,cont_one,cont_part,cont_part,get_one]
  by_cases h:f<=i/\i<f+d.size
  ·have e1:¬ (0<=i/\i<f):=by omega
   have e2:¬ (f+(d.size:Int)<=i/\i<1048576):=by omega
   rw[if_pos h,if_pos h,if_neg e1,if_neg e2];simp
  ·rw[if_neg h,if_neg h]
   by_cases h0:i<0
   ·rw[if_neg (by omega),if_neg (by omega),cont_below (ok_wk hl) h0];rfl
   ·by_cases h1:i<f
    ·rw[if_pos (by omega),if_neg (by omega)];simp
    ·by_cases h2:i<1048576
     ·rw[if_neg (by omega),if_pos (by omega)];simp
     ·rw[if_neg (by omega),if_neg (by omega),cont_above (ok_wk hl) (by omega)];rfl
theorem rd_length (l:List (Int×ByteArray))(f:Int)(m:Nat):(rd l f m).length=m:=by simp[rd]
theorem rd_get (l:List (Int×ByteArray))(f:Int)(m:Nat)(k:Nat)(h:k<m):(rd l f m)[k]? = some ((cont l (f+k)).getD 0):=by simp[rd,h]
theorem rd_ext {l m:List (Int×ByteArray)}{f:Int}{n:Nat}(h:∀ i:Int,f<=i->i<f+n->cont l i=cont m i):rd l f n=rd m f n:=by
 unfold rd;refine List.map_congr_left fun k hk=>?_;have:=List.mem_range.1 hk;rw[h _ (by omega) (by omega)]
theorem rd_two (l:List (Int×ByteArray))(f:Int)(n m:Nat):rd l f (n+m)=rd l f n ++ rd l (f+n) m:=by
 unfold rd;rw[List.range_add,List.map_append,List.map_map]
 congr 1
 refine List.map_congr_left fun k hk=>?_;simp only[Function.comp_apply]
 congr 2
 omega
theorem rd_wr {l:List (Int×ByteArray)}{f:Int}{d:ByteArray}(hl:ok 0 l=true)(hf:0<=f)(hd:f+d.size<=1048576):rd (wr l f d) f d.size=d.data.toList:=by
 apply List.ext_getElem?
 intro k
 by_cases hk:k<d.size
 ·rw[rd_get _ _ _ _ hk,wr_cont hl hf hd,if_pos (by omega),show (f+(k:Int)-f).toNat=k by omega,List.getElem?_eq_getElem (by rw[list_size];exact hk)];rfl
 ·rw[List.getElem?_eq_none (by rw[rd_length];omega),List.getElem?_eq_none (by rw[list_size];omega)]
theorem rd_lay {p:List (Int×ByteArray)}{x:Int×ByteArray}{f:Int}{m:Nat}(h1:f<=x.1)(h2:fin x<=f+m)(hp:∀ i,x.1<=i->cont p i=none) :
 rd (p ++ [x]) f m=(rd p f m).take (x.1-f).toNat ++ x.2.data.toList ++ (rd p f m).drop ((x.1-f).toNat+x.2.size):=by
 have hf:fin x=x.1+x.2.size:=rfl
 apply List.ext_getElem?
 intro k;have hlen:((rd p f m).take (x.1-f).toNat ++ x.2.data.toList).length=(x.1-f).toNat+x.2.size:=by
  rw[List.length_append,List.length_take,rd_length,list_size];omega
 by_cases hk:k<m
 ·rw[rd_get _ _ _ _ hk,cont_append,cont_one]
  by_cases k1:(k:Int)<x.1-f
  ·rw[get_none (.inl (by omega)),List.append_assoc,List.getElem?_append_left (by rw[List.length_take,rd_length];omega),List.getElem?_take,if_pos (by omega),rd_get _ _ _ _ hk];simp
  ·by_cases k2:(k:Int)<x.1-f+x.2.size
   ·rw[hp _ (by omega),List.getElem?_append_left (by rw[hlen];omega),List.getElem?_append_right (by rw[List.length_take,rd_length];omega),List.length_take,rd_length];unfold get;rw[if_pos (by omega),List.getElem?_eq_getElem (by rw[list_size];omega),List.getElem?_eq_getElem (by rw[list_size];omega)];simp only[Option.none_or,Option.getD_some,Option.some.injEq]
    congr 1
    omega
   ·rw[get_none (.inr (by omega)),List.getElem?_append_right (by rw[hlen];omega),hlen,List.getElem?_drop,rd_get _ _ _ _ (by omega),show (x.1-f).toNat+x.2.size+(k-((x.1-f).toNat+x.2.size))=k by omega];simp
 ·rw[List.getElem?_eq_none (by rw[rd_length];omega),List.getElem?_eq_none];rw[List.length_append,hlen,List.length_drop,rd_length];omega
theorem rd_nil (f:Int)(m:Nat):rd [] f m=List.replicate m 0:=by
 unfold rd;rw[List.eq_replicate_iff];refine⟨by simp,fun c hc=>?_⟩;obtain⟨k,_,rfl⟩:=List.mem_map.1 hc
 rfl
theorem rd_part (l:List (Int×ByteArray))(f:Int)(m:Nat):rd (part f (f+m) l) f m=rd l f m:=
 rd_ext fun i h1 h2=>by rw[cont_part,if_pos ⟨h1,h2⟩]
theorem cnt_nil:cnt []=0:=rfl
theorem cnt_append (a b:List (Int×ByteArray)):cnt (a ++ b)=cnt a+cnt b:=by simp[cnt]
theorem cnt_one (x:Int×ByteArray):cnt [x]=x.2.size:=by simp[cnt]
theorem cnt_cons (x:Int×ByteArray)(r:List (Int×ByteArray)):cnt (x :: r)=x.2.size+cnt r:=by simp[cnt]
theorem cnt_take (l:List (Int×ByteArray))(k:Nat):cnt (l.take k)<=cnt l:=by
 have:=cnt_append (l.take k) (l.drop k);rw[List.take_append_drop] at this;omega
theorem cat_append (a b:List (Int×ByteArray)):cat (a ++ b)=cat a ++ cat b:=by simp[cat]
theorem cat_one (x:Int×ByteArray):cat [x]=x.2.data.toList:=by simp[cat]
theorem cat_length (l:List (Int×ByteArray)):(cat l).length=cnt l:=by
 induction l with
 | nil=>rfl
 | cons x r ih=>
   have:cat (x :: r)=cat [x] ++ cat r:=by rw[<-cat_append];rfl
   rw[this,List.length_append,ih,cat_one,list_size,cnt_cons]
theorem wk_cnt {b:Int}{l:List (Int×ByteArray)}(h:wk b l)(hb:b<=1048576):(cnt l:Int)<=1048576-b/\l.length<=cnt l:=by
 induction l generalizing b with
 | nil=>exact⟨by rw[cnt_nil];omega,Nat.le_refl _⟩
 | cons x r ih=>
   obtain⟨h0,h1,h2,h3⟩:=h;have:=ih h3 h2;have hf:fin x=x.1+x.2.size:=rfl;rw[cnt_cons,List.length_cons]
   omega
theorem take_snoc {α:Type}(l:List α)(k:Nat)(h:k<l.length):l.take (k+1)=l.take k ++ [l[k]]:=by
 rw[List.take_succ_eq_append_getElem h]
theorem wk_at {b:Int}{l:List (Int×ByteArray)}(h:wk b l)(k:Nat)(hk:k<l.length):0<l[k].2.size/\b<=l[k].1/\fin l[k]<=1048576/\∀ i,l[k].1<=i->cont (l.take k) i=none:=by
 induction l generalizing b k with
 | nil=>simp at hk
 | cons x r ih=>
   obtain⟨h0,h1,h2,h3⟩:=h;have:=(fin_pos x).2 h0
   cases k with
   | zero=>exact⟨h0,h1,h2,fun i _=>rfl⟩
   | succ k=>
     obtain⟨i0,i1,i2,i3⟩:=ih h3 k (by simpa using hk);refine⟨i0,?_,i2,fun i hi=>?_⟩
     ·show b<=(r[k]'(by simpa using hk)).1
      omega
     ·show (get x i).or (cont (r.take k) i)=none
      have hi':(r[k]'(by simpa using hk)).1<=i:=hi;rw[i3 i hi',get_none (.inr (by omega))];rfl
theorem merge_take (l:List (Int×ByteArray))(k:Nat)(h:k<l.length):merge (l.take (k+1))=put (merge (l.take k)) l[k]:=by
 unfold merge;rw[take_snoc l k h,List.foldl_append];rfl
theorem part_take (lo hi:Int)(l:List (Int×ByteArray))(k:Nat)(h:k<l.length):part lo hi (l.take (k+1))=part lo hi (l.take k) ++ (piece lo hi l[k]).toList:=by
 unfold part;rw[take_snoc l k h,List.filterMap_append]
 cases h:piece lo hi l[k] <;> simp[h]
theorem wk_take {b:Int}{l:List (Int×ByteArray)}(h:wk b l)(k:Nat):wk b (l.take k):=by
 induction l generalizing b k with
 | nil=>rw[List.take_nil];trivial
 | cons x r ih=>
   cases k with
   | zero=>trivial
   | succ k=>exact⟨h.1,h.2.1,h.2.2.1,ih h.2.2.2 k⟩
theorem wk_pos {b:Int}{l:List (Int×ByteArray)}(h:wk b l):∀ x∈l,0<x.2.size:=by
 induction l generalizing b with
 | nil=>intro x hx;simp at hx
 | cons y r ih=>
   intro x hx;rcases List.mem_cons.1 hx with rfl|hx
   ·exact h.1
   ·exact ih h.2.2.2 x hx
theorem cat_put (o:List (Int×ByteArray))(x:Int×ByteArray):cat (put o x)=cat o ++ x.2.data.toList:=by
 rcases List.eq_nil_or_concat o with rfl|⟨q,y,rfl⟩
 ·rw[put_nil,cat_one];rfl
 ·rw[List.concat_eq_append,put_snoc]
  split
  ·rw[cat_append,cat_append,cat_one,cat_one,app_list,List.append_assoc]
  ·rw[cat_append,cat_one]
theorem cat_fold (l o:List (Int×ByteArray)):cat (l.foldl put o)=cat o ++ cat l:=by
 induction l generalizing o with
 | nil=>simp[cat]
 | cons x r ih=>
   have:cat (x :: r)=cat [x] ++ cat r:=by rw[<-cat_append];rfl
   rw[List.foldl_cons,ih,cat_put,this,cat_one,List.append_assoc]
theorem cat_merge (l:List (Int×ByteArray)):cat (merge l)=cat l:=by unfold merge;rw[cat_fold];rfl
theorem merge_last {l o:List (Int×ByteArray)}{y:Int×ByteArray}(h:wk 0 l)(hm:merge l=o ++ [y]):0<=y.1/\fin y<=1048576/\cat l=cat o ++ y.2.data.toList:=by
 have hok:=ok_merge h;rw[hm,ok_append,Bool.and_eq_true,ok_cons] at hok;have hn:0<=nxt 0 o:=by
  clear hm h;have:=hok.1;have key:∀ (o:List (Int×ByteArray)) (b:Int),0<=b->ok b o=true->0<=nxt b o:=by
   intro o
   induction o with
   | nil=>intro b hb _;exact hb
   | cons x r ih=>
     intro b hb hok;rw[ok_cons] at hok;have:=(fin_pos x).2 hok.1;exact ih _ (by omega) hok.2.2.2
  exact key o 0 (Int.le_refl _) this
 refine⟨by omega,hok.2.2.2.1,?_⟩;rw[<-cat_merge,hm,cat_append,cat_one]
theorem cat_at (l:List (Int×ByteArray))(k:Nat)(hk:k<l.length):cat l=cat (l.take k) ++ (l[k].2.data.toList ++ cat (l.drop (k+1))):=by
 have e:l=l.take k ++ l[k] :: l.drop (k+1):=by rw[<-List.drop_eq_getElem_cons hk,List.take_append_drop]
 have e2:cat (l[k] :: l.drop (k+1))=cat [l[k]] ++ cat (l.drop (k+1)):=by rw[<-cat_append];rfl
 rw[<-cat_one,<-e2,<-cat_append,<-e]
theorem text_one {l:List (Int×ByteArray)}{k:Nat}(hk:k<l.length){t:ByteArray}(ht:t.data.toList=cat l):t.extract (cnt (l.take k)) (cnt (l.take k)+l[k].2.size)=l[k].2:=by
 apply ba_inj
 rw[cut_list,ht,cat_at l k hk,<-List.append_assoc,List.take_left' (by rw[List.length_append,cat_length,list_size]),List.drop_left' (cat_length _)]
theorem text_two {l:List (Int×ByteArray)}{k:Nat}(hk:k<l.length){t y:ByteArray}(ht:t.data.toList=cat l){p:List UInt8}(hp:cat (l.take k)=p ++ y.data.toList):t.extract (cnt (l.take k)-y.size) (cnt (l.take k)+l[k].2.size)=y ++ l[k].2:=by
 apply ba_inj
 have hlen:p.length=cnt (l.take k)-y.size:=by
  have:=congrArg List.length hp;rw[cat_length,List.length_append,list_size] at this
  omega
 rw[cut_list,ht,cat_at l k hk,<-List.append_assoc,List.take_left' (by rw[List.length_append,cat_length,list_size]),hp,List.append_assoc,List.drop_left' hlen,app_list]
theorem text_size {l:List (Int×ByteArray)}{t:ByteArray}(ht:t.data.toList=cat l):t.size=cnt l:=by rw[<-list_size,ht,cat_length]
theorem ok_at {b:Int}{l:List (Int×ByteArray)}(h:ok b l=true)(k:Nat)(hk:k<l.length):ok b (l.take k)=true/\0<l[k].2.size/\nxt b (l.take k)<=l[k].1/\fin l[k]<=1048576:=by
 have e:l=l.take k ++ l[k] :: l.drop (k+1):=by rw[<-List.drop_eq_getElem_cons hk,List.take_append_drop]
 rw[e,ok_append,Bool.and_eq_true,ok_cons] at h;exact⟨h.1,h.2.1,h.2.2.1,h.2.2.2.1⟩
theorem ok_no {b:Int}{l:List (Int×ByteArray)}(k:Nat)(hk:k<l.length)(h:l[k].2.size=0∨l[k].1<nxt b (l.take k)∨1048576<fin l[k]):ok b l=false:=by
 rw[<-Bool.not_eq_true];intro hok;obtain⟨-,h1,h2,h3⟩:=ok_at hok k hk
 omega
theorem ok_next {b:Int}{l:List (Int×ByteArray)}(k:Nat)(hk:k<l.length)(h:ok b (l.take k)=true)(h1:0<l[k].2.size)(h2:nxt b (l.take k)<=l[k].1)(h3:fin l[k]<=1048576):ok b (l.take (k+1))=true/\nxt b (l.take (k+1))=fin l[k]+1:=by
 rw[take_snoc l k hk,nxt_snoc,ok_append,Bool.and_eq_true,ok_cons];exact⟨⟨h,h1,h2,h3,rfl⟩,rfl⟩
theorem nxt_le {b:Int}{l:List (Int×ByteArray)}(h:ok b l=true)(hb:b<=1048577):b<=nxt b l/\nxt b l<=1048577:=by
 induction l generalizing b with
 | nil=>exact⟨Int.le_refl _,hb⟩
 | cons x r ih=>
   rw[ok_cons] at h;have:=ih h.2.2.2 (by omega);have:=(fin_pos x).2 h.1
   show b<=nxt (fin x+1) r/\nxt (fin x+1) r<=1048577
   omega
theorem part_length (lo hi:Int)(l:List (Int×ByteArray)):(part lo hi l).length<=l.length:=List.length_filterMap_le _ _
end EM
end Go.Proofs.YtfffibepcdlldaaGreat

namespace Go.Proofs.YtfffibepcdlldaaGreat
open Go.ChangeShapes Go.WideShapes Go.ChangeAt Go.RowKit
def ecl (l:List (Int×ByteArray)):List Value:=l.flatMap fun x=>[Value.int .i64 x.1,Value.string x.2]
theorem ecl_cons (x:Int×ByteArray)(r:List (Int×ByteArray)):ecl (x :: r)=.int .i64 x.1 :: .string x.2 :: ecl r:=by simp[ecl]
theorem ecl_length (l:List (Int×ByteArray)):(ecl l).length=l.length*2:=by
 induction l with
 | nil=>rfl
 | cons x r ih=>rw[ecl_cons];simp only[List.length_cons,ih];omega
theorem ecl_append (a b:List (Int×ByteArray)):ecl (a ++ b)=ecl a ++ ecl b:=by simp[ecl]
theorem ecl_one (l:List (Int×ByteArray)):∀ u∈ecl l,u.oneCell'=true:=by
 intro u hu;obtain⟨x,_,hx⟩:=List.mem_flatMap.1 hu;simp only[List.mem_cons,List.not_mem_nil,or_false] at hx;rcases hx with rfl|rfl <;> rfl
theorem ecl_take (l:List (Int×ByteArray))(k:Nat):(ecl l).take (k*2)=ecl (l.take k):=by
 induction l generalizing k with
 | nil=>simp[ecl]
 | cons x r ih=>
   cases k with
   | zero=>simp[ecl]
   | succ k=>rw[Nat.succ_mul,ecl_cons,List.take_succ_cons,List.take_succ_cons,List.take_succ_cons,ecl_cons,ih]
theorem ecl_get (l:List (Int×ByteArray))(j:Nat)(h:j<l.length):(ecl l)[j*2]? = some (.int .i64 l[j].1)/\(ecl l)[j*2+1]? = some (.string l[j].2):=by
 induction l generalizing j with
 | nil=>simp at h
 | cons x r ih=>
   cases j with
   | zero=>rw[ecl_cons];exact⟨rfl,rfl⟩
   | succ j=>
     have:=ih j (by simpa using h);rw[Nat.succ_mul,ecl_cons];exact this
def XS (w:World)(ao:Option Addr)(n cap:Nat)(l:List (Int×ByteArray)):Prop:=
 l.length=n/\n<=cap/\cap<=maxLen/\(ao=none->cap=0)/\∀ a,ao=some a->∀ j u,(ecl l)[j]? = some u->w.cell? (a.add j)=some u
section
variable {w w':World}{ao:Option Addr}{n cap:Nat}{l:List (Int×ByteArray)}
theorem XS.below (h:XS w ao n cap l){B:Nat}(hb:Below B w w')(hB:w.heap.size<=B):XS w' ao n cap l:=by
 refine⟨h.1,h.2.1,h.2.2.1,h.2.2.2.1,fun a ha j u hu=>?_⟩;have hc:=h.2.2.2.2 a ha j u hu;rw[hb.cell (Nat.lt_of_lt_of_le (World.block_lt_of_cell? w _ hc) hB)];exact hc
theorem XS.nil (w:World):XS w none 0 0 []:=⟨rfl,Nat.le_refl _,Nat.zero_le _,fun _=>rfl,fun _ h=>by cases h⟩
theorem XS.alloc (h:XS w ao n cap l)(o:Obj):XS (w.alloc o) ao n cap l:=h.below (Below.alloc (Below.refl _ _) (Nat.le_refl _) o) (Nat.le_refl _)
theorem XS_own {base e:Nat}(h:w.ownsRow base e 2 (.slice ao n cap) n (ecl l)):XS w ao n cap l:=by
 have hl:l.length=n:=by have:=h.1;rw[ecl_length] at this;omega
 rcases h.2 with ⟨h',h''⟩|⟨g',cap',cur,h',hb,hg,hnc,hcm,_⟩
 ·simp only[Value.slice.injEq] at h';obtain⟨rfl,rfl,rfl⟩:=h';obtain rfl:=List.eq_nil_of_length_eq_zero hl;exact XS.nil w
 ·simp only[Value.slice.injEq,true_and] at h';obtain⟨rfl,rfl⟩:=h';refine⟨hl,hnc,hcm,(fun h=>by cases h),fun a ha j u hu=>?_⟩;obtain rfl:=Option.some.inj ha;exact h.cells (g:=g') rfl j u hu
theorem XS.at_ (h:XS w ao n cap l)(hn:0<n):∃ blk off,ao=some ⟨blk,off,none⟩/\∀ j,(hj:j<n)->w.cell? ⟨blk,off+j*2,none⟩=some (.int .i64 (l[j]'(by rw[h.1];exact hj)).1)/\w.cell? ⟨blk,off+j*2+1,none⟩=some (.string (l[j]'(by rw[h.1];exact hj)).2):=by
 obtain⟨hl,h1,h2,h3,h4⟩:=h
 cases ao with
 | none=>have:=h3 rfl;omega
 | some a=>
   have hcell:∀ j,(hj:j<n)->w.cell? (a.add (j*2))=some (.int .i64 (l[j]'(by rw[hl];exact hj)).1)/\w.cell? (a.add (j*2+1))=some (.string (l[j]'(by rw[hl];exact hj)).2):=fun j hj=>by
    obtain⟨e1,e2⟩:=ecl_get l j (by rw[hl];exact hj);exact⟨h4 a rfl _ _ e1,h4 a rfl _ _ e2⟩
   obtain⟨b,off,spot⟩:=a;have h0:=(hcell 0 hn).1;have hs:spot=none:=by simpa[Addr.add] using World.cell?_spot h0
   subst hs;exact⟨b,off,rfl,fun j hj=>by have:=hcell j hj;rwa[Addr.add_lit,Addr.add_lit,<-Nat.add_assoc] at this⟩
end
def XB (w:World)(g:Nat)(x:Int×ByteArray):Prop:=w.heap[g]? = some (.cells #[.int .i64 x.1,.string x.2] 211 (0,0))
section
variable {w w':World}{g:Nat}{x:Int×ByteArray}
theorem XB.c0 (h:XB w g x):w.cell? ⟨g,0,none⟩=some (.int .i64 x.1):=by rw[cell_of_row w g 0 _ _ _ h];rfl
theorem XB.c1 (h:XB w g x):w.cell? ⟨g,1,none⟩=some (.string x.2):=by rw[cell_of_row w g 1 _ _ _ h];rfl
theorem XB.below {B:Nat}(h:XB w g x)(hb:Below B w w')(hg:g<B):XB w' g x:=(hb.block g hg).trans h
theorem XB.new {y:Nat}(w:World)(a:Int)(d:ByteArray)(hx:y=w.heap.size):XB (w.alloc (.cells #[.int .i64 a,.string d] 211)) y (a,d):=by subst hx;exact heap_alloc_new w _
end
def I64 (a:Int):Prop:=-9223372036854775808<=a/\a<=9223372036854775807
theorem end_any (a:Int)(d:ByteArray)(w:World)(h1 : -9223372036854775808<=a)(h2:a+d.size<=9223372036854775807) :
 Calls prog 158 #[.agg #[.int .i64 a,.string d]] w fun e w'=>e=.returned (.int .i64 (a+d.size))/\Below w.heap.size w w':=by
 have bb:Below w.heap.size w (w.alloc (.cells #[.int .i64 a,.string d] 211)):=(Below.refl _ _).alloc (Nat.le_refl _) _;go_enter func158,ntmps158
 go_wp2_with fail
 go_ret
 exact⟨rfl,bb⟩
theorem fits_any (a:Int)(d:ByteArray)(w:World)(h1:I64 a)(h2:d.size<=maxLen) :
 Calls prog 156 #[.int .i64 a,.string d] w fun e w'=>e=.returned (.bool (decide (a+d.size<=1048576)))/\w=w':=by
 obtain⟨h3,h4⟩:=h1;unfold maxLen at h2;go_enter func156,ntmps156
 go_wp2_with fail
 go_ret
 exact⟨ret_bool (decide_eq_decide.2 (by omega)),rfl⟩
theorem xempty {s:ByteArray}(h:s.size=0):s.toList=[]/\s.toList.isEmpty=true:=by
 have:s.data.toList=[]:=List.eq_nil_of_length_eq_zero (by rw[EM.list_size];exact h);rw[ByteArray.toList_eq,this];exact⟨rfl,rfl⟩
theorem xfull {s:ByteArray}(h:s.size≠0):(s.toList=[])=False/\s.toList.isEmpty=false:=by
 have hl:=EM.list_size s;rw[ByteArray.toList_eq]
 cases he:s.data.toList with
 | nil=>rw[he] at hl;exact absurd hl.symm h
 | cons c r=>exact⟨by simp,rfl⟩
def XFit (l:List (Int×ByteArray)):Prop:=∀ x∈l,I64 x.1/\x.2.size<=maxLen
theorem xvalid_any (ao:Option Addr)(n cap:Nat)(l:List (Int×ByteArray))(w:World)(h:XS w ao n cap l)(hf:XFit l) :
 Calls prog 153 #[.slice ao n cap] w fun e w'=>e=.returned (.bool (EM.ok 0 l))/\Below w.heap.size w w':=by
 have hn:n<=9223372036854775807:=by have:=h.2.1;have:=h.2.2.1;unfold maxLen at *;omega
 have L:=Wd h.1;have hfit:=Wd hf;have hno:=Wd (fun k hk h=>@EM.ok_no 0 l k hk h);have hgo:=Wd (fun k hk h=>@EM.ok_next 0 l k hk h);have hle:=Wd (fun k (h:EM.ok 0 (l.take k)=true)=>EM.nxt_le h (by decide));have H:=Wd h;clear h hf;go_enter func153,ntmps153
 go_wp2_with fail
 go_loopw [3,8] (fun f i wr=>∃ (k:Nat) (b:Int),k<=n/\i=.int .i64 k/\f=.int .i64 b/\Hid (EM.ok 0 (l.take k)=true/\EM.nxt 0 (l.take k)=b)/\Below w.heap.size w wr) (fun _ i _=>n-(intOf i).toNat)
 case atStart=>exact⟨0,0,Nat.zero_le _,rfl,rfl,Wd ⟨rfl,rfl⟩,Below.refl _ _⟩
 case round=>
  obtain⟨k,b,hk,rfl,rfl,hok,bel⟩:=hrel;obtain⟨hb0,hb1⟩:0<=b/\b<=1048577:=by have:=hle.out k hok.out.1;rw[hok.out.2] at this;exact this
  by_cases hlt:k<n
  ·obtain⟨b1,o1,rfl,g1⟩:=(H.out.below bel (Nat.le_refl _)).at_ (by omega);have k1:k<l.length:=by rw[L.out];exact hlt
   obtain⟨e1,e2⟩:=g1 k hlt;have hft:=hfit.out l[k] (List.getElem_mem k1);have hno:=Wd (hno.out k k1);have hgo:=Wd (hgo.out k k1);obtain⟨⟨a,d⟩,hx⟩:∃ x,l[k]=x:=⟨_,rfl⟩;simp only[hx] at e1 e2 hft hno hgo;obtain⟨⟨ha1,ha2⟩,hd⟩:=hft;clear hx g1 k1
   by_cases h0:d.size=0
   ·obtain⟨s1,s2⟩:=xempty h0;have hh:Hid (EM.ok 0 l=false):=hno.out (.inl h0);clear hno hgo h0;go_wp2_with fail
    go_ret
    exact⟨ret_bool hh.out.symm,bel.alloc bel.size _⟩
   obtain⟨s1,s2⟩:=xfull h0
   by_cases h1:a<b
   ·have hh:Hid (EM.ok 0 l=false):=hno.out (.inr (.inl (by rw[hok.out.2];exact h1)));clear hno hgo h0;go_wp2_with fail
    go_ret
    exact⟨ret_bool hh.out.symm,bel.alloc bel.size _⟩
   by_cases h2:a+d.size<=1048576
   ·have hc:Hid (∀ w,Calls prog 156 #[.int .i64 a,.string d] w fun e w'=>e=.returned (.bool true)/\w=w'):=by
     intro w;have:=fits_any a d w ⟨ha1,ha2⟩ hd;rwa[decide_eq_true h2] at this
    have hend:=Wd (fun w=>end_any a d w ha1 (by omega));have hnx:=Wd (hgo.out hok.out.1 (by omega) (by rw[hok.out.2];show b<=a;omega) h2);clear hno hgo h0;go_wp2_with fail
    refine (hc.out _).mono ?_;rintro e w' ⟨rfl,rfl⟩;go_wp2_with fail
    refine (hend.out _).mono ?_;rintro e w2 ⟨rfl,bel2⟩;have bel3:=bel.alloc bel.size (.cells #[.int .i64 a,.string d] 211);go_wp2_with fail
    go_roundw
    case rel=>exact⟨k+1,a+d.size+1,by omega,by go_num,rfl,hnx,bel3.trans (bel2.mono bel3.size)⟩
    case measure=>simp[intOf];omega
   ·have hc:Hid (∀ w,Calls prog 156 #[.int .i64 a,.string d] w fun e w'=>e=.returned (.bool false)/\w=w'):=by
     intro w;have:=fits_any a d w ⟨ha1,ha2⟩ hd;rwa[decide_eq_false h2] at this
    have hh:Hid (EM.ok 0 l=false):=hno.out (.inr (.inr (by show (1048576:Int)<a+d.size;omega)));clear hno hgo h0;go_wp2_with fail
    refine (hc.out _).mono ?_;rintro e w' ⟨rfl,rfl⟩;go_wp2_with fail
    go_ret
    exact⟨ret_bool hh.out.symm,bel.alloc bel.size _⟩
  ·obtain rfl:k=n:=by omega
   have hh:Hid (EM.ok 0 l=true):=by
    have:=hok.out.1;rwa[List.take_of_length_le (by rw[L.out];exact Nat.le_refl _)] at this
   clear hok hno hgo;go_wp2_with fail
   go_ret
   exact⟨ret_bool hh.out.symm,bel⟩
theorem count_any (ao:Option Addr)(n cap:Nat)(l:List (Int×ByteArray))(w:World)(h:XS w ao n cap l)(hc:EM.cnt l<=4611686018427387904) :
 Calls prog 186 #[.slice ao n cap] w fun e w'=>e=.returned (.int .i64 (EM.cnt l))/\Below w.heap.size w w':=by
 have hn:n<=9223372036854775807:=by have:=h.2.1;have:=h.2.2.1;unfold maxLen at *;omega
 have L:=Wd h.1;have H:=Wd h;have hle:=Wd (fun k=>Nat.le_trans (EM.cnt_take l k) hc);clear h hc;go_enter func186,ntmps186
 go_wp2_with fail
 go_loopw [3,8] (fun f i wr=>∃ (k b:Nat),k<=n/\i=.int .i64 k/\f=.int .i64 b/\Hid (EM.cnt (l.take k)=b)/\Below w.heap.size w wr) (fun _ i _=>n-(intOf i).toNat)
 case atStart=>exact⟨0,0,Nat.zero_le _,rfl,rfl,Wd rfl,Below.refl _ _⟩
 case round=>
  obtain⟨k,b,hk,rfl,rfl,hok,bel⟩:=hrel
  by_cases hlt:k<n
  ·obtain⟨b1,o1,rfl,g1⟩:=(H.out.below bel (Nat.le_refl _)).at_ (by omega);have k1:k<l.length:=by rw[L.out];exact hlt
   obtain⟨e1,e2⟩:=g1 k hlt;have hnext:Hid (EM.cnt (l.take (k+1))=b+l[k].2.size):=by
    show _=_
    rw[EM.take_snoc l k k1,EM.cnt_append,EM.cnt_one,hok.out]
   have hbb:b+l[k].2.size<=4611686018427387904:=by rw[<-hnext.out];exact hle.out _
   obtain⟨⟨a,d⟩,hx⟩:∃ x,l[k]=x:=⟨_,rfl⟩;simp only[hx] at e1 e2 hnext hbb;clear hx g1 k1 hok;have bel3:=bel.alloc bel.size (.cells #[.int .i64 a,.string d] 211);go_wp2_with fail
   go_roundw
   case rel=>exact⟨k+1,b+d.size,by omega,by go_num,by go_num,hnext,bel3⟩
   case measure=>simp[intOf];omega
  ·obtain rfl:k=n:=by omega
   have hh:Hid (EM.cnt l=b):=by
    have:=hok.out;rwa[List.take_of_length_le (by rw[L.out];exact Nat.le_refl _)] at this
   clear hok;go_wp2_with fail
   go_ret
   exact⟨ret_int (by rw[hh.out]),bel⟩
def ends:List (Int×ByteArray)->Int
 | []=>0
 | x :: r=>EM.nxt 0 (x :: r)-1
theorem endsBy_any (ao:Option Addr)(n cap:Nat)(l:List (Int×ByteArray))(s:Int)(w:World)(h:XS w ao n cap l)(hv:EM.ok 0 l=true)(hs:0<=s/\s<=1048576) :
 Calls prog 154 #[.slice ao n cap,.int .i64 s] w fun e w'=>e=.returned (.bool (decide (ends l<=s)))/\Below w.heap.size w w':=by
 have hn:n<=9223372036854775807:=by have:=h.2.1;have:=h.2.2.1;unfold maxLen at *;omega
 rcases List.eq_nil_or_concat l with rfl|⟨q,⟨a,d⟩,rfl⟩
 ·have hl:=h.1;simp only[List.length_nil] at hl;subst hl;have hh:Hid (decide (ends []<=s)=true):=Wd (decide_eq_true (show ends []<=s from hs.1));clear h hv hs;go_enter func154,ntmps154
  go_wp2_with fail
  go_ret
  exact⟨ret_bool hh.out.symm,Below.refl _ _⟩
 ·rw[List.concat_eq_append] at *;have hl:=h.1;rw[List.length_append,List.length_cons,List.length_nil] at hl;subst hl;obtain⟨b1,o1,rfl,g1⟩:=h.at_ (by omega);obtain⟨e1,e2⟩:=g1 q.length (by omega);simp only[List.getElem_append_right (Nat.le_refl q.length),Nat.sub_self,List.getElem_cons_zero] at e1 e2;obtain⟨-,o0,o2,o3⟩:=EM.ok_at hv q.length (by simp);simp only[List.getElem_append_right (Nat.le_refl q.length),Nat.sub_self,List.getElem_cons_zero,List.take_left'] at o0 o2 o3;have o4:0<=a:=by
   have hq:EM.ok 0 q=true:=by
    have:=hv;rw[EM.ok_append,Bool.and_eq_true] at this;exact this.1
   have:=(EM.nxt_le hq (by decide)).1;have:EM.nxt 0 q<=a:=o2
   omega
  have o5:a+d.size<=1048576:=o3;have hh:Hid (decide (ends (q ++ [(a,d)])<=s)=decide (a+d.size<=s)):=by
   have:ends (q ++ [(a,d)])=a+d.size:=by
    have e:EM.nxt 0 (q ++ [(a,d)])=a+d.size+1:=EM.nxt_snoc 0 q (a,d)
    cases hq:q ++ [(a,d)] with
    | nil=>simp at hq
    | cons x r=>rw[hq] at e;show EM.nxt 0 (x :: r)-1=_;omega
   show _=_
   rw[this]
  have hend:=Wd (fun w=>end_any a d w (by omega) (by omega));have n1:((q.length:Int)+1 == 0)=false:=by simp;omega
  have n2:((q.length:Int)+1-1)=q.length:=by omega
  clear h hv g1 o0 o2 o3;go_enter func154,ntmps154
  go_wp2_with fail
  refine (hend.out _).mono ?_;rintro e w2 ⟨rfl,bel2⟩;go_wp2_with fail
  go_ret
  exact⟨ret_bool (by rw[hh.out]),bel2⟩
end Go.Proofs.YtfffibepcdlldaaGreat

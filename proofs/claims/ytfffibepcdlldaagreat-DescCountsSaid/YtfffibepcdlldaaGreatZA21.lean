/- A part. -/
import Derived.Test.YtfffibepcdlldaaGreatZA01
import Derived.StringKeys
import Derived.Sort.MapsRangeIn
import Derived.Test.YtfffibepcdlldaaGreatZA11
import Derived.Test.YtfffibepcdlldaaGreatZA05
import Derived.Test.YtfffibepcdlldaaGreatZA13
set_option linter.unusedVariables false
set_option linter.unusedSimpArgs false
set_option maxRecDepth 100000
set_option maxHeartbeats 64000000
open Go.Proofs.Tryz

namespace Go.Proofs.YtfffibepcdlldaaGreat
open Go.ChangeShapes Go.WideShapes Go.ChangeAt Go.RowKit Go.Maps
open Go.WideElems (Fit rd rg pl rd_val rd_key rg_of)
namespace NS
def nv (x:Int×Option Nat):Value:=.agg #[.int .i64 x.1,IS.ptr x.2]
def nd (x:Int×Option Nat):DataW Unit:=.agg [.lit (.int .i64 x.1),IS.pd x.2]
def PR:Value->Option (DataW Unit×List MemPlace)
 | .agg cs=>match cs.toList with
   | [.int .i64 n,p]=>(IS.PR p).map fun z=>(.agg [.lit (.int .i64 n),z.1],[])
   | _=>none
 | _=>none
theorem PR_nv (x:Int×Option Nat):PR (nv x)=some (nd x,[]):=by simp[PR,nv,nd,IS.PR_ptr]
theorem PR_inv {v:Value}{x:Int×Option Nat}{ps:List MemPlace}(h:PR v=some (nd x,ps)):v=nv x:=by
 unfold PR at h
 split at h
 ·rename_i cs
  split at h
  ·rename_i n p e
   obtain⟨cs⟩:=cs;simp only at e;subst e
   cases hp:IS.PR p with
   | none=>rw[hp] at h;cases h
   | some z=>
     rw[hp] at h;simp only[Option.map_some,nd,Option.some.injEq,Prod.mk.injEq,DataW.agg.injEq,List.cons.injEq,DataW.lit.injEq,Lit.int.injEq,true_and,and_true] at h;obtain⟨⟨h1,h2⟩,-⟩:=h;obtain⟨z1,z2⟩:=z;simp only at h2;subst h2;have:=IS.PR_inv hp;subst h1 this
     rfl
  ·cases h
 ·cases h
theorem und_map:prog.underlying 86=some (.map 9 84):=by kernel_rfl
theorem und_str:prog.underlying 9=some .string:=by kernel_rfl
theorem keyed_str:Keyed prog 9:=string_keyed und_str
def key (k:ByteArray):Lit:=.string k.data.toList
def Sm (k:ByteArray):Prop:=k.size<=maxLen
theorem key_of (k:ByteArray)(h:Sm k):keyOf prog 9 (.string k)=some (key k):=WideMaps.keyOf_string_mk und_str h
theorem key_inj {f g:ByteArray}(h:key f=key g):f=g:=by
 simp only[key,Lit.string.injEq] at h;have:=Array.toList_inj.1 h;exact ByteArray.ext this
theorem key_ne {f g:ByteArray}(h:f≠g):key f≠key g:=fun e=>h (key_inj e)
theorem isKey (f:ByteArray)(h:Sm f):WideAt.IsKeyLit (key f):=keyed_str.key (key_of f h)
theorem zero_node (w:World):(zeroValue 84).run prog w=.ok (nv (0,none)) w:=by kernel_rfl
def Nums (M:ByteArray->Option (Int×Option Nat))(ss:List ByteArray):Prop:=ss.Nodup/\∀ f,f∈ss↔M f≠none
theorem nodup_sub {α:Type} [DecidableEq α]:∀ (l m:List α),l.Nodup->(∀ x∈l,x∈m)->l.length<=m.length
 | [],_,_,_=>Nat.zero_le _
 | a :: l,m,hn,h=>by
   have hn':=List.nodup_cons.1 hn;have h1:=nodup_sub l (m.erase a) hn'.2 (fun x hx=>by
    have hm:=h x (List.mem_cons_of_mem _ hx);exact (List.mem_erase_of_ne (fun e=>hn'.1 (by rw[<-e];exact hx))).2 hm)
   have ha:=h a List.mem_cons_self;rw[List.length_erase_of_mem ha] at h1;have:0<m.length:=List.length_pos_of_mem ha;simp only[List.length_cons]
   omega
theorem Nums.len_eq {M:ByteArray->Option (Int×Option Nat)}{a b:List ByteArray}(ha:Nums M a)(hb:Nums M b):a.length=b.length:=
 Nat.le_antisymm (nodup_sub a b ha.1 fun x hx=>(hb.2 x).2 ((ha.2 x).1 hx)) (nodup_sub b a hb.1 fun x hx=>(ha.2 x).2 ((hb.2 x).1 hx))
structure MB (w:World)(b:Nat)(M:ByteArray->Option (Int×Option Nat)):Prop where
 ex:∃ D:DataW Unit,w.ownsMap prog 9 PR b (Maps.size D) D/\(∀ f,Sm f->Maps.has D (key f)=(M f).isSome)/\(∀ f x,Sm f->M f=some x->∀ z,D.atKey (key f) z=nd x)
 bound:∀ f,M f≠none->Sm f
section
variable {w w':World}{b:Nat}{M:ByteArray->Option (Int×Option Nat)}
theorem own_nums {n:Nat}{D:DataW Unit}(h:w.ownsMap prog 9 PR b n D)(hf:∀ f,Sm f->Maps.has D (key f)=(M f).isSome)(hb:∀ f,M f≠none->Sm f):∃ ss,Nums M ss/\ss.length=Maps.size D:=by
 obtain⟨es0,rfl,hne,-⟩:=h.entries keyed_str;obtain⟨es,clock,hbk,F,hs,hD⟩:=h;simp only[DataW.map.injEq] at hD;have hk:∀ p∈es0,∃ f:ByteArray,p.1=key f/\M f≠none:=by
  intro p hp;have hp0:=hp;rw[hD] at hp;obtain⟨v,hv⟩:=fit_keys F p (mem_sorted.1 hp);obtain⟨x,rfl,hx,hsz⟩:=WideMaps.string_of_keyOf und_str hv;have hI:Sm x:=hsz;have hh:=hf x hI;have h1:Maps.has (DataW.map es0) (key x)=true:=by
   rw[Maps.has_eq];exact List.any_eq_true.2 ⟨p,hp0,by rw[hx];exact WideAt.sameKey_self (isKey x hI)⟩
  rw[h1] at hh;have hM:M x≠none:=fun e=>by rw[e] at hh;cases hh
  exact⟨x,hx,hM⟩
 refine⟨es0.map fun p=>match p.1 with | .string l=>⟨l.toArray⟩|_=>ByteArray.empty,⟨?_,fun f=>?_⟩,by simp[Maps.size]⟩
 ·unfold List.Nodup;rw[List.pairwise_map];refine hne.imp_of_mem ?_;intro p q hp hq hpq;obtain⟨f,e1,-⟩:=hk p hp;obtain⟨g,e2,-⟩:=hk q hq;rw[e1,e2] at hpq;rw[e1,e2];intro hfg
  apply hpq
  simp only[key] at hfg;rw[show f=g from hfg]
 ·rw[List.mem_map]
  constructor
  ·rintro ⟨p,hp,rfl⟩;obtain⟨f,e1,hM⟩:=hk p hp;rw[e1];exact hM
  ·intro hM;have hbd:=hb f hM;have h1:=hf f hbd;have h2:Maps.has (DataW.map es0) (key f)=true:=by
    rw[h1]
    cases e:M f with
    | none=>exact absurd e hM
    | some _=>rfl
   rw[Maps.has_eq] at h2;obtain⟨p,hp,hs⟩:=List.any_eq_true.1 h2;obtain⟨g,e1,-⟩:=hk p hp;refine⟨p,hp,?_⟩;rw[e1] at hs ⊢;have:g=f:=by
    simp only[key,Lit.sameKey] at hs;have hs':g.data.toList=f.data.toList:=by simpa using hs
    exact ByteArray.ext (Array.toList_inj.1 hs')
   exact this
theorem own_tight {n:Nat}{D:DataW Unit}(h:w.ownsMap prog 9 PR b n D):w.ownsMap prog 9 PR b (Maps.size D) D:=by
 obtain⟨es,clock,hb,F,hs,rfl⟩:=h;exact⟨es,clock,hb,F,by simp[Maps.size,length_sorted],rfl⟩
theorem MB.congr (h:MB w b M){M':ByteArray->Option (Int×Option Nat)}(hM:∀ f,M f=M' f):MB w b M':=by
 obtain rfl:M=M':=funext hM;exact h
theorem MB.lt (h:MB w b M):b<w.heap.size:=by obtain⟨D,ho,_⟩:=h.ex;exact ho.lt
theorem MB.obj (h:MB w b M):∃ es c,w.heap[b]? = some (.map es c):=by
 obtain⟨D,⟨es,clock,hb,_⟩,_⟩:=h.ex;exact⟨es,clock,hb⟩
theorem MB.heap (h:MB w b M)(e:w'.heap[b]? = w.heap[b]?):MB w' b M:=by
 obtain⟨⟨D,⟨es,clock,hb,F,hs,hD⟩,h1,h2⟩,hbd⟩:=h;exact⟨⟨D,⟨es,clock,e.trans hb,F,hs,hD⟩,h1,h2⟩,hbd⟩
theorem MB.keep (h:MB w b M)(hb:Below w.heap.size w w'):MB w' b M:=h.heap (hb.block b h.lt)
theorem MB.far (h:MB w b M){p:Addr}(hp:b≠p.block)(u:Value):MB (w.setCell p u) b M:=h.heap (Below.heap_setCell w p u b hp)
theorem MB.alloc (h:MB w b M)(o:Obj):MB (w.alloc o) b M:=h.heap (Below.heap_alloc w o b h.lt)
theorem MB.drew (h:MB w b M)(t:Nat):MB (w.drewN t) b M:=h.heap rfl
theorem MB.look (h:MB w b M)(f:ByteArray)(hf:Sm f) :
 (Instr.lookup 86 (.map (some b)) (.string f) true).run prog w=.ok (.tuple #[nv ((M f).getD (0,none)),.bool (M f).isSome]) w:=by
 obtain⟨⟨D,ho,h1,h2⟩,hb⟩:=h;obtain⟨v,ps,hrun,hv⟩:=ho.look_ok keyed_str und_map (zero_node w) (PR_nv (0,none)) (key_of f hf);have e:v=nv ((M f).getD (0,none)):=by
  apply PR_inv (ps:=ps)
  rw[hv]
  cases hm:M f with
  | none=>have:=h1 f hf;rw[hm] at this;rw[Maps.atKey_of_not_has (by simpa using this)];rfl
  | some x=>rw[h2 f x hf hm];rfl
 rw[hrun,e,h1 f hf]
theorem MB.count (h:MB w b M){ss:List ByteArray}(hs:Nums M ss)(ty:TypeId):(Builtin.len_ #[86] ty #[.map (some b)]).run prog w=.ok (.int .i64 (ss.length:Int)) w:=by
 obtain⟨⟨D,ho,h1,h2⟩,hb⟩:=h;obtain⟨ss',h3,h4⟩:=own_nums ho h1 hb;rw[ho.len und_map ty,<-h4,h3.len_eq hs]
def upd (M:ByteArray->Option (Int×Option Nat))(f:ByteArray)(x:Option (Int×Option Nat)):ByteArray->Option (Int×Option Nat):=fun g=>if g=f then x else M g
theorem MB.put (h:MB w b M)(f:ByteArray)(x:Int×Option Nat)(hf:Sm f)(hfew:∀ ss,Nums M ss->ss.length<65536) :
 ∃ w',(Instr.mapUpdate 86 (.map (some b)) (.string f) (nv x)).run prog w=.ok () w'/\MB w' b (upd M f (some x))/\w.grownBy w' (some b)/\w'.heap.size=w.heap.size:=by
 obtain⟨⟨D,ho,h1,h2⟩,hb⟩:=h;obtain⟨ss,hN,hL⟩:=own_nums ho h1 hb;have hsz:Maps.size D<65536:=by
  rw[<-hL];exact hfew ss hN
 obtain⟨w',hrun,ho',ht⟩:=ho.store keyed_str und_map (by unfold maxLen;omega) (key_of f hf) (PR_nv x);refine⟨w',hrun,⟨⟨_,own_tight ho',fun k hk=>?_,fun k vs hk hv z=>?_⟩,fun k hk=>?_⟩,ht.grown,?_⟩
 ·unfold upd
  by_cases e:k=f
  ·subst e;rw[if_pos rfl,Maps.has_put_same ho.isMap (isKey k hk)];rfl
  ·rw[if_neg e,Maps.has_put_other (key_ne e),h1 k hk]
 ·unfold upd at hv
  by_cases e:k=f
  ·subst e;rw[if_pos rfl] at hv;cases hv;exact Maps.atKey_put_same ho.isMap (isKey k hk) _ _
  ·rw[if_neg e] at hv;rw[Maps.atKey_put_other (key_ne e)];exact h2 k vs hk hv z
 ·unfold upd at hk
  by_cases e:k=f
  ·rw[e];exact hf
  ·rw[if_neg e] at hk;exact hb k hk
 ·obtain⟨es,c,es',c',hbb,rfl⟩:=ht;simp[ChangeMaps.setBlock]
theorem MB.del (h:MB w b M)(f:ByteArray)(hf:Sm f)(ty:TypeId) :
 ∃ w',(Builtin.delete_ #[86,9] ty #[.map (some b),.string f]).run prog w=.ok (.tuple #[]) w'/\MB w' b (upd M f none)/\w.grownBy w' (some b)/\w'.heap.size=w.heap.size:=by
 obtain⟨⟨D,ho,h1,h2⟩,hb⟩:=h;obtain⟨w',hrun,ho',ht⟩:=ho.drop keyed_str und_map (key_of f hf) ty;refine⟨w',hrun,⟨⟨_,own_tight ho',fun g hg=>?_,fun g vs hg hv z=>?_⟩,fun g hg=>?_⟩,ht.grown,?_⟩
 ·unfold upd
  by_cases e:g=f
  ·subst e;rw[if_pos rfl,Maps.has_del_same];rfl
  ·rw[if_neg e,Maps.has_del_other (key_ne e),h1 g hg]
 ·unfold upd at hv
  by_cases e:g=f
  ·rw[if_pos e] at hv;cases hv
  ·rw[if_neg e] at hv;rw[Maps.atKey_del_other (key_ne e)];exact h2 g vs hg hv z
 ·unfold upd at hg
  by_cases e:g=f
  ·rw[if_pos e] at hg;exact absurd rfl hg
  ·rw[if_neg e] at hg;exact hb g hg
 ·obtain⟨es,c,es',c',hbb,rfl⟩:=ht;simp[ChangeMaps.setBlock]
theorem MB.new (w:World):MB (w.alloc (.map #[] 0)) w.heap.size (fun _=>none):=
 ⟨⟨.map [],own_tight (World.ownsMap_made w _ _ PR),fun _ _=>rfl,fun _ _ _ h=>by cases h⟩,fun _ h=>absurd rfl h⟩
end
end NS
end Go.Proofs.YtfffibepcdlldaaGreat

namespace Go.Proofs.YtfffibepcdlldaaGreat
namespace NT
structure Dr where
 up:Int
 l:List (ByteArray×Int)
abbrev Ds:=Int->Option Dr
def upd (D:Ds)(n:Int)(x:Option Dr):Ds:=fun m=>if m=n then x else D m
theorem upd_at (D:Ds)(n:Int)(x:Option Dr):upd D n x n=x:=if_pos rfl
theorem upd_ne {D:Ds}{n m:Int}{x:Option Dr}(h:m≠n):upd D n x m=D m:=if_neg h
def look (k:ByteArray):List (ByteArray×Int)->Option Int
 | []=>none
 | x :: l=>if x.1=k then some x.2 else look k l
def blt (a b:ByteArray):Bool:=Op.bytesLess a.toList b.toList
def ins (k:ByteArray)(n:Int):List (ByteArray×Int)->List (ByteArray×Int)
 | []=>[(k,n)]
 | x :: l=>if blt x.1 k=true then x :: ins k n l else (k,n) :: x :: l
def del (k:ByteArray)(l:List (ByteArray×Int)):List (ByteArray×Int):=l.filter fun x=>decide (x.1≠k)
def put (k:ByteArray)(n:Int)(l:List (ByteArray×Int)):List (ByteArray×Int):=ins k n (del k l)
theorem look_ins (k:ByteArray)(n:Int)(j:ByteArray):∀ l,look k l=none->look j (ins k n l)=if j=k then some n else look j l
 | [],_=>by
   by_cases h:j=k
   ·subst h;simp[ins,look]
   ·simp[ins,look,h,Ne.symm h]
 | x :: l,h=>by
   have hx:x.1≠k:=fun e=>by simp[look,e] at h
   have hl:look k l=none:=by simpa[look,hx] using h
   unfold ins
   split
   ·rename_i hb
    unfold look;rw[look_ins k n j l hl]
    by_cases e:x.1=j
    ·have:j≠k:=fun e'=>hx (e.trans e');simp[e,this]
    ·simp[e]
   ·by_cases e:j=k
    ·subst e;simp[look]
    ·simp[look,e,Ne.symm e]
theorem look_del (k j:ByteArray):∀ l,look j (del k l)=if j=k then none else look j l
 | []=>by simp[del,look]
 | x :: l=>by
   have ih:=look_del k j l;unfold del at ih ⊢
   by_cases hx:x.1=k
   ·rw[List.filter_cons_of_neg (by simp[hx]),ih]
    by_cases e:j=k
    ·simp[e]
    ·have:x.1≠j:=fun e'=>e (e'.symm.trans hx);simp[look,e,this]
   ·rw[List.filter_cons_of_pos (by simp[hx])];unfold look;rw[ih]
    by_cases e:j=k
    ·subst e;simp[hx]
    ·simp[e]
theorem look_put (k:ByteArray)(n:Int)(j:ByteArray)(l:List (ByteArray×Int)):look j (put k n l)=if j=k then some n else look j l:=by
 unfold put;rw[look_ins k n j _ (by rw[look_del,if_pos rfl]),look_del]
 by_cases e:j=k
 ·simp[e]
 ·simp[e]
theorem look_mem {k:ByteArray}{n:Int}:∀ {l},look k l=some n->(k,n)∈l
 | [],h=>by cases h
 | x :: l,h=>by
   unfold look at h
   split at h
   ·rename_i e
    cases h
    subst e;exact List.mem_cons_self
   ·exact List.mem_cons_of_mem _ (look_mem h)
def step (D:Ds)(n:Int)(x:ByteArray):Except Int Int:=match D n with
 | none=>.error 13
 | some d=>if x=PM.dot then .ok n else if x=PM.dots then .ok d.up else match look x d.l with
   | none=>.error 11
   | some m=>.ok m
def goes (D:Ds):Int->List ByteArray->Except Int Int
 | n,[]=>.ok n
 | n,x :: xs=>match step D n x with
   | .error e=>.error e
   | .ok m=>goes D m xs
theorem goes_snoc (D:Ds):∀ (xs:List ByteArray) (n:Int) (x:ByteArray),goes D n (xs ++ [x])=(match goes D n xs with
 | .error e=>.error e
 | .ok m=>step D m x)
 | [],n,x=>by
   simp only[List.nil_append,goes]
   cases step D n x <;> rfl
 | y :: ys,n,x=>by
   simp only[List.cons_append,goes]
   cases step D n y with
   | error e=>rfl
   | ok m=>exact goes_snoc D ys m x
def find (D:Ds)(l:List ByteArray)(dir:Bool):Except Int Int:=match goes D 1 l with
 | .error e=>.error e
 | .ok n=>if dir=true/\D n=none then .error 13 else .ok n
def place (D:Ds)(l:List ByteArray)(nameless:Int):Except Int Int:=if l=[] then .error nameless else match goes D 1 l.dropLast with
 | .error e=>.error e
 | .ok n=>if D n=none then .error 13 else .ok n
def at_ (D:Ds)(n:Int)(k:ByteArray):Option Int:=match D n with
 | none=>none
 | some d=>look k d.l
def er {α:Type}:Except Int α->Int
 | .error e=>e
 | .ok _=>0
theorem step_er {D:Ds}{n:Int}{x:ByteArray}{e:Int}(h:step D n x=.error e):e≠0:=by
 unfold step at h
 split at h
 ·cases h;decide
 ·split at h
  ·cases h
  ·split at h
   ·cases h
   ·split at h <;> cases h
    decide
theorem goes_er {D:Ds}{e:Int}:∀ {l:List ByteArray} {n:Int},goes D n l=.error e->e≠0
 | [],n,h=>by cases h
 | x :: xs,n,h=>by
   unfold goes at h
   split at h
   ·rename_i e' he
    cases h
    exact step_er he
   ·exact goes_er h
end NT
end Go.Proofs.YtfffibepcdlldaaGreat

namespace Go.Proofs.YtfffibepcdlldaaGreat
open Go.ChangeShapes Go.WideShapes Go.ChangeAt Go.RowKit Go.Maps
namespace NT
open IN (Keeps)
def pa (A:Int->Option (Nat×Nat))(n:Int):Option Nat:=(A n).map (·.1)
def nm (A:Int->Option (Nat×Nat))(l:List (ByteArray×Int)):ByteArray->Option (Int×Option Nat):=fun k=>(look k l).map fun j=>(j,pa A j)
def dcl (A:Int->Option (Nat×Nat))(d:Dr)(m:Nat):List Value:=[.int .i64 d.up,IS.ptr (pa A d.up),.map (some m)]
structure TM (base:Nat)(w:World)(tg sg mb:Nat)(A:Int->Option (Nat×Nat))(D:Ds):Prop where
 box:Blk w tg 90 [.pointer (some ⟨sg,0,none⟩),.int .i64 1,IS.ptr (pa A 1)]
 dom:∀ n,A n=none↔D n=none
 root:D 1≠none
 dir:∀ n g m d,A n=some (g,m)->D n=some d->Blk w g 88 (dcl A d m)/\NS.MB w m (nm A d.l)
 inj:∀ n n' g m g' m',A n=some (g,m)->A n'=some (g',m')->n≠n'->g≠g'/\m≠m'
 ge:base<=tg/\∀ n g m,A n=some (g,m)->base<=g/\base<=m/\m≠mb
def DT (A:Int->Option (Nat×Nat))(k:Nat)(o:Obj):Prop:=(∃ n m,A n=some (k,m))∨∃ n g,A n=some (g,k)
section
variable {base:Nat}{w w':World}{tg sg mb:Nat}{A:Int->Option (Nat×Nat)}{D:Ds}
theorem TM.low (h:TM base w tg sg mb A D):base<=w.heap.size:=Nat.le_trans h.ge.1 (Nat.le_of_lt h.box.lt)
theorem TM.has (h:TM base w tg sg mb A D){n:Int}{d:Dr}(hD:D n=some d):∃ g m,A n=some (g,m)/\Blk w g 88 (dcl A d m)/\NS.MB w m (nm A d.l):=by
 cases hA:A n with
 | none=>rw[(h.dom n).1 hA] at hD;cases hD
 | some x=>
   obtain⟨g,m⟩:=x;exact⟨g,m,rfl,h.dir n g m d hA hD⟩
theorem TM.hasA (h:TM base w tg sg mb A D){n:Int}{g m:Nat}(hA:A n=some (g,m)):∃ d,D n=some d/\Blk w g 88 (dcl A d m)/\NS.MB w m (nm A d.l):=by
 cases hD:D n with
 | none=>rw[(h.dom n).2 hD] at hA;cases hA
 | some d=>exact⟨d,rfl,h.dir n g m d hA hD⟩
theorem TM.moved (h:TM base w tg sg mb A D)(h1:w'.heap[tg]? = w.heap[tg]?)(h2:∀ n g m,A n=some (g,m)->w'.heap[g]? = w.heap[g]?/\w'.heap[m]? = w.heap[m]?):TM base w' tg sg mb A D:=
 ⟨h1.trans h.box,h.dom,h.root,fun n g m d hA hD=>by
  obtain⟨p,q⟩:=h.dir n g m d hA hD;obtain⟨e1,e2⟩:=h2 n g m hA;exact⟨e1.trans p,q.heap e2⟩,h.inj,h.ge⟩
theorem TM.keep (h:TM base w tg sg mb A D)(hb:Below w.heap.size w w'):TM base w' tg sg mb A D:=
 h.moved (hb.block _ h.box.lt) fun n g m hA=>by
  obtain⟨d,_,p,q⟩:=h.hasA hA;exact⟨hb.block _ p.lt,hb.block _ q.lt⟩
theorem TM.alloc (h:TM base w tg sg mb A D)(o:Obj):TM base (w.alloc o) tg sg mb A D:=h.keep ((Below.refl _ _).alloc (Nat.le_refl _) o)
theorem TM.keeps (h:TM base w tg sg mb A D){B:Nat}{T:Nat->Obj->Prop}(hK:Keeps B T w w')(h1:∀ k c s,¬ T k (.cells c 90 s))(h2:∀ k c s,¬ T k (.cells c 88 s))(h3:∀ n g m es c,A n=some (g,m)->¬ T m (.map es c)):TM base w' tg sg mb A D:=
 h.moved ((hK.block _ _ h.box (h1 _ _ _)).trans (Eq.symm h.box)) fun n g m hA=>by
  obtain⟨d,_,p,q⟩:=h.hasA hA;obtain⟨es,c,hm⟩:=q.obj;exact⟨(hK.block _ _ p (h2 _ _ _)).trans (Eq.symm p),(hK.block _ _ hm (h3 n g m es c hA)).trans hm.symm⟩
theorem TM.store (h:TM base w tg sg mb A D){B:Nat}(hK:Keeps B (IN.PT mb) w w'):TM base w' tg sg mb A D:=
 h.keeps hK (by simp[IN.PT]) (by simp[IN.PT]) (fun n g m es c hA=>by
  have:=(h.ge.2 n g m hA).2.2;simp[IN.PT,this])
end
end NT
namespace NT
open IN (Keeps)
theorem isFile_any (n:Int)(x:Option Nat)(w:World):Calls prog 117 #[.agg #[.int .i64 n,IS.ptr x]] w fun e w'=>e=.returned (.bool x.isNone)/\Below w.heap.size w w':=by
 have hb:=(Below.refl w.heap.size w).alloc (Nat.le_refl _) (.cells #[.int .i64 n,IS.ptr x] 84)
 cases x with
 | none=>
   simp only[IS.ptr] at hb ⊢;go_enter func117,ntmps117
   go_wp2_with fail
   go_ret
   exact⟨rfl,hb⟩
 | some g=>
   simp only[IS.ptr] at hb ⊢;go_enter func117,ntmps117
   go_wp2_with fail
   go_ret
   exact⟨rfl,hb⟩
theorem res_node {fn:Func}{r t:Tmp}(hres:fn.results=#[.cell r 84,.tmp t])(tmps:Array Value)(w:World){g:Nat}{n p:Value}(hr:tmps.getD r undef=.pointer (some ⟨g,0,none⟩))(h:Blk w g 84 [n,p]) :
 (results fn tmps).run prog w=.ok (.tuple #[.agg #[n,p],tmps.getD t undef]) w:=by
 have h0:=h.cell (j:=0) rfl;have h1:=h.cell (j:=1) rfl;rw[Array.getD_eq_getD_getElem?] at hr;simp[results,hres,go_sem,hr,h0,h1]
theorem new2 (w:World)(a b:Obj):Below w.heap.size w ((w.alloc a).alloc b):=((Below.refl _ w).alloc (Nat.le_refl _) a).alloc (by simp) b
theorem new3 (w:World)(a b c:Obj):Below w.heap.size w (((w.alloc a).alloc b).alloc c):=(new2 w a b).alloc (by simp;omega) c
def DB (w:World)(g:Nat)(u:Int)(pu:Option Nat)(m:Nat)(M:ByteArray->Option (Int×Option Nat)):Prop:=Blk w g 88 [.int .i64 u,IS.ptr pu,.map (some m)]/\NS.MB w m M
theorem DB.keep {w w':World}{g m:Nat}{u:Int}{pu:Option Nat}{M:ByteArray->Option (Int×Option Nat)}(h:DB w g u pu m M)(hb:Below w.heap.size w w'):DB w' g u pu m M:=⟨h.1.keep hb,h.2.keep hb⟩
theorem get_any (g m:Nat)(u:Int)(pu:Option Nat)(M:ByteArray->Option (Int×Option Nat))(k:ByteArray)(hk:NS.Sm k)(w:World)(h:DB w g u pu m M) :
 Calls prog 169 #[.pointer (some ⟨g,0,none⟩),.string k] w fun e w'=>e=.returned (.tuple #[NS.nv ((M k).getD (0,none)),.bool (M k).isSome])/\Below w.heap.size w w':=by
 have c2:=fun o=>(h.1.alloc o).cell (j:=2) rfl;obtain⟨r,hr⟩:∃ r,(M k).getD (0,none)=r:=⟨_,rfl⟩;obtain⟨b,hbb⟩:∃ b,(M k).isSome=b:=⟨_,rfl⟩;rw[hr,hbb];have hl:=fun o=>(h.2.alloc o).look k hk;simp only[hr,hbb] at hl;clear hr hbb;replace h:=Wd h;obtain⟨n,x⟩:=r;unfold NS.nv at hl ⊢
 cases x with
 | none=>
   simp only[IS.ptr] at hl ⊢;go_enter func169,ntmps169
   go_wp2_with fail
   exact bodyPost_ret (res_node results169 _ _ rfl ((Blk.new _ _ _ rfl).alloc _)) rfl ⟨rfl,new2 _ _ _⟩
 | some g'=>
   simp only[IS.ptr] at hl ⊢;go_enter func169,ntmps169
   go_wp2_with fail
   exact bodyPost_ret (res_node results169 _ _ rfl ((Blk.new _ _ _ rfl).alloc _)) rfl ⟨rfl,new2 _ _ _⟩
theorem step_file (n:Int)(k:ByteArray)(w:World) :
 Calls prog 159 #[.agg #[.int .i64 n,.pointer none],.string k] w fun e w'=>e=.returned (.tuple #[.agg #[.int .i64 0,.pointer none],.int .i64 13])/\Below w.heap.size w w':=by
 have cF:=fun w=>Wd (isFile_any n none w);simp only[IS.ptr,Option.isNone_none] at cF;go_enter func159,ntmps159
 go_wp2_with fail
 refine (cF _).out.mono ?_;rintro e w1 ⟨rfl,b1⟩;have n1:Blk w1 (w.heap.size+1) 84 [.int .i64 0,.pointer none]:=(Blk.new _ _ _ (by simp)).keep b1;have c0:=n1.cell (j:=0) rfl;have c1:=n1.cell (j:=1) rfl;have f1:=n1.fz;have N1:=Wd ((n1.set 0 (.int .i64 0)).set 1 (.pointer none));have BB:=Wd ((((new2 w _ _).trans (b1.mono (by simp;omega))).setCell (p:=⟨w.heap.size+1,0,none⟩) (by simp) (.int .i64 0)).setCell (p:=⟨w.heap.size+1,1,none⟩) (by simp) (.pointer none));clear b1 n1;go_wp2_with fail
 refine bodyPost_ret (res_node results159 _ _ rfl N1.out) rfl ?_;exact⟨rfl,BB.out⟩
theorem ptr_form (x:Option Nat):∃ pp:Option Addr,IS.ptr x=.pointer pp:=by cases x <;> exact⟨_,rfl⟩
theorem step_dot (n:Int)(g:Nat)(w:World) :
 Calls prog 159 #[.agg #[.int .i64 n,.pointer (some ⟨g,0,none⟩)],.string PM.dot] w fun e w'=>e=.returned (.tuple #[.agg #[.int .i64 n,.pointer (some ⟨g,0,none⟩)],.int .i64 0])/\Below w.heap.size w w':=by
 have cF:=fun w=>Wd (isFile_any n (some g) w);simp only[IS.ptr,Option.isNone_some] at cF;obtain⟨k,hk⟩:∃ k,PM.dot=k:=⟨_,rfl⟩;rw[hk];have e1:=dot_yes hk.symm;clear hk;go_enter func159,ntmps159
 go_wp2_with fail
 refine (cF _).out.mono ?_;rintro e w1 ⟨rfl,b1⟩;have n0:Blk w1 w.heap.size 84 [.int .i64 n,.pointer (some ⟨g,0,none⟩)]:=((Blk.new _ _ _ rfl).alloc _).keep b1;have n1:Blk w1 (w.heap.size+1) 84 [.int .i64 0,.pointer none]:=(Blk.new _ _ _ (by simp)).keep b1;have c0:=n1.cell (j:=0) rfl;have c1:=n1.cell (j:=1) rfl;have d0:=n0.cell (j:=0) rfl;have d1:=n0.cell (j:=1) rfl;have f1:=n1.fz;have N1:=Wd ((n1.set 0 (.int .i64 n)).set 1 (.pointer (some ⟨g,0,none⟩)));have BB:=Wd ((((new2 w _ _).trans (b1.mono (by simp;omega))).setCell (p:=⟨w.heap.size+1,0,none⟩) (by simp) (.int .i64 n)).setCell (p:=⟨w.heap.size+1,1,none⟩) (by simp) (.pointer (some ⟨g,0,none⟩)));clear b1 n1 n0;go_wp2_with fail
 refine bodyPost_ret (res_node results159 _ _ rfl N1.out) rfl ?_;exact⟨rfl,BB.out⟩
theorem step_up (n:Int)(g m:Nat)(u:Int)(pu:Option Nat)(M:ByteArray->Option (Int×Option Nat))(w:World)(h:DB w g u pu m M) :
 Calls prog 159 #[.agg #[.int .i64 n,.pointer (some ⟨g,0,none⟩)],.string PM.dots] w fun e w'=>e=.returned (.tuple #[NS.nv (u,pu),.int .i64 0])/\Below w.heap.size w w':=by
 have cF:=fun w=>Wd (isFile_any n (some g) w);simp only[IS.ptr,Option.isNone_some] at cF;have h1:=h.1;clear h;unfold NS.nv;obtain⟨pp,hpp⟩:=ptr_form pu;rw[hpp] at h1 ⊢;clear hpp;obtain⟨k,hk⟩:∃ k,PM.dots=k:=⟨_,rfl⟩;rw[hk];have e1:=dots_yes hk.symm;clear hk;go_enter func159,ntmps159
 go_wp2_with fail
 refine (cF _).out.mono ?_;rintro e w1 ⟨rfl,b1⟩;have n0:Blk w1 w.heap.size 84 [.int .i64 n,.pointer (some ⟨g,0,none⟩)]:=((Blk.new _ _ _ rfl).alloc _).keep b1;have n1:Blk w1 (w.heap.size+1) 84 [.int .i64 0,.pointer none]:=(Blk.new _ _ _ (by simp)).keep b1;have hd:=((h1.alloc _).alloc _).keep b1;have c0:=n1.cell (j:=0) rfl;have c1:=n1.cell (j:=1) rfl;have d0:=n0.cell (j:=0) rfl;have d1:=n0.cell (j:=1) rfl;have g0:=hd.cell (j:=0) rfl;have g1:=hd.cell (j:=1) rfl;have f1:=n1.fz;have N1:=Wd ((n1.set 0 (.int .i64 u)).set 1 (.pointer pp));have BB:=Wd ((((new2 w _ _).trans (b1.mono (by simp;omega))).setCell (p:=⟨w.heap.size+1,0,none⟩) (by simp) (.int .i64 u)).setCell (p:=⟨w.heap.size+1,1,none⟩) (by simp) (.pointer pp));clear b1 n1 n0 hd h1;go_wp2_with fail
 refine bodyPost_ret (res_node results159 _ _ rfl N1.out) rfl ?_;exact⟨rfl,BB.out⟩
theorem step_name (n:Int)(g m:Nat)(u:Int)(pu:Option Nat)(M:ByteArray->Option (Int×Option Nat))(k:ByteArray)(hs:NS.Sm k)(k1:k≠PM.dot)(k2:k≠PM.dots)(w:World)(h:DB w g u pu m M) :
 Calls prog 159 #[.agg #[.int .i64 n,.pointer (some ⟨g,0,none⟩)],.string k] w fun e w'=>e=.returned (.tuple #[NS.nv ((M k).getD (0,none)),.int .i64 (if (M k).isSome=true then 0 else 11)])/\Below w.heap.size w w':=by
 have cF:=fun w=>Wd (isFile_any n (some g) w);simp only[IS.ptr,Option.isNone_some] at cF;have cG:=fun w h=>Wd (get_any g m u pu M k hs w h);have h:=Wd h;obtain⟨e1,e2⟩:=dot_no k1;obtain⟨e3,e4⟩:=dots_no k2;clear k1 k2
 cases hM:M k with
 | none=>
   rw[hM] at cG;simp only[Option.getD_none,Option.isSome_none,NS.nv,IS.ptr] at cG ⊢;go_enter func159,ntmps159
   go_wp2_with fail
   refine (cF _).out.mono ?_;rintro e w1 ⟨rfl,b1⟩;have n0:Blk w1 w.heap.size 84 [.int .i64 n,.pointer (some ⟨g,0,none⟩)]:=((Blk.new _ _ _ rfl).alloc _).keep b1;have n1:Blk w1 (w.heap.size+1) 84 [.int .i64 0,.pointer none]:=(Blk.new _ _ _ (by simp)).keep b1;have hd:=(h.out.keep (new2 w _ _)).keep b1;have d0:=n0.cell (j:=0) rfl;have d1:=n0.cell (j:=1) rfl;have BB:=Wd ((new2 w _ _).trans (b1.mono (by simp;omega)));have n1:=Wd n1;have cG1:=cG _ hd;clear b1 n0 hd cG;go_wp2_with fail
   refine cG1.out.mono ?_;rintro e w2 ⟨rfl,b2⟩;have n2:=((n1.out.keep b2)).alloc (.cells #[.int .i64 0,.pointer none] 84);have c0:=n2.cell (j:=0) rfl;have c1:=n2.cell (j:=1) rfl;have f1:=n2.fz;have N1:=Wd ((n2.set 0 (.int .i64 0)).set 1 (.pointer none));have b2':Below w.heap.size w w2:=BB.out.trans (b2.mono BB.out.size);have B2:=Wd (((b2'.alloc b2'.size (.cells #[.int .i64 0,.pointer none] 84)).setCell (p:=⟨w.heap.size+1,0,none⟩) (by simp) (.int .i64 0)).setCell (p:=⟨w.heap.size+1,1,none⟩) (by simp) (.pointer none));clear b2 n2 b2' n1 BB cG1;go_wp2_with fail
   refine bodyPost_ret (res_node results159 _ _ rfl N1.out) rfl ?_;exact⟨rfl,B2.out⟩
 | some r=>
   rw[hM] at cG;obtain⟨r1,r2⟩:=r;obtain⟨pp,hpp⟩:=ptr_form r2;simp only[Option.getD_some,Option.isSome_some,NS.nv,hpp] at cG ⊢;clear hpp;go_enter func159,ntmps159
   go_wp2_with fail
   refine (cF _).out.mono ?_;rintro e w1 ⟨rfl,b1⟩;have n0:Blk w1 w.heap.size 84 [.int .i64 n,.pointer (some ⟨g,0,none⟩)]:=((Blk.new _ _ _ rfl).alloc _).keep b1;have n1:Blk w1 (w.heap.size+1) 84 [.int .i64 0,.pointer none]:=(Blk.new _ _ _ (by simp)).keep b1;have hd:=(h.out.keep (new2 w _ _)).keep b1;have d0:=n0.cell (j:=0) rfl;have d1:=n0.cell (j:=1) rfl;have BB:=Wd ((new2 w _ _).trans (b1.mono (by simp;omega)));have n1:=Wd n1;have cG1:=cG _ hd;clear b1 n0 hd cG;go_wp2_with fail
   refine cG1.out.mono ?_;rintro e w2 ⟨rfl,b2⟩;have n2:=((n1.out.keep b2)).alloc (.cells #[.int .i64 r1,.pointer pp] 84);have c0:=n2.cell (j:=0) rfl;have c1:=n2.cell (j:=1) rfl;have f1:=n2.fz;have N1:=Wd ((n2.set 0 (.int .i64 r1)).set 1 (.pointer pp));have b2':Below w.heap.size w w2:=BB.out.trans (b2.mono BB.out.size);have B2:=Wd (((b2'.alloc b2'.size (.cells #[.int .i64 r1,.pointer pp] 84)).setCell (p:=⟨w.heap.size+1,0,none⟩) (by simp) (.int .i64 r1)).setCell (p:=⟨w.heap.size+1,1,none⟩) (by simp) (.pointer pp));clear b2 n2 b2' n1 BB cG1;go_wp2_with fail
   refine bodyPost_ret (res_node results159 _ _ rfl N1.out) rfl ?_;exact⟨rfl,B2.out⟩
def rv (A:Int->Option (Nat×Nat)):Except Int Int->Value
 | .ok m=>NS.nv (m,pa A m)
 | .error _=>NS.nv (0,none)
section
variable {base:Nat}{w w':World}{tg sg mb:Nat}{A:Int->Option (Nat×Nat)}{D:Ds}
theorem step_any (n:Int)(k:ByteArray)(hs:NS.Sm k)(w:World)(h:TM base w tg sg mb A D) :
 Calls prog 159 #[NS.nv (n,pa A n),.string k] w fun e w'=>e=.returned (.tuple #[rv A (step D n k),.int .i64 (er (step D n k))])/\Below w.heap.size w w':=by
 cases hD:D n with
 | none=>
   have hA:=(h.dom n).2 hD;have e1:pa A n=none:=by unfold pa;rw[hA];rfl
   have e2:step D n k=.error 13:=by unfold step;rw[hD]
   rw[e1,e2];exact step_file n k w
 | some d=>
   obtain⟨g,m,hA,hb,hm⟩:=h.has hD;have e1:pa A n=some g:=by unfold pa;rw[hA];rfl
   have hB:DB w g d.up (pa A d.up) m (nm A d.l):=⟨hb,hm⟩;rw[e1]
   by_cases k1:k=PM.dot
   ·have e2:step D n k=.ok n:=by unfold step;rw[hD];simp[k1]
    have e3:rv A (.ok n)=NS.nv (n,some g):=by simp[rv,e1]
    rw[e2,k1,e3];exact step_dot n g w
   ·by_cases k2:k=PM.dots
    ·have e2:step D n k=.ok d.up:=by unfold step;rw[hD];simp[k1,k2,PM.dot_ne.symm]
     rw[e2,k2];exact step_up n g m d.up _ _ w hB
    ·have c:=step_name n g m d.up _ _ k hs k1 k2 w hB
     cases hl:look k d.l with
     | none=>
       have e2:step D n k=.error 11:=by unfold step;rw[hD];simp[k1,k2,hl]
       have e3:nm A d.l k=none:=by simp[nm,hl]
       rw[e2];rw[e3] at c;exact c
     | some j=>
       have e2:step D n k=.ok j:=by unfold step;rw[hD];simp[k1,k2,hl]
       have e3:nm A d.l k=some (j,pa A j):=by simp[nm,hl]
       rw[e2];rw[e3] at c;exact c
end
end NT
namespace NT
open IN (Keeps)
section
variable {base:Nat}{w w':World}{tg sg mb:Nat}{A:Int->Option (Nat×Nat)}{D:Ds}
theorem goes_take (D:Ds)(n:Int)(l:List ByteArray)(k:Nat)(hk:k<l.length){m:Int}(h:goes D n (l.take k)=.ok m):goes D n (l.take (k+1))=step D m l[k]:=by
 rw[PM.take_snoc l k hk,goes_snoc,h]
theorem goes_stop (D:Ds)(x:ByteArray)(xs:List ByteArray):∀ (ys:List ByteArray) (n:Int) (e:Int),goes D n ys=.error e->goes D n (ys ++ xs)=.error e
 | [],n,e,h=>by cases h
 | y :: ys,n,e,h=>by
   simp only[List.cons_append,goes] at h ⊢
   cases hs:step D n y with
   | error e'=>rw[hs] at h;exact h
   | ok m=>rw[hs] at h;exact goes_stop D x xs ys m e h
theorem resolve_any (l:List ByteArray)(ao:Option Addr)(n cap:Nat)(w:World)(h:TM base w tg sg mb A D)(hl:SS w ao n cap l)(hs:∀ k∈l,NS.Sm k) :
 Calls prog 119 #[.pointer (some ⟨tg,0,none⟩),.slice ao n cap] w fun e w'=>e=.returned (.tuple #[rv A (goes D 1 l),.int .i64 (er (goes D 1 l))])/\Below w.heap.size w w':=by
 obtain⟨pp,hpp⟩:=ptr_form (pa A 1);have hb:=h.box;rw[hpp] at hb;have hln:l.length=n:=hl.1;have hlim:n<=9223372036854775807:=by have:=hl.2.1;have:=hl.2.2.1;unfold maxLen at *;omega
 have t1:=fun o=>(hb.alloc o).cell (j:=1) rfl;have t2:=fun o=>(hb.alloc o).cell (j:=2) rfl;have H:=Wd h;have HL:=Wd hl;have hpp:=Wd hpp;clear h hb hl;go_enter func119,ntmps119
 go_wp2_with fail
 go_loopw [17] (fun v wr=>∃ (i:Nat) (m:Int) (pm:Option Addr),v=.int .i64 (i:Int)/\i<=n/\Hid (goes D 1 (l.take i)=.ok m)/\Hid (IS.ptr (pa A m)=.pointer pm)/\Hid (Blk wr w.heap.size 84 [.int .i64 0,.pointer none])/\Hid (Blk wr (w.heap.size+1) 84 [.int .i64 m,.pointer pm])/\Hid (Below w.heap.size w wr)) (fun v _=>n-(intOf v).toNat)
 case atStart=>exact⟨0,1,pp,rfl,Nat.zero_le _,Wd rfl,hpp,Wd ((Blk.new _ _ _ rfl).alloc _),Wd (Blk.new _ _ _ (by simp)),Wd (new2 _ _ _)⟩
 case round=>
  obtain⟨i,m,pm,rfl,hin,hg,hpm,hR,hN,hB⟩:=hrel
  by_cases hi:i<n
  ·obtain⟨blk,off,rfl,hcell⟩:=HL.out.at_ (by omega);have hi':i<l.length:=by omega
   have ce:wr.cell? ⟨blk,off+i,none⟩=some (.string l[i]):=by
    have:=hcell i hi;rw[hB.out.cell (World.block_lt_of_cell? w _ this)];exact this
   have cS:=step_any m l[i] (hs _ (List.getElem_mem _)) wr (H.out.keep hB.out);unfold NS.nv at cS;simp only[hpm.out] at cS;have hnext:=goes_take D 1 l i hi' hg.out;obtain⟨x,hx⟩:∃ x,l[i]=x:=⟨_,rfl⟩;rw[hx] at ce cS hnext;have n0:=hN.out.cell (j:=0) rfl;have n1:=hN.out.cell (j:=1) rfl
   cases hst:step D m x with
   | error e=>
     rw[hst] at hnext cS;have hall:goes D 1 l=.error e:=by
      have:=goes_stop D x (l.drop (i+1)) (l.take (i+1)) 1 e hnext;rwa[List.take_append_drop] at this
     have he:=Wd (step_er hst);simp only[rv,er,NS.nv,IS.ptr] at cS;have cS:=Wd cS;have hall:=Wd hall;have hne:(e == 0)=false:=by simpa using he.out
     clear hst hnext hx hcell;go_wp2_with fail
     refine cS.out.mono ?_;rintro e' w1 ⟨rfl,b1⟩;have r1:=(hR.out.keep b1).alloc (.cells #[.int .i64 0,.pointer none] 84);have c0:=r1.cell (j:=0) rfl;have c1:=r1.cell (j:=1) rfl;have f1:=r1.fz;have N1:=Wd ((r1.set 0 (.int .i64 0)).set 1 (.pointer none));have b2:Below w.heap.size w w1:=hB.out.trans (b1.mono hB.out.size);have B2:=Wd (((b2.alloc b2.size (.cells #[.int .i64 0,.pointer none] 84)).setCell (p:=⟨w.heap.size,0,none⟩) (by simp) (.int .i64 0)).setCell (p:=⟨w.heap.size,1,none⟩) (by simp) (.pointer none));clear b1 r1 b2 n0 n1 ce cS;go_wp2_with fail
     refine bodyPost_ret (res_node results119 _ _ rfl N1.out) rfl ?_;refine⟨?_,B2.out⟩;rw[hall.out]
     rfl
   | ok m'=>
     rw[hst] at hnext cS;obtain⟨pm',hpm'⟩:=ptr_form (pa A m');simp only[rv,er,NS.nv,hpm'] at cS;have cS:=Wd cS;have hpm':=Wd hpm';have hnext:=Wd hnext;clear hst hx hcell;go_wp2_with fail
     refine cS.out.mono ?_;rintro e' w1 ⟨rfl,b1⟩;have r1:=Wd ((hR.out.keep b1).alloc (.cells #[.int .i64 m',.pointer pm'] 84));have q1:=(hN.out.keep b1).alloc (.cells #[.int .i64 m',.pointer pm'] 84);have c0:=q1.cell (j:=0) rfl;have c1:=q1.cell (j:=1) rfl;have f1:=q1.fz;have N1:=Wd ((q1.set 0 (.int .i64 m')).set 1 (.pointer pm'));have b2:Below w.heap.size w w1:=hB.out.trans (b1.mono hB.out.size);have B2:=Wd (((b2.alloc b2.size (.cells #[.int .i64 m',.pointer pm'] 84)).setCell (p:=⟨w.heap.size+1,0,none⟩) (by simp) (.int .i64 m')).setCell (p:=⟨w.heap.size+1,1,none⟩) (by simp) (.pointer pm'));have R2:=Wd ((r1.out.far (p:=⟨w.heap.size+1,0,none⟩) (by simp) (.int .i64 m')).far (p:=⟨w.heap.size+1,1,none⟩) (by simp) (.pointer pm'));clear b1 r1 b2 n0 n1 ce cS q1;go_wp2_with fail
     exact⟨⟨i+1,m',pm',by go_num,by omega,hnext,hpm',R2,N1,B2⟩,by simp[intOf];omega⟩
  ·obtain rfl:i=n:=by omega
   have n0:=hN.out.cell (j:=0) rfl;have n1:=hN.out.cell (j:=1) rfl;have c0:=hR.out.cell (j:=0) rfl;have c1:=hR.out.cell (j:=1) rfl;have f1:=hR.out.fz;have hall:goes D 1 l=.ok m:=by
    have:=hg.out;rwa[List.take_of_length_le (by omega)] at this
   have hall:=Wd hall;have N1:=Wd ((hR.out.set 0 (.int .i64 m)).set 1 (.pointer pm));have B2:=Wd ((hB.out.setCell (p:=⟨w.heap.size,0,none⟩) (by simp) (.int .i64 m)).setCell (p:=⟨w.heap.size,1,none⟩) (by simp) (.pointer pm));go_wp2_with fail
   refine bodyPost_ret (res_node results119 _ _ rfl N1.out) rfl ?_;refine⟨?_,B2.out⟩;rw[hall.out];simp only[rv,er,NS.nv,hpm.out]
   rfl
theorem find_er {D:Ds}{l:List ByteArray}{d:Bool}{e:Int}(h:find D l d=.error e):e≠0:=by
 unfold find at h
 split at h
 ·rename_i e' he
  cases h
  exact goes_er he
 ·split at h <;> cases h
  decide
theorem pa_none (h:TM base w tg sg mb A D)(n:Int):(pa A n).isNone=decide (D n=none):=by
 have:=h.dom n;unfold pa
 cases hA:A n <;> cases hD:D n <;> simp_all
theorem none_some (w:World)(h:TM base w tg sg mb A D):Calls prog 74 #[.pointer (some ⟨tg,0,none⟩)] w fun e w'=>e=.returned (.bool false)/\Below w.heap.size w w':=by
 have c1:=h.box.cell (j:=1) rfl;have c2:=h.box.cell (j:=2) rfl;have hn:=pa_none h 1;have cF:=fun w=>isFile_any 1 (pa A 1) w;rw[hn,decide_eq_false h.root] at cF;obtain⟨pp,hpp⟩:=ptr_form (pa A 1);simp only[hpp] at c2 cF;replace cF:=fun w=>Wd (cF w);clear h hn hpp;go_enter func74,ntmps74
 go_wp2_with fail
 refine (cF _).out.mono ?_;rintro e w1 ⟨rfl,b1⟩;go_wp2_with fail
 go_ret
 exact⟨rfl,b1⟩
theorem find_any (a d:Bool)(l:List ByteArray)(ao:Option Addr)(n cap:Nat)(w:World)(h:TM base w tg sg mb A D)(hl:SS w ao n cap l)(hs:∀ k∈l,NS.Sm k) :
 Calls prog 76 #[.pointer (some ⟨tg,0,none⟩),.agg #[.bool a,.slice ao n cap,.bool d]] w fun e w'=>e=.returned (.tuple #[rv A (find D l d),.int .i64 (er (find D l d))])/\Below w.heap.size w w':=by
 have b0:=new2 w (.cells #[.bool a,.slice ao n cap,.bool d] 146) (.cells #[.int .i64 0,.pointer none] 84);have cR:=Wd (resolve_any l ao n cap _ (h.keep b0) (hl.below b0 (Nat.le_refl _)) hs);have hpn:=pa_none h;have hp:Blk ((w.alloc (.cells #[.bool a,.slice ao n cap,.bool d] 146)).alloc (.cells #[.int .i64 0,.pointer none] 84)) w.heap.size 146 [.bool a,.slice ao n cap,.bool d]:=(Blk.new _ _ _ rfl).alloc _;clear h hl
 cases hg:goes D 1 l with
 | error e=>
   have hf:find D l d=.error e:=by unfold find;rw[hg]
   rw[hg] at cR;rw[hf];have hne:(e == 0)=false:=by simpa using goes_er hg
   simp only[rv,er,NS.nv,IS.ptr] at cR ⊢;clear hf hg hpn hp;go_enter func76,ntmps76
   go_wp2_with fail
   refine cR.out.mono ?_;rintro e' w1 ⟨rfl,b1⟩;have n1:Blk (w1.alloc (.cells #[.int .i64 0,.pointer none] 84)) (w.heap.size+1) 84 [.int .i64 0,.pointer none]:=((Blk.new _ _ _ (by simp)).keep b1).alloc _;have c0:=n1.cell (j:=0) rfl;have c1:=n1.cell (j:=1) rfl;have f1:=n1.fz;have N1:=Wd ((n1.set 0 (.int .i64 0)).set 1 (.pointer none));have b2:Below w.heap.size w w1:=b0.trans (b1.mono b0.size);have B2:=Wd (((b2.alloc b2.size (.cells #[.int .i64 0,.pointer none] 84)).setCell (p:=⟨w.heap.size+1,0,none⟩) (by simp) (.int .i64 0)).setCell (p:=⟨w.heap.size+1,1,none⟩) (by simp) (.pointer none));clear b1 n1 b2 cR b0;go_wp2_with fail
   refine bodyPost_ret (res_node results76 _ _ rfl N1.out) rfl ?_;exact⟨rfl,B2.out⟩
 | ok m=>
   rw[hg] at cR;have hnp:=hpn m;obtain⟨pm,hpm⟩:=ptr_form (pa A m);have cF:=fun w=>isFile_any m (pa A m) w;rw[hnp] at cF;simp only[rv,er,NS.nv,hpm] at cR cF;replace cF:=fun w=>Wd (cF w);have hfd:find D l d=if d=true/\D m=none then .error 13 else .ok m:=by unfold find;rw[hg]
   clear hpn hnp hg;have step1:∀ w1,Below _ _ w1->Blk (w1.alloc (.cells #[.int .i64 m,.pointer pm] 84)) (w.heap.size+1) 84 [.int .i64 0,.pointer none]/\Blk (w1.alloc (.cells #[.int .i64 m,.pointer pm] 84)) w.heap.size 146 [.bool a,.slice ao n cap,.bool d]/\Blk (w1.alloc (.cells #[.int .i64 m,.pointer pm] 84)) w1.heap.size 84 [.int .i64 m,.pointer pm]/\Below w.heap.size w (w1.alloc (.cells #[.int .i64 m,.pointer pm] 84)):=fun w1 b1=>by
    have b2:Below w.heap.size w w1:=b0.trans (b1.mono b0.size);exact⟨((Blk.new _ _ _ (by simp)).keep b1).alloc _,(hp.keep b1).alloc _,Blk.new _ _ _ rfl,b2.alloc b2.size _⟩
   replace step1:=Wd step1;replace hpm:=Wd hpm
   cases d with
   | false=>
     have hf:find D l false=.ok m:=by rw[hfd];simp
     rw[hf];simp only[rv,er,NS.nv];rw[hpm.out];clear hf hfd hp cF;go_enter func76,ntmps76
     go_wp2_with fail
     refine cR.out.mono ?_;rintro e' w1 ⟨rfl,b1⟩;obtain⟨n1,p1,q1,B1⟩:=step1.out w1 b1;have c0:=n1.cell (j:=0) rfl;have c1:=n1.cell (j:=1) rfl;have f1:=n1.fz;have p2:=p1.cell (j:=2) rfl;have N1:=Wd ((n1.set 0 (.int .i64 m)).set 1 (.pointer pm));have B2:=Wd ((B1.setCell (p:=⟨w.heap.size+1,0,none⟩) (by simp) (.int .i64 m)).setCell (p:=⟨w.heap.size+1,1,none⟩) (by simp) (.pointer pm));clear b1 n1 p1 q1 B1 cR b0;go_wp2_with fail
     refine bodyPost_ret (res_node results76 _ _ rfl N1.out) rfl ?_;exact⟨rfl,B2.out⟩
   | true=>
     by_cases hD:D m=none
     ·have hf:find D l true=.error 13:=by rw[hfd];simp[hD]
      rw[decide_eq_true hD] at cF;rw[hf];simp only[rv,er,NS.nv,IS.ptr];clear hf hfd hp hD;go_enter func76,ntmps76
      go_wp2_with fail
      refine cR.out.mono ?_;rintro e' w1 ⟨rfl,b1⟩;obtain⟨n1,p1,q1,B1⟩:=step1.out w1 b1;have p2:=p1.cell (j:=2) rfl;have q10:=q1.cell (j:=0) rfl;have q11:=q1.cell (j:=1) rfl;have n1:=Wd n1;have B1:=Wd B1;clear b1 p1 q1 cR b0;go_wp2_with fail
      refine (cF _).out.mono ?_;rintro e' w2 ⟨rfl,b2⟩;have n2:=n1.out.keep b2;have c0:=n2.cell (j:=0) rfl;have c1:=n2.cell (j:=1) rfl;have f1:=n2.fz;have N1:=Wd ((n2.set 0 (.int .i64 0)).set 1 (.pointer none));have B2:=Wd (((B1.out.trans (b2.mono B1.out.size)).setCell (p:=⟨w.heap.size+1,0,none⟩) (by simp) (.int .i64 0)).setCell (p:=⟨w.heap.size+1,1,none⟩) (by simp) (.pointer none));clear b2 n2 n1;go_wp2_with fail
      refine bodyPost_ret (res_node results76 _ _ rfl N1.out) rfl ?_;exact⟨rfl,B2.out⟩
     ·have hf:find D l true=.ok m:=by rw[hfd];simp[hD]
      rw[decide_eq_false hD] at cF;rw[hf];simp only[rv,er,NS.nv];rw[hpm.out];clear hf hfd hp hD;go_enter func76,ntmps76
      go_wp2_with fail
      refine cR.out.mono ?_;rintro e' w1 ⟨rfl,b1⟩;obtain⟨n1,p1,q1,B1⟩:=step1.out w1 b1;have p2:=p1.cell (j:=2) rfl;have q10:=q1.cell (j:=0) rfl;have q11:=q1.cell (j:=1) rfl;have n1:=Wd n1;have B1:=Wd B1;have Q1:=Wd q1;clear b1 p1 q1 cR b0;go_wp2_with fail
      refine (cF _).out.mono ?_;rintro e' w2 ⟨rfl,b2⟩;have n2:=n1.out.keep b2;have c0:=n2.cell (j:=0) rfl;have c1:=n2.cell (j:=1) rfl;have f1:=n2.fz;have q2:=Q1.out.keep b2;have q20:=q2.cell (j:=0) rfl;have q21:=q2.cell (j:=1) rfl;have N1:=Wd ((n2.set 0 (.int .i64 m)).set 1 (.pointer pm));have B2:=Wd (((B1.out.trans (b2.mono B1.out.size)).setCell (p:=⟨w.heap.size+1,0,none⟩) (by simp) (.int .i64 m)).setCell (p:=⟨w.heap.size+1,1,none⟩) (by simp) (.pointer pm));clear b2 n2 n1 q2;go_wp2_with fail
      refine bodyPost_ret (res_node results76 _ _ rfl N1.out) rfl ?_;exact⟨rfl,B2.out⟩
end
end NT
end Go.Proofs.YtfffibepcdlldaaGreat

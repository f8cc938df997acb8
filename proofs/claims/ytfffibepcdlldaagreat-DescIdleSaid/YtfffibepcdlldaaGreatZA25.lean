/- A part. -/
import Derived.Test.YtfffibepcdlldaaGreatZA24
import Derived.Shelf.SlIter.Nil
import Derived.Shelf.SortM.Plain
import Derived.Shelf.LaySoft
import Derived.Test.YtfffibepcdlldaaGreatProg
import Derived.Test.YtfffibepcdlldaaGreatZA21
import Derived.Test.YtfffibepcdlldaaGreatZA13
import Derived.Test.YtfffibepcdlldaaGreatZA23
import Derived.Test.YtfffibepcdlldaaGreatZA10
import Derived.Deep.RegionHeld3
import Derived.Test.YtfffibepcdlldaaGreatZA08
set_option linter.unusedVariables false
set_option linter.unusedSimpArgs false
set_option maxRecDepth 100000
set_option maxHeartbeats 64000000
open Go.Proofs.Tryz

namespace Go.Proofs.YtfffibepcdlldaaGreat
open Go.ChangeShapes Go.WideShapes Go.ChangeAt Go.RowKit Go.Maps
namespace NT
open IN (Keeps)
def emptyD (D:Ds)(n:Int):Bool:=match D n with
 | none=>false
 | some d=>decide (d.l=[])
def movV (D:Ds)(h:Nat)(pf:Int)(kf:ByteArray)(df:Bool)(pt:Int)(kt:ByteArray)(dt:Bool):Int:=
 if PM.name kf=false∨PM.name kt=false then 2 else match at_ D pf kf with
 | none=>11
 | some n=>if D n=none/\(df=true∨dt=true) then 13 else match at_ D pt kt with
   | some m=>if m=n then 0 else if D m≠none/\D n=none then 14 else if D m=none/\D n≠none then 13 else if D m≠none/\emptyD D m=false then 15 else if D n≠none/\n∈anc D h pt then 2 else 0
   | none=>if D n≠none/\n∈anc D h pt then 2 else 0
section
variable {base:Nat}{w w':World}{tg sg mb:Nat}{A:Int->Option (Nat×Nat)}{D:Ds}
end
end NT
namespace NT
open IN (Keeps)
section
variable {base:Nat}{w w':World}{tg sg mb:Nat}{A:Int->Option (Nat×Nat)}{D:Ds}
theorem upd_map (D:Ds)(n:Int){d:Dr}(hD:D n=some d)(f:Dr->Dr):upd D n (some (f d))=fun x=>if x=n then (D n).map f else D x:=by
 funext x
 unfold upd;rw[hD]
 rfl
theorem del_len (k:ByteArray)(l:List (ByteArray×Int)):(del k l).length<=l.length:=List.length_filter_le _ _
end
end NT
end Go.Proofs.YtfffibepcdlldaaGreat



namespace Go.Proofs.YtfffibepcdlldaaGreat
open Go.ChangeShapes Go.WideShapes Go.ChangeAt Go.RowKit Go.Maps
open Go.Sort Go.Shelf
open Go.WideElems (Fit rd rg pl rd_val rd_key rg_of)
namespace NS
def mk (l:List UInt8):ByteArray:=⟨l.toArray⟩
theorem bytesLess_lt:∀ (x y:List UInt8),Op.bytesLess x y=decide (x<y)
 | [],[]=>by simp[Op.bytesLess]
 | _ :: _,[]=>by simp[Op.bytesLess]
 | [],_ :: _=>by simp[Op.bytesLess]
 | a :: x,b :: y=>by
   rw[Op.bytesLess,bytesLess_lt x y];simp only[List.cons_lt_cons_iff]
   by_cases h1:a<b <;> by_cases h2:a=b <;> by_cases h3:x<y <;> simp[h1,h2,h3]
theorem blt_iff (a b:ByteArray):NT.blt a b=true↔a.data.toList<b.data.toList:=by
 unfold NT.blt;rw[bytesLess_lt,ByteArray.toList_eq,ByteArray.toList_eq];simp
end NS
end Go.Proofs.YtfffibepcdlldaaGreat

namespace Go.Proofs.YtfffibepcdlldaaGreat
open Go.ChangeShapes Go.WideShapes Go.ChangeAt Go.RowKit Go.Maps
namespace NT
open IN (Keeps)
def ncl1 (M:ByteArray->Option (Int×Option Nat))(k:ByteArray):List Value:=[.string k,.int .i64 ((M k).getD (0,none)).1,.int .i64 (if ((M k).getD (0,none)).2=none then 1 else 2)]
def ncl (M:ByteArray->Option (Int×Option Nat))(l:List ByteArray):List Value:=l.flatMap (ncl1 M)
theorem nm_src (w:World)(g:Nat)(k:ByteArray)(n kd:Int)(hB:Blk w g 201 [.string k,.int .i64 n,.int .i64 kd]):Own.Src w 3 (.slice (some ⟨g,0,none⟩) 1 1) 1 [.string k,.int .i64 n,.int .i64 kd]:=
 .inr ⟨_,_,rfl,by simp,fun j v hj=>by
  have:=hB.cell hj;rw[Addr.add_lit,Nat.zero_add];exact this⟩
theorem nm_one (k:ByteArray)(n kd:Int):∀ u∈[Value.string k,.int .i64 n,.int .i64 kd],u.oneCell'=true:=by
 intro u hu;simp only[List.mem_cons,List.not_mem_nil,or_false] at hu;rcases hu with rfl|rfl|rfl <;> rfl
theorem info_name:Own.Info prog 201 (.agg #[.string ⟨#[]⟩,.int .i64 0,.int .i64 0]) 3 32:=Own.info_of (by kernel_rfl) rfl (by decide)
end NT
namespace NT
open IN (Keeps)
theorem blt_irr (a:ByteArray):blt a a=false:=by
 cases h:blt a a with
 | false=>rfl
 | true=>exact absurd ((NS.blt_iff a a).1 h) (List.lt_irrefl _)
theorem blt_tr {a b c:ByteArray}(h:blt a b=true)(k:blt b c=true):blt a c=true:=(NS.blt_iff a c).2 (List.lt_trans ((NS.blt_iff a b).1 h) ((NS.blt_iff b c).1 k))
theorem blt_tot {a b:ByteArray}(h:blt a b=false)(hne:a≠b):blt b a=true:=by
 rw[NS.blt_iff];have h1:¬ a.data.toList<b.data.toList:=fun e=>by rw[(NS.blt_iff a b).2 e] at h;cases h
 have h2:b.data.toList<=a.data.toList:=List.not_lt.1 h1;rcases List.le_iff_lt_or_eq.1 h2 with h3|h3
 ·exact h3
 ·exact absurd (ByteArray.ext (Array.toList_inj.1 h3)).symm hne
def Asc (l:List (ByteArray×Int)):Prop:=l.Pairwise fun a b=>blt a.1 b.1=true
theorem look_asc:∀ {l:List (ByteArray×Int)},Asc l->∀ x∈l,look x.1 l=some x.2
 | [],_,x,hx=>by cases hx
 | y :: l,h,x,hx=>by
   obtain⟨h1,h2⟩:=List.pairwise_cons.1 h;unfold look;rcases List.mem_cons.1 hx with rfl|hm
   ·rw[if_pos rfl]
   ·have hb:=h1 x hm;rw[if_neg (fun e=>by rw[e,blt_irr] at hb;cases hb)];exact look_asc h2 x hm
def lcl (D:Ds)(l:List (ByteArray×Int)):List Value:=l.flatMap fun x=>[.string x.1,.int .i64 x.2,.int .i64 (if D x.2=none then 1 else 2)]
section
variable {base:Nat}{w w':World}{tg sg mb:Nat}{A:Int->Option (Nat×Nat)}{D:Ds}
end
end NT
namespace NT
open IN (Keeps)
def ulc (D:Ds)(k:ByteArray)(d:Bool)(m:Int):Int:=if PM.name k=false then 14 else match at_ D m k with
 | none=>11
 | some x=>if D x≠none then 14 else if d=true then 13 else 0
def cutR (D:Ds)(s:ByteArray)(r:Int)(c:Int->Int):Except Int Int:=if PM.perr s=0 then placeC D (PM.pN s) r c else .error (PM.perr s)
def unlR (D:Ds)(s:ByteArray):Except Int Int:=cutR D s 14 (ulc D (last (PM.pN s)) (PM.pD s))
def cutD (D:Ds)(p:Int)(k:ByteArray):Ds:=fun x=>if x=p then (D p).map (fun d=>{ d with l:=del k d.l }) else D x
theorem place_er2 {D:Ds}{l:List ByteArray}{r e:Int}(hr:r≠0)(h:place D l r=.error e):e≠0:=by
 unfold place at h
 split at h
 ·cases h;exact hr
 ·split at h
  ·rename_i e' he
   cases h
   exact goes_er he
  ·split at h <;> cases h
   decide
theorem place_dir2 {D:Ds}{l:List ByteArray}{r m:Int}(h:place D l r=.ok m):∃ d,D m=some d:=by
 unfold place at h
 split at h
 ·cases h
 ·split at h
  ·cases h
  ·split at h
   ·cases h
   ·rename_i hne
    cases h
    exact Option.ne_none_iff_exists'.1 hne
theorem placeC_er {D:Ds}{l:List ByteArray}{r e:Int}{c:Int->Int}(hr:r≠0)(h:placeC D l r c=.error e):e≠0:=by
 unfold placeC at h
 split at h
 ·rename_i e' he
  cases h
  exact place_er2 hr he
 ·split at h
  ·cases h
  ·rename_i hne
   cases h
   exact hne
theorem placeC_ok {D:Ds}{l:List ByteArray}{r m:Int}{c:Int->Int}(h:placeC D l r c=.ok m):place D l r=.ok m/\c m=0:=by
 unfold placeC at h
 split at h
 ·cases h
 ·split at h
  ·rename_i he hc
   cases h
   exact⟨he,hc⟩
  ·cases h
section
variable {base:Nat}{w w':World}{tg sg mb:Nat}{A:Int->Option (Nat×Nat)}{D:Ds}
theorem enters_unl1:∀ args w,(callFunc 130 args).run prog w=.ok (.enter 130 args) w:=fun args w=>by kernel_rfl
theorem ulc_nm (h:TM base w tg sg mb A D){m:Int}{d:Dr}(hD:D m=some d)(k:ByteArray)(b:Bool):ulC (nm A d.l) k b=ulc D k b m:=by
 unfold ulC ulc at_ nm;rw[hD]
 cases e:look k d.l with
 | none=>simp[e]
 | some x=>
   have:=h.dom x;have h2:pa A x=none↔D x=none:=by unfold pa;rw[Option.map_eq_none_iff];exact this
   simp[e,h2]
theorem unl_chk (w:World)(h:TM base w tg sg mb A D)(s:ByteArray):Chk w A D (PM.pN s) (PM.pD s) 14 130 #[] (ulc D (last (PM.pN s)) (PM.pD s)):=
 ⟨enters_unl1,fun m hp W hb=>by
  obtain⟨d,hD⟩:=place_dir2 hp;obtain⟨g,mm,hA,hpa,hdb⟩:=(h.keep hb).db hD;have:=unlink1_any m g mm d.up (pa A d.up) (nm A d.l) (last (PM.pN s)) (PM.pD s) (last_sm (pN_sm s)) W hdb;rw[ulc_nm h hD] at this;unfold plv;rw[hpa];exact this⟩
end
end NT
namespace NT
open IN (Keeps)
section
variable {base:Nat}{w w':World}{tg sg mb I L B q:Nat}{A:Int->Option (Nat×Nat)}{D:Ds}{M:Int->Option Nat}{S:Int->Option IN.Nd}
def Num64 (D:Ds):Prop:=∀ m d,D m=some d->∀ k j,look k d.l=some j->IS.I64 j
theorem cutD_upd {D:Ds}{p:Int}{d:Dr}(h:D p=some d)(k:ByteArray):upd D p (some { d with l:=del k d.l })=cutD D p k:=upd_map D p h fun d=>{ d with l:=del k d.l }
theorem ulc_ok {D:Ds}{k:ByteArray}{d:Bool}{m:Int}(h:ulc D k d m=0):∃ j,at_ D m k=some j/\D j=none:=by
 unfold ulc at h
 split at h
 ·cases h
 ·split at h
  ·cases h
  ·rename_i x hx
   split at h
   ·cases h
   ·rename_i hD
    exact⟨x,hx,Decidable.not_not.1 hD⟩
theorem at_look {D:Ds}{p j:Int}{k:ByteArray}(h:at_ D p k=some j):∃ d,D p=some d/\look k d.l=some j:=by
 unfold at_ at h
 split at h
 ·cases h
 ·rename_i d hd
  exact⟨d,hd,h⟩
theorem cut_all (w:World)(h:TM base w tg sg mb A D)(hP:IN.PS base w sg mb M I L B q S)(hq:q<1000000)(h64:Num64 D)(s:ByteArray)(hs:s.size<=maxLen)(r:Int)(hr:r≠0)(f:Nat)(c:Int->Int)(hC:Chk w A D (PM.pN s) (PM.pD s) r f #[] c)(hc:∀ m,c m=0->∃ j,at_ D m (last (PM.pN s))=some j) :
 Calls prog 129 #[.pointer (some ⟨tg,0,none⟩),.string s,.int .i64 r,.func (.func f) #[] #[]] w fun e w'=>match cutR D s r c with
  | .error e0=>e=.returned (.int .i64 e0)/\Below w.heap.size w w'
  | .ok p=>∃ j,at_ D p (last (PM.pN s))=some j/\c p=0/\e=.returned (.int .i64 0)/\(∃ M',IN.PS base w' sg mb M' I L B q (IN.ulS S j))/\TM base w' tg sg mb A (cutD D p (last (PM.pN s)))/\Keeps base (FT A mb) w w':=by
 unfold cutR
 by_cases h0:PM.perr s=0
 ·rw[if_pos h0]
  cases hv:placeC D (PM.pN s) r c with
  | error e0=>exact cut_no s hs r f #[] c w h h0 hC e0 hv (placeC_er hr hv)
  | ok p=>
    obtain⟨hp,hc0⟩:=placeC_ok hv;obtain⟨j,hj⟩:=hc p hc0;obtain⟨d,hD,hl⟩:=at_look hj;refine (cut_yes I L B q M S s hs r f #[] c w h hP hq h0 hC p hv d hD j hl (h64 p d hD _ j hl)).mono ?_;rintro e w' ⟨rfl,h1,h2,h3⟩;rw[cutD_upd hD] at h2;exact⟨j,hj,hc0,rfl,h1,h2,h3⟩
 ·rw[if_neg h0];exact cut_parse s hs r (.func f) #[] #[] w h h0
theorem Unlink_any (w:World)(h:TM base w tg sg mb A D)(hP:IN.PS base w sg mb M I L B q S)(hq:q<1000000)(h64:Num64 D)(s:ByteArray)(hs:s.size<=maxLen) :
 Calls prog 97 #[.pointer (some ⟨tg,0,none⟩),.string s] w fun e w'=>match unlR D s with
  | .error e0=>Did base tg sg mb I L B q A w e0 S D e w'
  | .ok p=>∃ j,at_ D p (last (PM.pN s))=some j/\D j=none/\Did base tg sg mb I L B q A w 0 (IN.ulS S j) (cutD D p (last (PM.pN s))) e w':=by
 have c:=cut_all w h hP hq h64 s hs 14 (by decide) 130 _ (unl_chk w h s) (fun m hm=>by obtain⟨j,hj,-⟩:=ulc_ok hm;exact⟨j,hj⟩);have c2:Hid (Calls prog 129 #[.pointer (some ⟨tg,0,none⟩),.string s,.int .i64 14,.func (.func 130) #[] #[]] w fun e w'=>(∃ r,e=.returned (.int .i64 r))/\(match unlR D s with
  | .error e0=>Did base tg sg mb I L B q A w e0 S D e w'
  | .ok p=>∃ j,at_ D p (last (PM.pN s))=some j/\D j=none/\Did base tg sg mb I L B q A w 0 (IN.ulS S j) (cutD D p (last (PM.pN s))) e w')):=Wd (c.mono fun e w' hh=>by
  show _/\(match cutR D s 14 (ulc D (last (PM.pN s)) (PM.pD s)) with | .error e0=>_ | .ok p=>_)
  cases hv:cutR D s 14 (ulc D (last (PM.pN s)) (PM.pD s)) with
  | error e0=>
    rw[hv] at hh;obtain⟨rfl,hb⟩:=hh;exact⟨⟨_,rfl⟩,did_same h hP hb e0⟩
  | ok p=>
    rw[hv] at hh;obtain⟨j,hj,hc0,rfl,h1,h2,h3⟩:=hh;obtain⟨j2,hj2,hn⟩:=ulc_ok hc0;rw[hj] at hj2
    cases hj2
    exact⟨⟨_,rfl⟩,j,hj,hn,rfl,h1,⟨A,Sub.refl A w,h2⟩,h3⟩)
 obtain⟨X,hX⟩:∃ X:Ending->World->Prop,(fun e w'=>match unlR D s with
  | .error e0=>Did base tg sg mb I L B q A w e0 S D e w'
  | .ok p=>∃ j,at_ D p (last (PM.pN s))=some j/\D j=none/\Did base tg sg mb I L B q A w 0 (IN.ulS S j) (cutD D p (last (PM.pN s))) e w')=X:=⟨_,rfl⟩
 rw[hX];have c3:Hid (Calls prog 129 #[.pointer (some ⟨tg,0,none⟩),.string s,.int .i64 14,.func (.func 130) #[] #[]] w fun e w'=>(∃ r,e=.returned (.int .i64 r))/\X e w'):=Wd (by rw[<-hX];exact c2.out);clear c c2 h hP hX;go_enter func97,ntmps97
 go_wp2_with fail
 refine c3.out.mono ?_;rintro e w1 ⟨⟨r,rfl⟩,hx⟩;go_wp2_with fail
 exact hx
end
end NT
namespace NT
open IN (Keeps)
section
variable {base:Nat}{w w':World}{tg sg mb:Nat}{A:Int->Option (Nat×Nat)}{D:Ds}
end
end NT
namespace NT
open IN (Keeps)
section
variable {base:Nat}{w w':World}{tg sg mb:Nat}{A:Int->Option (Nat×Nat)}{D:Ds}
open Classical in
noncomputable def far (D:Ds) (n:Int):Nat:=if h:∃ k,Reach D k n then Classical.choose h else 0
theorem far_reach {D:Ds}{n:Int}{k:Nat}(h:Reach D k n):far D n=k:=by
 have he:∃ k,Reach D k n:=⟨k,h⟩;unfold far;rw[dif_pos he];exact reach_one (Classical.choose_spec he) h
def src (D:Ds)(s:ByteArray):Except Int Int:=place D (PM.pN s) 2
noncomputable def dst (D:Ds) (s t:ByteArray) (pf:Int):Except Int Int:=placeC D (PM.pN t) 2 (fun p=>movV D (far D p) pf (last (PM.pN s)) (PM.pD s) p (last (PM.pN t)) (PM.pD t))
end
end NT
end Go.Proofs.YtfffibepcdlldaaGreat

namespace Go.Proofs.YtfffibepcdlldaaGreat
namespace NT
theorem ins_perm (k:ByteArray)(n:Int):∀ l,(ins k n l).Perm ((k,n) :: l)
 | []=>.refl _
 | x :: l=>by
   unfold ins
   split
   ·exact ((ins_perm k n l).cons x).trans (List.Perm.swap _ _ _)
   ·exact .refl _
theorem del_none {k:ByteArray}:∀ {l},look k l=none->del k l=l
 | [],_=>rfl
 | x :: l,h=>by
   have hx:x.1≠k:=fun e=>by simp[look,e] at h
   have hl:look k l=none:=by simpa[look,hx] using h
   have ih:=del_none hl;unfold del at ih ⊢;rw[List.filter_cons_of_pos (by simp[hx]),ih]
theorem asc_tail {x:ByteArray×Int}{l:List (ByteArray×Int)}(h:Asc (x :: l)):Asc l:=(List.pairwise_cons.1 h).2
theorem asc_look {x:ByteArray×Int}{l:List (ByteArray×Int)}(h:Asc (x :: l)):look x.1 l=none:=by
 cases e:look x.1 l with
 | none=>rfl
 | some n=>
   have:=(List.pairwise_cons.1 h).1 _ (look_mem e);rw[blt_irr] at this;cases this
theorem del_perm {k:ByteArray}{m:Int}:∀ {l},Asc l->look k l=some m->l.Perm ((k,m) :: del k l)
 | [],_,h=>by cases h
 | x :: l,ha,h=>by
   unfold look at h
   split at h
   ·rename_i e
    cases h
    subst e;have h1:=del_none (asc_look ha);unfold del at h1 ⊢;rw[List.filter_cons_of_neg (by simp),h1]
   ·rename_i e
    have h1:=del_perm (asc_tail ha) h;have h2:del k (x :: l)=x :: del k l:=by unfold del;rw[List.filter_cons_of_pos (by simp[e])]
    rw[h2];exact (h1.cons x).trans (List.Perm.swap _ _ _)
theorem asc_del {l:List (ByteArray×Int)}(k:ByteArray)(h:Asc l):Asc (del k l):=List.Pairwise.filter _ h
theorem asc_ins {k:ByteArray}{n:Int}:∀ {l},Asc l->look k l=none->Asc (ins k n l)
 | [],_,_=>List.pairwise_singleton _ _
 | x :: l,ha,h=>by
   have hx:x.1≠k:=fun e=>by simp[look,e] at h
   have hl:look k l=none:=by simpa[look,hx] using h
   obtain⟨h1,h2⟩:=List.pairwise_cons.1 ha;unfold ins
   split
   ·rename_i hb
    refine List.pairwise_cons.2 ⟨fun y hy=>?_,asc_ins h2 hl⟩;rcases List.mem_cons.1 ((ins_perm k n l).mem_iff.1 hy) with rfl|hy
    ·exact hb
    ·exact h1 y hy
   ·rename_i hb
    have hkx:blt k x.1=true:=blt_tot (by simpa using hb) hx;refine List.pairwise_cons.2 ⟨fun y hy=>?_,ha⟩;rcases List.mem_cons.1 hy with rfl|hy
    ·exact hkx
    ·exact blt_tr hkx (h1 y hy)
theorem asc_put {k:ByteArray}{n:Int}{l:List (ByteArray×Int)}(h:Asc l):Asc (put k n l):=asc_ins (asc_del k h) (by rw[look_del,if_pos rfl])
theorem put_len {k:ByteArray}{n:Int}{l:List (ByteArray×Int)}:(put k n l).length<=l.length+1:=by
 unfold put;rw[(ins_perm k n _).length_eq,List.length_cons];have:=del_len k l
 omega
def cntL (j:Int)(l:List (ByteArray×Int)):Nat:=l.countP fun x=>decide (x.2=j)
theorem cntL_cons (j:Int)(k:ByteArray)(n:Int)(l:List (ByteArray×Int)):cntL j ((k,n) :: l)=cntL j l+(if n=j then 1 else 0):=by
 unfold cntL;rw[List.countP_cons];simp
theorem cntL_put {k:ByteArray}{l:List (ByteArray×Int)}(j n:Int)(h:look k l=none):cntL j (put k n l)=cntL j l+(if n=j then 1 else 0):=by
 unfold put;rw[del_none h,<-cntL_cons j k n l];exact (ins_perm k n l).countP_eq _
theorem cntL_del {k:ByteArray}{m:Int}{l:List (ByteArray×Int)}(ha:Asc l)(h:look k l=some m)(j:Int):cntL j l=cntL j (del k l)+(if m=j then 1 else 0):=by
 rw[<-cntL_cons j k m];exact (del_perm ha h).countP_eq _
theorem cntL_pos {k:ByteArray}{j:Int}{l:List (ByteArray×Int)}(h:look k l=some j):1<=cntL j l:=List.countP_pos_iff.2 ⟨_,look_mem h,by simp⟩
def cl (D:Ds)(n:Int)(j:Int):Nat:=match D n with|none=>0|some d=>cntL j d.l
def cnt (D:Ds)(j:Int):Nat->Nat
 | 0=>0
 | n+1=>cnt D j n+cl D ((n:Int)+1) j
theorem cnt_same {D D':Ds}{j:Int}:∀ {N:Nat},(∀ x:Int,1<=x->x<=N->cl D' x j=cl D x j)->cnt D' j N=cnt D j N
 | 0,_=>rfl
 | N+1,h=>by
   unfold cnt;rw[cnt_same (N:=N) fun x h1 h2=>h x h1 (by omega),h ((N:Int)+1) (by omega) (by omega)]
theorem cnt_turn {D D':Ds}{j p:Int}:∀ {N:Nat},1<=p->p<=N->(∀ x:Int,x≠p->cl D' x j=cl D x j)->cnt D' j N+cl D p j=cnt D j N+cl D' p j
 | 0,h1,h2,_=>by omega
 | N+1,h1,h2,h=>by
   unfold cnt
   by_cases e:p=(N:Int)+1
   ·subst e;rw[cnt_same (N:=N) fun x h3 h4=>h x (by omega)]
    omega
   ·have:=cnt_turn (N:=N) h1 (by omega) h;rw[h ((N:Int)+1) (fun e2=>e e2.symm)]
    omega
theorem cnt_ge {D:Ds}{j p:Int}:∀ {N:Nat},1<=p->p<=N->cl D p j<=cnt D j N
 | 0,h1,h2=>by omega
 | N+1,h1,h2=>by
   unfold cnt
   by_cases e:p=(N:Int)+1
   ·subst e;omega
   ·have:=cnt_ge (D:=D) (j:=j) (N:=N) h1 (by omega)
    omega
theorem reach_keep {D D':Ds}(h:∀ n d,D n=some d->∃ d',D' n=some d'/\d'.up=d.up):∀ {k:Nat} {n:Int},Reach D k n->Reach D' k n
 | 0,n,hr=>hr
 | k+1,n,hr=>by
   obtain⟨h1,x,hx,hr⟩:=hr;obtain⟨d',hd',hu⟩:=h n x hx;exact⟨h1,d',hd',by rw[hu];exact reach_keep h hr⟩
end NT
namespace NT
def ad (e:Int->Int)(j v:Int):Int->Int:=fun x=>if x=j then e x+v else e x
theorem ad_at {e:Int->Int}{j v:Int}:ad e j v j=e j+v:=if_pos rfl
theorem ad_ne {e:Int->Int}{j v x:Int}(h:x≠j):ad e j v x=e x:=if_neg h
structure TI (I c:Nat)(e:Int->Int)(S:Int->Option IN.Nd)(D:Ds):Prop where
 root:∃ d,D 1=some d/\d.up=1
 num:∀ n,S n≠none->1<=n/\n<=(I:Int)
 kind:∀ n,D n≠none↔∃ x,S n=some x/\x.kind=2
 one:∀ n x,S n=some x->x.kind=2->x.links=1
 links:∀ j x,S j=some x->(0<=x.opens/\(x.kind=2->x.opens=0))/\x.links=(cnt D j I:Int)+(if j=1 then 1 else 0)+e j
 gone:∀ j,S j=none->cnt D j I=0/\e j=0
 ent:∀ n d k j,D n=some d->look k d.l=some j->PM.name k=true/\∀ dj,D j=some dj->dj.up=n
 up:∀ j dj,D j=some dj->∃ d,D dj.up=some d
 asc:∀ n d,D n=some d->Asc d.l/\d.l.length<=c
 reach:∀ n d,D n=some d->∃ k,Reach D k n
section
variable {I c:Nat}{e:Int->Int}{S:Int->Option IN.Nd}{D:Ds}
theorem TI.congr (h:TI I c e S D){e':Int->Int}(he:∀ j,e' j=e j):TI I c e' S D:=by
 have:e'=e:=funext he;rw[this];exact h
theorem TI.more (h:TI I c e S D){c':Nat}(hc:c<=c'):TI I c' e S D:=⟨h.root,h.num,h.kind,h.one,h.links,h.gone,h.ent,h.up,fun n d hD=>⟨(h.asc n d hD).1,Nat.le_trans (h.asc n d hD).2 hc⟩,h.reach⟩
theorem TI.dir (h:TI I c e S D){n:Int}{d:Dr}(hD:D n=some d):∃ x,S n=some x/\x.kind=2/\x.links=1/\1<=n/\n<=(I:Int):=by
 obtain⟨x,hx,hk⟩:=(h.kind n).1 (by rw[hD];simp);exact⟨x,hx,hk,h.one n x hx hk,h.num n (by rw[hx];simp)⟩
theorem cl_pos {D:Ds}{n j:Int}{k:ByteArray}(h:at_ D n k=some j):1<=cl D n j:=by
 obtain⟨d,hD,hl⟩:=at_look h;unfold cl;rw[hD];exact cntL_pos hl
theorem TI.cnt_pos (h:TI I c e S D){n j:Int}{k:ByteArray}(hj:at_ D n k=some j):1<=cnt D j I:=by
 obtain⟨d,hD,hl⟩:=at_look hj;obtain⟨-,-,-,-,h1,h2⟩:=h.dir hD;exact Nat.le_trans (cl_pos hj) (cnt_ge h1 h2)
theorem TI.has (h:TI I c e S D){n j:Int}{k:ByteArray}(hj:at_ D n k=some j):S j≠none:=fun e2=>by
 have:=h.cnt_pos hj;have:=(h.gone j e2).1
 omega
theorem cutD_at {D:Ds}{p:Int}{d:Dr}(hD:D p=some d)(k:ByteArray):cutD D p k p=some { d with l:=del k d.l }:=by unfold cutD;rw[if_pos rfl,hD];rfl
theorem cutD_ne {D:Ds}{p x:Int}(h:x≠p)(k:ByteArray):cutD D p k x=D x:=if_neg h
theorem TI.cut (h:TI I c e S D){p m:Int}{k:ByteArray}(hm:at_ D p k=some m):TI I c (ad e m 1) S (cutD D p k):=by
 obtain⟨d,hD,hl⟩:=at_look hm;obtain⟨-,-,-,-,p1,p2⟩:=h.dir hD;have hcl:∀ j,cl D p j=cl (cutD D p k) p j+(if m=j then 1 else 0):=fun j=>by
  unfold cl;rw[cutD_at hD,hD];exact cntL_del (h.asc p d hD).1 hl j
 have hcnt:∀ j,cnt D j I=cnt (cutD D p k) j I+(if m=j then 1 else 0):=fun j=>by
  have h1:=cnt_turn (D:=D) (D':=cutD D p k) (j:=j) (p:=p) (N:=I) p1 p2 fun x hx=>by unfold cl;rw[cutD_ne hx]
  have h2:=hcl j
  omega
 have hold:∀ n d',cutD D p k n=some d'->∃ d0,D n=some d0/\d'.up=d0.up/\(d'.l=d0.l∨d'.l=del k d0.l):=fun n d' hd=>by
  by_cases hn:n=p
  ·subst hn;rw[cutD_at hD] at hd
   cases hd
   exact⟨d,hD,rfl,.inr rfl⟩
  ·rw[cutD_ne hn] at hd;exact⟨d',hd,rfl,.inl rfl⟩
 have hnew:∀ n d0,D n=some d0->∃ d',cutD D p k n=some d'/\d'.up=d0.up:=fun n d0 hd=>by
  by_cases hn:n=p
  ·subst hn;rw[hD] at hd
   cases hd
   exact⟨_,cutD_at hD k,rfl⟩
  ·exact⟨d0,by rw[cutD_ne hn];exact hd,rfl⟩
 refine⟨?_,h.num,fun n=>?_,h.one,fun j x hx=>?_,fun j hj=>?_,fun n d' k' j hd hlk=>?_,fun j dj hd=>?_,fun n d' hd=>?_,fun n d' hd=>?_⟩
 ·obtain⟨d0,h0,h1⟩:=h.root;obtain⟨d',h2,h3⟩:=hnew 1 d0 h0;exact⟨d',h2,by rw[h3,h1]⟩
 ·rw[<-h.kind n]
  constructor
  ·intro hn hno
   cases hd:cutD D p k n with
   | none=>exact hn hd
   | some d'=>
     obtain⟨d0,h0,-⟩:=hold n d' hd;rw[h0] at hno;cases hno
  ·intro hn hno;obtain⟨d0,h0⟩:=Option.ne_none_iff_exists'.1 hn;obtain⟨d',h2,-⟩:=hnew n d0 h0;rw[h2] at hno;cases hno
 ·obtain⟨h1,h2⟩:=h.links j x hx;refine⟨h1,?_⟩;rw[h2,hcnt j]
  by_cases hj:m=j
  ·subst hj;rw[ad_at,if_pos rfl];omega
  ·rw[ad_ne (Ne.symm hj),if_neg hj];omega
 ·have h1:=h.gone j hj;have h2:=hcnt j;have hne:m≠j:=fun e2=>h.has hm (by rw[e2];exact hj);rw[if_neg hne] at h2;rw[ad_ne hne.symm];exact⟨by omega,h1.2⟩
 ·obtain⟨d0,h0,h1,h2⟩:=hold n d' hd;have hlk0:look k' d0.l=some j:=by
   rcases h2 with h2|h2
   ·rw[<-h2];exact hlk
   ·rw[h2,look_del] at hlk
    split at hlk
    ·cases hlk
    ·exact hlk
  obtain⟨h3,h4⟩:=h.ent n d0 k' j h0 hlk0;refine⟨h3,fun dj hdj=>?_⟩;obtain⟨dj0,h5,h6,-⟩:=hold j dj hdj;rw[h6];exact h4 dj0 h5
 ·obtain⟨d0,h0,h1,-⟩:=hold j dj hd;obtain⟨d2,h2⟩:=h.up j d0 h0;obtain⟨d3,h3,-⟩:=hnew _ d2 h2;rw[h1];exact⟨d3,h3⟩
 ·obtain⟨d0,h0,h1,h2⟩:=hold n d' hd;obtain⟨h3,h4⟩:=h.asc n d0 h0;rcases h2 with h2|h2
  ·rw[h2];exact⟨h3,h4⟩
  ·rw[h2];exact⟨asc_del k h3,Nat.le_trans (del_len k _) h4⟩
 ·obtain⟨d0,h0,-⟩:=hold n d' hd;obtain⟨q,hq⟩:=h.reach n d0 h0;exact⟨q,reach_keep hnew hq⟩
def putD (D:Ds)(p:Int)(k:ByteArray)(n:Int):Ds:=fun x=>if x=p then (D p).map (fun d=>{ d with l:=put k n d.l }) else D x
theorem putD_at {D:Ds}{p:Int}{d:Dr}(hD:D p=some d)(k:ByteArray)(n:Int):putD D p k n p=some { d with l:=put k n d.l }:=by unfold putD;rw[if_pos rfl,hD];rfl
theorem putD_ne {D:Ds}{p x:Int}(h:x≠p)(k:ByteArray)(n:Int):putD D p k n x=D x:=if_neg h
theorem TI.put (h:TI I c e S D){p n:Int}{d:Dr}{k:ByteArray}(hD:D p=some d)(hl:look k d.l=none)(hk:PM.name k=true)(hn:S n≠none)(hup:∀ dn,D n=some dn->dn.up=p):TI I (c+1) (ad e n (-1)) S (putD D p k n):=by
 obtain⟨-,-,-,-,p1,p2⟩:=h.dir hD;have hcl:∀ j,cl (putD D p k n) p j=cl D p j+(if n=j then 1 else 0):=fun j=>by
  unfold cl;rw[putD_at hD,hD];exact cntL_put j n hl
 have hcnt:∀ j,cnt (putD D p k n) j I=cnt D j I+(if n=j then 1 else 0):=fun j=>by
  have h1:=cnt_turn (D:=D) (D':=putD D p k n) (j:=j) (p:=p) (N:=I) p1 p2 fun x hx=>by unfold cl;rw[putD_ne hx]
  have h2:=hcl j
  omega
 have hold:∀ m d',putD D p k n m=some d'->∃ d0,D m=some d0/\d'.up=d0.up/\(d'.l=d0.l∨m=p/\d'.l=NT.put k n d0.l):=fun m d' hd=>by
  by_cases hm:m=p
  ·subst hm;rw[putD_at hD] at hd
   cases hd
   exact⟨d,hD,rfl,.inr ⟨rfl,rfl⟩⟩
  ·rw[putD_ne hm] at hd;exact⟨d',hd,rfl,.inl rfl⟩
 have hnew:∀ m d0,D m=some d0->∃ d',putD D p k n m=some d'/\d'.up=d0.up:=fun m d0 hd=>by
  by_cases hm:m=p
  ·subst hm;rw[hD] at hd
   cases hd
   exact⟨_,putD_at hD k n,rfl⟩
  ·exact⟨d0,by rw[putD_ne hm];exact hd,rfl⟩
 refine⟨?_,h.num,fun m=>?_,h.one,fun j x hx=>?_,fun j hj=>?_,fun m d' k' j hd hlk=>?_,fun j dj hd=>?_,fun m d' hd=>?_,fun m d' hd=>?_⟩
 ·obtain⟨d0,h0,h1⟩:=h.root;obtain⟨d',h2,h3⟩:=hnew 1 d0 h0;exact⟨d',h2,by rw[h3,h1]⟩
 ·rw[<-h.kind m]
  constructor
  ·intro hn hno
   cases hd:putD D p k n m with
   | none=>exact hn hd
   | some d'=>
     obtain⟨d0,h0,-⟩:=hold m d' hd;rw[h0] at hno;cases hno
  ·intro hn hno;obtain⟨d0,h0⟩:=Option.ne_none_iff_exists'.1 hn;obtain⟨d',h2,-⟩:=hnew m d0 h0;rw[h2] at hno;cases hno
 ·obtain⟨h1,h2⟩:=h.links j x hx;refine⟨h1,?_⟩;rw[h2,hcnt j]
  by_cases hj:n=j
  ·subst hj;rw[ad_at,if_pos rfl];omega
  ·rw[ad_ne (Ne.symm hj),if_neg hj];omega
 ·have h1:=h.gone j hj;have h2:=hcnt j;have hne:n≠j:=fun e2=>hn (by rw[e2];exact hj);rw[if_neg hne] at h2;rw[ad_ne hne.symm];exact⟨by omega,h1.2⟩
 ·obtain⟨d0,h0,h1,h2⟩:=hold m d' hd;have hin:(k'=k/\j=n/\m=p)∨look k' d0.l=some j:=by
   rcases h2 with h2|⟨h3,h2⟩
   ·rw[<-h2];exact .inr hlk
   ·rw[h2,look_put] at hlk
    split at hlk
    ·rename_i hkk
     cases hlk
     exact .inl ⟨hkk,rfl,h3⟩
    ·exact .inr hlk
  have hfin:PM.name k'=true/\∀ dj,D j=some dj->dj.up=m:=by
   rcases hin with ⟨rfl,rfl,rfl⟩|hin
   ·exact⟨hk,hup⟩
   ·exact h.ent m d0 k' j h0 hin
  refine⟨hfin.1,fun dj hdj=>?_⟩;obtain⟨dj0,h5,h6,-⟩:=hold j dj hdj;rw[h6];exact hfin.2 dj0 h5
 ·obtain⟨d0,h0,h1,-⟩:=hold j dj hd;obtain⟨d2,h2⟩:=h.up j d0 h0;obtain⟨d3,h3,-⟩:=hnew _ d2 h2;rw[h1];exact⟨d3,h3⟩
 ·obtain⟨d0,h0,h1,h2⟩:=hold m d' hd;obtain⟨h3,h4⟩:=h.asc m d0 h0;rcases h2 with h2|⟨-,h2⟩
  ·rw[h2];exact⟨h3,by omega⟩
  ·rw[h2];have:=put_len (k:=k) (n:=n) (l:=d0.l);exact⟨asc_put h3,by omega⟩
 ·obtain⟨d0,h0,-⟩:=hold m d' hd;obtain⟨q,hq⟩:=h.reach m d0 h0;exact⟨q,reach_keep hnew hq⟩
end
end NT
namespace NT
section
variable {I c:Nat}{e:Int->Int}{S:Int->Option IN.Nd}{D:Ds}
def upD (D:Ds)(n p:Int):Ds:=fun x=>if x=n then (D n).map (fun d=>{ d with up:=p }) else D x
theorem ulS_some {S:Int->Option IN.Nd}{j:Int}{x:IN.Nd}(hx:S j=some x)(hl:0<x.links):IN.ulS S j=IN.upd S j (if x.links=1/\x.opens=0 then none else some { x with links:=x.links-1 }):=by
 unfold IN.ulS;rw[hx];simp only;rw[if_pos hl];unfold IN.gone;rw[IN.upd_at];simp only
 by_cases h:x.links=1/\x.opens=0
 ·rw[if_pos ⟨by omega,h.2⟩,if_pos h,IN.upd_upd]
 ·rw[if_neg (fun h2=>h ⟨by omega,h2.2⟩),if_neg h]
theorem TI.lost (h:TI I c e S D){j:Int}(hD:D j=none)(he:e j=1):TI I c (ad e j (-1)) (IN.ulS S j) D:=by
 have hSj:S j≠none:=fun e2=>by have:=(h.gone j e2).2;omega
 obtain⟨x,hx⟩:=Option.ne_none_iff_exists'.1 hSj;obtain⟨ho,hl⟩:=h.links j x hx;have hj1:j≠1:=fun e2=>by
  obtain⟨d,h1,-⟩:=h.root;rw[<-e2,hD] at h1;cases h1
 rw[if_neg hj1,he] at hl;have hk2:x.kind≠2:=fun e2=>(h.kind j).2 ⟨x,hx,e2⟩ hD;rw[ulS_some hx (by omega)];have hne:∀ n,n≠j->IN.upd S j (if x.links=1/\x.opens=0 then none else some { x with links:=x.links-1 }) n=S n:=fun n hn=>IN.upd_ne hn;refine⟨h.root,fun n hn=>?_,fun n=>?_,fun n y hy hk=>?_,fun n y hy=>?_,fun n hn=>?_,h.ent,h.up,h.asc,h.reach⟩
 ·by_cases e2:n=j
  ·subst e2;exact h.num n hSj
  ·rw[hne n e2] at hn;exact h.num n hn
 ·by_cases e2:n=j
  ·subst e2;rw[IN.upd_at,hD]
   constructor
   ·intro h2;exact absurd rfl h2
   ·rintro ⟨y,hy,hk⟩
    split at hy
    ·cases hy
    ·cases hy;exact absurd hk hk2
  ·rw[hne n e2];exact h.kind n
 ·by_cases e2:n=j
  ·subst e2;rw[IN.upd_at] at hy
   split at hy
   ·cases hy
   ·cases hy;exact absurd hk hk2
  ·rw[hne n e2] at hy;exact h.one n y hy hk
 ·by_cases e2:n=j
  ·subst e2;rw[IN.upd_at] at hy
   split at hy
   ·cases hy
   ·cases hy
    refine⟨ho,?_⟩
    show x.links-1=_
    rw[if_neg hj1,ad_at];omega
  ·rw[hne n e2] at hy;rw[ad_ne e2];exact h.links n y hy
 ·by_cases e2:n=j
  ·subst e2;rw[IN.upd_at] at hn
   split at hn
   ·rw[ad_at];omega
   ·cases hn
  ·rw[hne n e2] at hn;rw[ad_ne e2];exact h.gone n hn
theorem TI.newFile (h:TI I c e S D){n:Int}(hn:S n=none)(h1:1<=n)(h2:n<=(I:Int)):TI I c (ad e n 1) (IN.upd S n (some (IN.newNd 1))) D:=by
 obtain⟨g1,g2⟩:=h.gone n hn;have hn1:n≠1:=fun e2=>by
  obtain⟨d,h3,-⟩:=h.root;obtain⟨x,hx,-⟩:=h.dir h3;rw[<-e2,hn] at hx;cases hx
 have hDn:D n=none:=by
  cases hD:D n with
  | none=>rfl
  | some d=>
    obtain⟨x,hx,-⟩:=h.dir hD;rw[hn] at hx;cases hx
 refine⟨h.root,fun m hm=>?_,fun m=>?_,fun m y hy hk=>?_,fun m y hy=>?_,fun m hm=>?_,h.ent,h.up,h.asc,h.reach⟩
 ·by_cases e2:m=n
  ·subst e2;exact⟨h1,h2⟩
  ·rw[IN.upd_ne e2] at hm;exact h.num m hm
 ·by_cases e2:m=n
  ·subst e2;rw[IN.upd_at,hDn]
   constructor
   ·intro h3;exact absurd rfl h3
   ·rintro ⟨y,hy,hk⟩;cases hy;cases hk
  ·rw[IN.upd_ne e2];exact h.kind m
 ·by_cases e2:m=n
  ·subst e2;rw[IN.upd_at] at hy;cases hy;cases hk
  ·rw[IN.upd_ne e2] at hy;exact h.one m y hy hk
 ·by_cases e2:m=n
  ·subst e2;rw[IN.upd_at] at hy
   cases hy
   refine⟨⟨Int.le_refl _,fun _=>rfl⟩,?_⟩;rw[ad_at,g1,g2,if_neg hn1]
   rfl
  ·rw[IN.upd_ne e2] at hy;rw[ad_ne e2];exact h.links m y hy
 ·by_cases e2:m=n
  ·subst e2;rw[IN.upd_at] at hm;cases hm
  ·rw[IN.upd_ne e2] at hm;rw[ad_ne e2];exact h.gone m hm
theorem TI.linked (h:TI I c e S D){n:Int}{x:IN.Nd}(hx:S n=some x)(hD:D n=none):TI I c (ad e n 1) (IN.upd S n (some { x with links:=x.links+1 })) D:=by
 have hk2:x.kind≠2:=fun e2=>(h.kind n).2 ⟨x,hx,e2⟩ hD;refine⟨h.root,fun m hm=>?_,fun m=>?_,fun m y hy hk=>?_,fun m y hy=>?_,fun m hm=>?_,h.ent,h.up,h.asc,h.reach⟩
 ·by_cases e2:m=n
  ·subst e2;exact h.num m (by rw[hx];simp)
  ·rw[IN.upd_ne e2] at hm;exact h.num m hm
 ·by_cases e2:m=n
  ·subst e2;rw[IN.upd_at,hD]
   constructor
   ·intro h3;exact absurd rfl h3
   ·rintro ⟨y,hy,hk⟩;cases hy;exact absurd hk hk2
  ·rw[IN.upd_ne e2];exact h.kind m
 ·by_cases e2:m=n
  ·subst e2;rw[IN.upd_at] at hy;cases hy;exact absurd hk hk2
  ·rw[IN.upd_ne e2] at hy;exact h.one m y hy hk
 ·by_cases e2:m=n
  ·subst e2;rw[IN.upd_at] at hy
   cases hy
   obtain⟨h3,h4⟩:=h.links m x hx;refine⟨h3,?_⟩;rw[ad_at]
   show x.links+1=_
   omega
  ·rw[IN.upd_ne e2] at hy;rw[ad_ne e2];exact h.links m y hy
 ·by_cases e2:m=n
  ·subst e2;rw[IN.upd_at] at hm;cases hm
  ·rw[IN.upd_ne e2] at hm;rw[ad_ne e2];exact h.gone m hm
end
end NT
namespace NT
section
variable {I L c:Nat}{S:Int->Option IN.Nd}{D:Ds}
abbrev e0:Int->Int:=fun _=>0
theorem at_none {D:Ds}{p:Int}{d:Dr}{k:ByteArray}(hD:D p=some d)(h:at_ D p k=none):look k d.l=none:=by unfold at_ at h;rw[hD] at h;exact h
theorem vac_ok {D:Ds}{kind p:Int}{s:ByteArray}(h:vacant D kind s=.ok p):(∃ d,D p=some d)/\at_ D p (last (PM.pN s))=none/\PM.name (last (PM.pN s))=true:=by
 obtain⟨h1,h2⟩:=placeC_ok h;refine⟨place_dir2 h1,?_⟩;unfold vac at h2
 split at h2
 ·cases h2
 ·rename_i h3
  simp only[not_or,ne_eq,Decidable.not_not,Bool.not_eq_false] at h3;exact h3
theorem mkD_file {D:Ds}{p n:Int}{k:ByteArray}:mkD D p k n 1=putD D p k n:=by
 funext m
 unfold mkD putD
 by_cases h:m=p
 ·rw[if_pos h,if_pos h]
 ·rw[if_neg h,if_neg h,if_neg (fun h2=>by have:=h2.2;omega)]
theorem mkD_dir {D:Ds}{p n:Int}{k:ByteArray}(hne:p≠n):mkD D p k n 2=putD (upd D n (some ⟨p,[]⟩)) p k n:=by
 funext m
 unfold mkD putD
 by_cases h:m=p
 ·rw[if_pos h,if_pos h,upd_ne hne]
 ·rw[if_neg h,if_neg h]
  by_cases h2:m=n
  ·rw[if_pos ⟨h2,rfl⟩,h2,upd_at]
  ·rw[if_neg (fun h3=>h2 h3.1),upd_ne h2]
theorem ad_zero (n:Int)(j:Int):e0 j=ad (ad e0 n 1) n (-1) j:=by
 unfold ad e0
 by_cases h:j=n <;> simp[h]
theorem TI.noD (h:TI I c e0 S D){n:Int}(hn:S n=none):D n=none:=by
 cases hD:D n with
 | none=>rfl
 | some d=>
   obtain⟨x,hx,-⟩:=h.dir hD;rw[hn] at hx;cases hx
theorem TI.mkFile (h:TI I c e0 S D){s:ByteArray}{p n:Int}(hv:vacant D 1 s=.ok p)(hn:S n=none)(h1:1<=n)(h2:n<=(I:Int)):TI I (c+1) e0 (IN.upd S n (some (IN.newNd 1))) (mkD D p (last (PM.pN s)) n 1):=by
 obtain⟨⟨d,hD⟩,h3,h4⟩:=vac_ok hv;rw[mkD_file];exact ((h.newFile hn h1 h2).put hD (at_none hD h3) h4 (by rw[IN.upd_at];simp) (fun dn hdn=>by rw[h.noD hn] at hdn;cases hdn)).congr (ad_zero n)
theorem TI.free (h:TI I c e0 S D){n:Int}(hn:S n=none):Free D n:=fun m d hD=>by
 refine⟨fun e2=>?_,fun k hk=>?_⟩
 ·obtain⟨d2,h2⟩:=h.up m d hD;rw[e2,h.noD hn] at h2;cases h2
 ·exact h.has (n:=m) (k:=k) (j:=n) (by unfold at_;rw[hD];exact hk) hn
theorem TI.link (h:TI I c e0 S D){s:ByteArray}{p n:Int}(hv:vacant D 1 s=.ok p)(hD:D n=none)(hr:IN.lkR L S n=0):TI I (c+1) e0 (IN.lkS L S n) (putD D p (last (PM.pN s)) n):=by
 unfold IN.lkR IN.askR at hr;unfold IN.lkS
 cases hx:S n with
 | none=>rw[hx] at hr;cases hr
 | some x=>
   rw[hx] at hr;simp only at hr ⊢
   split at hr
   ·rename_i hlt
    rw[if_pos hlt];obtain⟨⟨d,hDp⟩,h3,h4⟩:=vac_ok hv;exact ((h.linked hx hD).put hDp (at_none hDp h3) h4 (by rw[IN.upd_at];simp) (fun dn hdn=>by rw[hD] at hdn;cases hdn)).congr (ad_zero n)
   ·cases hr
theorem TI.unlink (h:TI I c e0 S D){p j:Int}{k:ByteArray}(hj:at_ D p k=some j)(hD:D j=none):TI I c e0 (IN.ulS S j) (cutD D p k):=by
 have hn:cutD D p k j=none:=by
  unfold cutD
  split
  ·rename_i e2
   subst e2;rw[hD];rfl
  ·exact hD
 exact ((h.cut hj).lost hn (by rw[ad_at];rfl)).congr (ad_zero j)
theorem cutD_none {D:Ds}{p m:Int}{k:ByteArray}:cutD D p k m=none↔D m=none:=by
 unfold cutD
 split
 ·rename_i e2
  subst e2;rw[Option.map_eq_none_iff]
 ·rfl
end
end NT
end Go.Proofs.YtfffibepcdlldaaGreat

namespace Go.Proofs.YtfffibepcdlldaaGreat
open Go.ChangeShapes Go.WideShapes Go.ChangeAt Go.RowKit Go.Maps
namespace IN
end IN
end Go.Proofs.YtfffibepcdlldaaGreat

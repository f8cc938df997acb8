/- A part. -/
import Derived.Test.YtfffibepcdlldaaGreatZA31
import Derived.Test.YtfffibepcdlldaaGreatZA26
import Derived.Test.YtfffibepcdlldaaGreatZA23
import Derived.Test.YtfffibepcdlldaaGreatZA08
import Derived.Test.YtfffibepcdlldaaGreatZA07
set_option linter.unusedVariables false
set_option linter.unusedSimpArgs false
set_option maxRecDepth 100000
set_option maxHeartbeats 64000000
open Go.Proofs.Tryz

namespace Go.Proofs.YtfffibepcdlldaaGreat
open Go.ChangeShapes Go.WideShapes Go.ChangeAt Go.RowKit Go.Maps
namespace DC
open IS (ptr I64 upd)
open IN (Nd PS cap7)
open NT (TM Ds findR nu er)
theorem stV_form (S:Int->Option Nd)(n:Int):∃ a b c d e f:Int,IN.stV S n=[.int .i64 a,.int .i64 b,.int .i64 c,.int .i64 d,.int .i64 e,.int .i64 f]:=by
 unfold IN.stV
 split
 ·exact⟨_,_,_,_,_,_,rfl⟩
 ·exact⟨_,_,_,_,_,_,rfl⟩
theorem opR_ne (S:Int->Option Nd)(n:Int):(IN.opR S n == 1)=false:=by
 unfold IN.opR IN.askR
 split
 ·rfl
 ·simp
theorem slash_ok (D:Ds)(h:D 1≠none):findR D ⟨#[47]⟩=.ok 1:=by
 unfold findR;rw[if_pos (by decide),show PM.pN ⟨#[47]⟩=[] by decide]
 show (if PM.pD ⟨#[47]⟩=true/\D 1=none then Except.error 13 else Except.ok 1)=Except.ok 1
 rw[if_neg fun e=>h e.2]
def CR (x y:Int):Prop:=1<=x/\x<=64/\1<=y/\y<=1024
section
variable {base tg sg mb I L B k:Nat}{M:Int->Option Nat}{S:Int->Option Nd}{A:Int->Option (Nat×Nat)}{D:Ds}
theorem New_both (a1 a2 a3 x y a6 a7:Int)(w:World)(hS:PS base w sg mb M I L B k S)(hT:TM base w tg sg mb A D)(hxy:CR x y) :
 Calls prog 11 #[.pointer (some ⟨sg,0,none⟩),.pointer (some ⟨tg,0,none⟩),cap7 a1 a2 a3 x y a6 a7] w fun e w'=>∃ g b,e=.returned (.tuple #[.pointer (some ⟨g,0,none⟩),.int .i64 0])/\w.heap.size<=b/\w.heap.size<=g/\g≠b/\TB w' g sg tg b x y/\MB w' b 0 (fun _=>none)/\Below w.heap.size w w':=by
 have b0:Below w.heap.size w (w.alloc (.cells #[.int .i64 a1,.int .i64 a2,.int .i64 a3,.int .i64 x,.int .i64 y,.int .i64 a6,.int .i64 a7] 25)):=(Below.refl _ w).alloc (Nat.le_refl _) _;have hC:Blk (w.alloc (.cells #[.int .i64 a1,.int .i64 a2,.int .i64 a3,.int .i64 x,.int .i64 y,.int .i64 a6,.int .i64 a7] 25)) w.heap.size 25 [.int .i64 a1,.int .i64 a2,.int .i64 a3,.int .i64 x,.int .i64 y,.int .i64 a6,.int .i64 a7]:=Blk.new _ _ _ rfl;have cS:=IN.Stat_any 0 _ (hS.keep b0) ⟨by decide,by decide⟩;obtain⟨s1,s2,s3,s4,s5,s6,hs⟩:=stV_form S 0;obtain⟨oe,ho⟩:∃ oe,IN.opR S 0=oe:=⟨_,rfl⟩;have hoe:=opR_ne S 0;rw[hs,ho] at cS;rw[ho] at hoe;replace cS:=Wd (show Calls prog 33 #[.pointer (some ⟨sg,0,none⟩),.int .i64 0] _ fun e w'=>e=.returned (.tuple #[.agg #[.int .i64 s1,.int .i64 s2,.int .i64 s3,.int .i64 s4,.int .i64 s5,.int .i64 s6],.int .i64 oe])/\_ from cS);have hT0:=hT.keep b0;have hD:D 1≠none:=hT.root;have hmk:∀ W:World,(Instr.makeMap 94 none).run prog W=.ok (.map (some W.heap.size)) (W.alloc (.map #[] 0)):=fun W=>by kernel_rfl
 obtain⟨h1,h2,h3,h4⟩:=hxy;have g1:decide (x<1)=false:=by simp;omega
 have g2:decide (x>64)=false:=by simp;omega
 have g3:decide (y<1)=false:=by simp;omega
 have g4:decide (y>1024)=false:=by simp;omega
 replace hT0:=Wd hT0;replace hC:=Wd hC;replace b0:=Wd b0;unfold cap7;clear hS hT hs ho h1 h2 h3 h4;go_enter func11,ntmps11
 go_wp2_with fail
 refine cS.out.mono ?_;rintro e w1 ⟨rfl,b1⟩;have hC1:=Wd (hC.out.keep b1);have hT1:=hT0.out.keep b1;have B1:=Wd (b0.out.trans (b1.mono b0.out.size));have hT2:=hT1.alloc (.cells #[.int .i64 s1,.int .i64 s2,.int .i64 s3,.int .i64 s4,.int .i64 s5,.int .i64 s6] 65);have cF:=NT.Find_any ⟨#[47]⟩ (by decide) _ hT2;rw[slash_ok D hD] at cF;simp only[nu,er] at cF;have hC2:=Wd (hC1.out.alloc (.cells #[.int .i64 s1,.int .i64 s2,.int .i64 s3,.int .i64 s4,.int .i64 s5,.int .i64 s6] 65));have B2:=Wd (B1.out.alloc B1.out.size (.cells #[.int .i64 s1,.int .i64 s2,.int .i64 s3,.int .i64 s4,.int .i64 s5,.int .i64 s6] 65));replace cF:=Wd cF;clear b1 hT0 hT1 hT2 hC hC1 B1 b0 cS;go_wp2_with fail
 refine cF.out.mono ?_;rintro e w2 ⟨rfl,b2⟩;have hC3:=hC2.out.keep b2;have c3:=hC3.cell (j:=3) rfl;have c4:=hC3.cell (j:=4) rfl;have c3m:=(hC3.alloc (.map #[] 0)).cell (j:=3) rfl;have c4m:=(hC3.alloc (.map #[] 0)).cell (j:=4) rfl;have B3:=Wd (B2.out.trans (b2.mono B2.out.size));have hMB:=MB.new w2;have hsz:(w2.alloc (.map #[] 0)).heap.size=w2.heap.size+1:=Array.size_push _;have hTB:TB ((w2.alloc (.map #[] 0)).alloc (.cells #[.pointer (some ⟨sg,0,none⟩),.pointer (some ⟨tg,0,none⟩),.map (some w2.heap.size),.int .i64 x,.int .i64 y] 96)) (w2.heap.size+1) sg tg w2.heap.size x y:=Blk.new _ _ _ hsz.symm;have hfin:=Wd (And.intro (hMB.alloc (.cells #[.pointer (some ⟨sg,0,none⟩),.pointer (some ⟨tg,0,none⟩),.map (some w2.heap.size),.int .i64 x,.int .i64 y] 96)) hTB);replace hsz:=Wd hsz;clear b2 cF hC2 B2 hC3 hMB hTB;go_wp2_with fail
 go_ret2
 exact⟨_,_,rfl,B3.out.size,by have:=B3.out.size;omega,by omega,hfin.out.2,hfin.out.1,(B3.out.alloc B3.out.size _).alloc (by have:=B3.out.size;have:=hsz.out;omega) _⟩
theorem New_caps (a1 a2 a3 x y a6 a7:Int)(w:World)(hS:PS base w sg mb M I L B k S)(hT:TM base w tg sg mb A D)(hxy:¬ CR x y) :
 Calls prog 11 #[.pointer (some ⟨sg,0,none⟩),.pointer (some ⟨tg,0,none⟩),cap7 a1 a2 a3 x y a6 a7] w fun e w'=>e=.returned (.tuple #[.pointer none,.int .i64 2])/\Below w.heap.size w w':=by
 have b0:Below w.heap.size w (w.alloc (.cells #[.int .i64 a1,.int .i64 a2,.int .i64 a3,.int .i64 x,.int .i64 y,.int .i64 a6,.int .i64 a7] 25)):=(Below.refl _ w).alloc (Nat.le_refl _) _;have hC:Blk (w.alloc (.cells #[.int .i64 a1,.int .i64 a2,.int .i64 a3,.int .i64 x,.int .i64 y,.int .i64 a6,.int .i64 a7] 25)) w.heap.size 25 [.int .i64 a1,.int .i64 a2,.int .i64 a3,.int .i64 x,.int .i64 y,.int .i64 a6,.int .i64 a7]:=Blk.new _ _ _ rfl;have cS:=IN.Stat_any 0 _ (hS.keep b0) ⟨by decide,by decide⟩;obtain⟨s1,s2,s3,s4,s5,s6,hs⟩:=stV_form S 0;obtain⟨oe,ho⟩:∃ oe,IN.opR S 0=oe:=⟨_,rfl⟩;have hoe:=opR_ne S 0;rw[hs,ho] at cS;rw[ho] at hoe;replace cS:=Wd (show Calls prog 33 #[.pointer (some ⟨sg,0,none⟩),.int .i64 0] _ fun e w'=>e=.returned (.tuple #[.agg #[.int .i64 s1,.int .i64 s2,.int .i64 s3,.int .i64 s4,.int .i64 s5,.int .i64 s6],.int .i64 oe])/\_ from cS);have hT0:=hT.keep b0;have hD:D 1≠none:=hT.root;have hmk:∀ W:World,(Instr.makeMap 94 none).run prog W=.ok (.map (some W.heap.size)) (W.alloc (.map #[] 0)):=fun W=>by kernel_rfl
 obtain⟨t1,g1⟩:∃ t,decide (x<1)=t:=⟨_,rfl⟩;obtain⟨t2,g2⟩:∃ t,decide (x>64)=t:=⟨_,rfl⟩;obtain⟨t3,g3⟩:∃ t,decide (y<1)=t:=⟨_,rfl⟩;obtain⟨t4,g4⟩:∃ t,decide (y>1024)=t:=⟨_,rfl⟩;have ht:(t1 || t2 || t3 || t4)=true:=by
  rw[<-g1,<-g2,<-g3,<-g4];unfold CR at hxy;simp only[Bool.or_eq_true,decide_eq_true_eq]
  omega
 replace hT0:=Wd hT0;replace hC:=Wd hC;replace b0:=Wd b0;unfold cap7;clear hS hT hs ho hxy;go_enter func11,ntmps11
 go_wp2_with fail
 refine cS.out.mono ?_;rintro e w1 ⟨rfl,b1⟩;have hC1:=Wd (hC.out.keep b1);have hT1:=hT0.out.keep b1;have B1:=Wd (b0.out.trans (b1.mono b0.out.size));have hT2:=hT1.alloc (.cells #[.int .i64 s1,.int .i64 s2,.int .i64 s3,.int .i64 s4,.int .i64 s5,.int .i64 s6] 65);have cF:=NT.Find_any ⟨#[47]⟩ (by decide) _ hT2;rw[slash_ok D hD] at cF;simp only[nu,er] at cF;have hC2:=Wd (hC1.out.alloc (.cells #[.int .i64 s1,.int .i64 s2,.int .i64 s3,.int .i64 s4,.int .i64 s5,.int .i64 s6] 65));have B2:=Wd (B1.out.alloc B1.out.size (.cells #[.int .i64 s1,.int .i64 s2,.int .i64 s3,.int .i64 s4,.int .i64 s5,.int .i64 s6] 65));replace cF:=Wd cF;clear b1 hT0 hT1 hT2 hC hC1 B1 b0 cS;go_wp2_with fail
 refine cF.out.mono ?_;rintro e w2 ⟨rfl,b2⟩;have hC3:=hC2.out.keep b2;have c3:=hC3.cell (j:=3) rfl;have c4:=hC3.cell (j:=4) rfl;have B3:=Wd (B2.out.trans (b2.mono B2.out.size));clear b2 cF hC2 B2 hC3
 cases t1 <;> cases t2 <;> cases t3 <;> cases t4 <;> first
  | exact absurd ht (by decide)
  | (clear ht
     go_wp2_with fail
     go_ret2
     exact⟨rfl,B3.out⟩)
end
end DC
namespace DC
def fx (X:List (Option Nat)):Nat:=X.findIdx Option.isNone
theorem fx_le (X:List (Option Nat)):fx X<=X.length:=List.findIdx_le_length
theorem fx_lt {X:List (Option Nat)}{j:Nat}(h:j<fx X)(hj:j<X.length):∃ g,X[j]=some g:=by
 have:=List.not_of_lt_findIdx h
 cases hx:X[j] with
 | none=>rw[hx] at this;simp at this
 | some g=>exact⟨g,rfl⟩
theorem fx_at {X:List (Option Nat)}(h:fx X<X.length):X[fx X]=none:=by
 have h2:(X[fx X]'h).isNone=true:=List.findIdx_getElem (w:=h);exact Option.isNone_iff_eq_none.mp h2
theorem index_any (p N cap:Nat)(X:List (Option Nat))(w:World)(hN:X.length=N)(hc:N<=cap)(hn:N<=64)(h:∀ j (hj:j<X.length),w.cell? ⟨p,j,none⟩=some (pv X[j])) :
 Calls prog 107 #[.slice (some ⟨p,0,none⟩) N cap,.pointer none] w fun e w'=>e=.returned (.int .i64 (if fx X<N then (fx X:Int) else -1))/\w'=w:=by
 have hle:=fx_le X;have hlt:=fun j hj=>@fx_lt X j hj;have hat:=@fx_at X;rw[hN] at hle;have hcell:Hid (∀ j,j<fx X->∃ g,w.cell? ⟨p,j,none⟩=some (.pointer (some ⟨g,0,none⟩))):=Wd fun j hj=>by
  obtain⟨g,hg⟩:=hlt j hj (by omega);have:=h j (by omega);rw[hg] at this;exact⟨g,this⟩
 have hend:Hid (fx X<N->w.cell? ⟨p,fx X,none⟩=some (.pointer none)):=Wd fun hj=>by
  have:=h (fx X) (by omega);rw[hat (by omega)] at this;exact this
 have heq:∀ (g:Nat) (w:World),(binOp .eql 104 (.pointer none) (.pointer (some ⟨g,0,none⟩))).run prog w=.ok (.bool false) w:=fun g w=>by kernel_rfl
 have heq0:∀ (w:World),(binOp .eql 104 (.pointer none) (.pointer none)).run prog w=.ok (.bool true) w:=fun w=>by kernel_rfl
 obtain⟨Z,hZ⟩:∃ Z:Int,(if fx X<N then (fx X:Int) else -1)=Z:=⟨_,rfl⟩;rw[hZ];have z1:fx X<N->(fx X:Int)=Z:=fun h=>by rw[<-hZ,if_pos h]
 have z2:¬ fx X<N->(-1:Int)=Z:=fun h=>by rw[<-hZ,if_neg h]
 clear hlt hat h hN hZ;generalize fx X=K at *;replace z1:=Wd z1;replace z2:=Wd z2;go_enter func107,ntmps107
 go_wp2_with fail
 go_loopw [5,8] (fun _ i wr=>∃ j:Nat,j<=K/\i=.int .i64 (j:Int)/\w=wr) (fun _ i _=>N-(intOf i).toNat)
 case atStart=>exact⟨0,Nat.zero_le _,rfl,rfl⟩
 case round=>
  obtain⟨j,hj,rfl,hwr⟩:=hrel;subst hwr
  by_cases hlt:j<N
  ·by_cases hjK:j<K
   ·obtain⟨g,cg⟩:=hcell.out j hjK;go_wp2_with fail
    go_roundw
    case rel=>exact⟨j+1,by omega,by go_num,by first|trivial|rfl⟩
    case measure=>simp[intOf];omega
   ·obtain rfl:j=K:=by omega
    have cg:=hend.out hlt;have hz:=z1.out hlt;subst hz;go_wp2_with fail
    go_ret
    exact⟨rfl,rfl⟩
  ·obtain rfl:j=K:=by omega
   have hz:=z2.out hlt;subst hz;have hge:(N:Int)<=(j:Int):=by omega
   go_wp2_with fail
   go_ret
   exact⟨rfl,rfl⟩
def lowV (L:List (Option Nat))(f:Nat):Int:=if fx (L.take f)<f then (fx (L.take f):Int) else 0
def lowE (L:List (Option Nat))(f:Nat):Int:=if fx (L.take f)<f then 0 else 22
theorem lowest_any (g sg ng b p f:Nat)(left:Int)(L:List (Option Nat))(w:World)(h:TB w g sg ng b (f:Int) left)(hL:PR w p L)(hf:f<=64) :
 Calls prog 60 #[.pointer (some ⟨g,0,none⟩),.pointer (some ⟨p,0,none⟩)] w fun e w'=>e=.returned (.tuple #[.int .i64 (lowV L f),.int .i64 (lowE L f)])/\Below w.heap.size w w':=by
 have c3:=h.cell (j:=3) rfl;have hlen:(L.take f).length=f:=by rw[List.length_take,hL.1];omega
 have cI:∀ W:World,Below w.heap.size w W->Hid (Calls prog 107 #[.slice (some ⟨p,0,none⟩) f 64,.pointer none] W fun e w'=>e=.returned (.int .i64 (if fx (L.take f)<f then (fx (L.take f):Int) else -1))/\w'=W):=fun W hW=>
  Wd (index_any p f 64 (L.take f) W hlen hf hf fun j hj=>by
   have hLW:PR W p L:=⟨hL.1,hL.2.keep hW⟩;exact hLW.at_ (by rw[List.getElem_take];exact List.getElem?_eq_getElem _))
 have hsl:∀ W:World,(Instr.sliceAt 106 (.pointer (some ⟨p,0,none⟩)) none (some (.int .i64 (f:Int))) none).run prog W=.ok (.slice (some ⟨p,0,none⟩) f 64) W:=fun W=>by
  rw[run_sliceAt_array_h (h0:=by omega) (h2:=by rw[show prog.arrayLen 106=64 by kernel_rfl];omega)]
  all_goals first|rfl|kernel_rfl|skip
 unfold lowV lowE
 by_cases hk:fx (L.take f)<f
 ·simp only[if_pos hk] at cI ⊢;generalize fx (L.take f)=K at *;clear h hL hlen;go_enter func60,ntmps60
  go_wp2_with fail
  go_region_held3 (fun w'=>w'.cell? ⟨g,3,none⟩=some (.int .i64 f)/\Below w.heap.size w w') (first|assumption|exact⟨c3,(Below.refl _ w).drew⟩)
   (first|(go_at_call 107;refine ((cI _ ((Below.refl _ w).drew)).out).mono ?_;rintro e w1 ⟨rfl,rfl⟩))
  all_goals
   go_wp2_with fail
   go_ret2
   exact⟨rfl,(Below.refl _ w).drew⟩
 ·simp only[if_neg hk] at cI ⊢;clear h hL hlen hk;go_enter func60,ntmps60
  go_wp2_with fail
  go_region_held3 (fun w'=>w'.cell? ⟨g,3,none⟩=some (.int .i64 f)/\Below w.heap.size w w') (first|assumption|exact⟨c3,(Below.refl _ w).drew⟩)
   (first|(go_at_call 107;refine ((cI _ ((Below.refl _ w).drew)).out).mono ?_;rintro e w1 ⟨rfl,rfl⟩))
  all_goals
   go_wp2_with fail
   go_ret2
   exact⟨rfl,(Below.refl _ w).drew⟩
end DC
end Go.Proofs.YtfffibepcdlldaaGreat

namespace Go.Proofs.YtfffibepcdlldaaGreat
namespace DC
open IS (I64)
abbrev Ls:=List (Option Nat)
abbrev Ps:=List (Int×Ls)
abbrev Ou:=Nat->Option Of
def lk (P:Ps)(p:Int):Option Ls:=(P.find? fun x=>decide (x.1=p)).map (·.2)
def cntL (k:Nat)(L:Ls):Nat:=L.countP fun x=>decide (x=some k)
def cntP (k:Nat):Ps->Nat
 | []=>0
 | x :: r=>cntL k x.2+cntP k r
def setP (P:Ps)(p:Int)(L:Ls):Ps:=P.map fun x=>if x.1=p then (x.1,L) else x
def delP (P:Ps)(p:Int):Ps:=P.filter fun x=>decide (x.1≠p)
def insP (p:Int)(L:Ls):Ps->Ps
 | []=>[(p,L)]
 | x :: r=>if x.1<p then x :: insP p L r else (p,L) :: x :: r
def updO (O:Ou)(k:Nat)(x:Option Of):Ou:=fun j=>if j=k then x else O j
theorem updO_at (O:Ou)(k:Nat)(x:Option Of):updO O k x k=x:=if_pos rfl
theorem updO_ne {O:Ou}{k j:Nat}{x:Option Of}(h:j≠k):updO O k x j=O j:=if_neg h
def cntO (O:Ou):Nat->Nat
 | 0=>0
 | n+1=>cntO O n+(if O n=none then 0 else 1)
def isOf (n:Int):Option Of->Nat
 | none=>0
 | some o=>if o.ino=n then 1 else 0
def opn (O:Ou)(n:Int):Nat->Nat
 | 0=>0
 | k+1=>opn O n k+isOf n (O k)
def Asc (P:Ps):Prop:=P.Pairwise fun a b=>a.1<b.1
theorem lk_cons (x:Int×Ls)(P:Ps)(p:Int):lk (x :: P) p=if x.1=p then some x.2 else lk P p:=by
 unfold lk
 by_cases h:x.1=p <;> simp[List.find?_cons,h]
theorem lk_nil (p:Int):lk [] p=none:=rfl
theorem lk_mem {P:Ps}{p:Int}{L:Ls}(h:lk P p=some L):(p,L)∈P:=by
 induction P with
 | nil=>cases h
 | cons x P ih=>
   rw[lk_cons] at h
   split at h
   ·rename_i e
    cases h
    subst e;exact List.mem_cons_self
   ·exact List.mem_cons_of_mem _ (ih h)
theorem lk_none {P:Ps}{p:Int}:lk P p=none↔∀ x∈P,x.1≠p:=by
 induction P with
 | nil=>simp[lk_nil]
 | cons x P ih=>
   rw[lk_cons]
   by_cases e:x.1=p
   ·simp[e]
   ·simp[e,ih]
theorem asc_cons {x:Int×Ls}{P:Ps}(h:Asc (x :: P)):Asc P/\lk P x.1=none:=by
 have:=List.pairwise_cons.1 h;exact⟨this.2,lk_none.2 fun y hy e=>by have:=this.1 y hy;omega⟩
theorem lk_of {P:Ps}(h:Asc P){x:Int×Ls}(hx:x∈P):lk P x.1=some x.2:=by
 induction P with
 | nil=>cases hx
 | cons y P ih=>
   rw[lk_cons];rcases List.mem_cons.1 hx with rfl|hx
   ·rw[if_pos rfl]
   ·have:=(List.pairwise_cons.1 h).1 x hx;rw[if_neg (by omega),ih (asc_cons h).1 hx]
theorem lk_set {P:Ps}{p q:Int}{L:Ls}:lk (setP P p L) q=if q=p/\lk P p≠none then some L else lk P q:=by
 induction P with
 | nil=>simp[setP,lk_nil]
 | cons x P ih=>
   have hs:setP (x :: P) p L=(if x.1=p then (x.1,L) else x) :: setP P p L:=rfl;rw[hs,lk_cons,lk_cons,lk_cons,ih]
   by_cases h1:x.1=p
   ·by_cases h2:q=p
    ·subst h2;simp[h1]
    ·have:¬ p=q:=fun e=>h2 e.symm;simp[h1,h2,this]
   ·by_cases h2:q=p
    ·subst h2;simp[h1]
    ·simp[h1,h2]
theorem lk_del {P:Ps}{p q:Int}:lk (delP P p) q=if q=p then none else lk P q:=by
 induction P with
 | nil=>simp[delP,lk_nil]
 | cons x P ih=>
   by_cases h1:x.1=p
   ·have hs:delP (x :: P) p=delP P p:=by simp[delP,h1]
    rw[hs,ih,lk_cons]
    by_cases h2:q=p
    ·simp[h2]
    ·have:¬ x.1=q:=fun e=>h2 (by omega);simp[h2,this]
   ·have hs:delP (x :: P) p=x :: delP P p:=by simp[delP,h1]
    rw[hs,lk_cons,lk_cons,ih]
    by_cases h2:q=p
    ·subst h2;simp[h1]
    ·simp[h2]
theorem lk_ins {P:Ps}{p q:Int}{L:Ls}(hp:lk P p=none):lk (insP p L P) q=if q=p then some L else lk P q:=by
 induction P with
 | nil=>
   simp only[insP,lk_cons,lk_nil]
   by_cases h:q=p
   ·subst h;simp
   ·have:¬ p=q:=fun e=>h e.symm;simp[h,this]
 | cons x P ih=>
   rw[lk_cons] at hp
   split at hp
   ·cases hp
   ·rename_i hne
    unfold insP
    split
    ·rw[lk_cons,lk_cons,ih hp]
     by_cases h:q=p
     ·subst h;simp[hne]
     ·simp[h]
    ·rw[lk_cons,lk_cons]
     by_cases h:q=p
     ·subst h;simp
     ·have:¬ p=q:=fun e=>h e.symm;simp[h,this]
theorem asc_set {P:Ps}{p:Int}{L:Ls}(h:Asc P):Asc (setP P p L):=by
 unfold Asc setP;rw[List.pairwise_map];refine h.imp fun {a b} hab=>?_
 split <;> split <;> simpa using hab
theorem asc_del {P:Ps}{p:Int}(h:Asc P):Asc (delP P p):=List.Pairwise.filter _ h
theorem ins_mem {P:Ps}{p:Int}{L:Ls}{y:Int×Ls}(h:y∈insP p L P):y=(p,L)∨y∈P:=by
 induction P with
 | nil=>simpa[insP] using h
 | cons x P ih=>
   unfold insP at h
   split at h
   ·rcases List.mem_cons.1 h with rfl|h
    ·exact .inr List.mem_cons_self
    ·rcases ih h with e|e
     ·exact .inl e
     ·exact .inr (List.mem_cons_of_mem _ e)
   ·rcases List.mem_cons.1 h with rfl|h
    ·exact .inl rfl
    ·exact .inr h
theorem asc_ins {P:Ps}{p:Int}{L:Ls}(h:Asc P)(hp:lk P p=none):Asc (insP p L P):=by
 induction P with
 | nil=>simp[insP,Asc]
 | cons x P ih=>
   have h1:=asc_cons h;have hx:=List.pairwise_cons.1 h;rw[lk_cons] at hp
   split at hp
   ·cases hp
   ·rename_i hne
    unfold insP
    split
    ·rename_i hlt
     refine List.pairwise_cons.2 ⟨fun y hy=>?_,ih h1.1 hp⟩;rcases ins_mem hy with rfl|hy
     ·exact hlt
     ·exact hx.1 y hy
    ·rename_i hge
     refine List.pairwise_cons.2 ⟨fun y hy=>?_,h⟩;rcases List.mem_cons.1 hy with rfl|hy
     ·show p<y.1
      omega
     ·have:=hx.1 y hy
      show p<y.1
      omega
theorem set_mem {P:Ps}{p:Int}{L:Ls}{y:Int×Ls}(h:y∈setP P p L):y=(p,L)∨y∈P:=by
 unfold setP at h;obtain⟨x,hx,rfl⟩:=List.mem_map.1 h
 split
 ·rename_i e;subst e;exact .inl rfl
 ·exact .inr hx
theorem del_mem {P:Ps}{p:Int}{y:Int×Ls}(h:y∈delP P p):y∈P:=(List.mem_filter.1 h).1
theorem set_len (P:Ps)(p:Int)(L:Ls):(setP P p L).length=P.length:=by simp[setP]
theorem del_len (P:Ps)(p:Int):(delP P p).length<=P.length:=List.length_filter_le _ _
theorem ins_len (P:Ps)(p:Int)(L:Ls):(insP p L P).length=P.length+1:=by
 induction P with
 | nil=>rfl
 | cons x P ih=>
   unfold insP
   split
   ·simp[ih]
   ·simp
theorem cntP_set {P:Ps}{p:Int}{L L':Ls}(ha:Asc P)(h:lk P p=some L)(k:Nat):cntP k (setP P p L')+cntL k L=cntP k P+cntL k L':=by
 induction P with
 | nil=>cases h
 | cons x P ih=>
   have hs:setP (x :: P) p L'=(if x.1=p then (x.1,L') else x) :: setP P p L':=rfl;rw[hs];rw[lk_cons] at h
   by_cases e:x.1=p
   ·rw[if_pos e] at h ⊢
    cases h
    have hn:setP P p L'=P:=by
     unfold setP
     conv=>rhs;rw[<-List.map_id P]
     refine List.map_congr_left fun y hy=>?_;rw[if_neg (lk_none.1 (asc_cons ha).2 y hy ∘ fun e'=>e'.trans e.symm)];rfl
    rw[hn];simp only[cntP]
    omega
   ·rw[if_neg e] at h ⊢;have:=ih (asc_cons ha).1 h;simp only[cntP]
    omega
theorem cntP_del {P:Ps}{p:Int}{L:Ls}(ha:Asc P)(h:lk P p=some L)(k:Nat):cntP k (delP P p)+cntL k L=cntP k P:=by
 induction P with
 | nil=>cases h
 | cons x P ih=>
   rw[lk_cons] at h
   by_cases e:x.1=p
   ·rw[if_pos e] at h
    cases h
    have hn:delP (x :: P) p=P:=by
     unfold delP;rw[List.filter_cons,if_neg (by simp[e]),List.filter_eq_self.2 fun y hy=>?_];simpa using (lk_none.1 (asc_cons ha).2 y hy ∘ fun e'=>e'.trans e.symm)
    rw[hn];simp only[cntP]
    omega
   ·rw[if_neg e] at h;have hs:delP (x :: P) p=x :: delP P p:=by simp[delP,e]
    have:=ih (asc_cons ha).1 h;rw[hs];simp only[cntP]
    omega
theorem cntP_ins (P:Ps)(p:Int)(L:Ls)(k:Nat):cntP k (insP p L P)=cntP k P+cntL k L:=by
 induction P with
 | nil=>simp[insP,cntP]
 | cons x P ih=>
   unfold insP
   split
   ·simp only[cntP];omega
   ·simp only[cntP];omega
theorem cntL_cons (k:Nat)(x:Option Nat)(L:Ls):cntL k (x :: L)=cntL k L+(if x=some k then 1 else 0):=by
 unfold cntL;rw[List.countP_cons];simp
theorem cntL_app (k:Nat)(L L':Ls):cntL k (L ++ L')=cntL k L+cntL k L':=List.countP_append
theorem cntL_set {L:Ls}{j:Nat}{x:Option Nat}(h:L[j]? = some x)(y:Option Nat)(k:Nat):cntL k (L.set j y)+(if x=some k then 1 else 0)=cntL k L+(if y=some k then 1 else 0):=by
 induction L generalizing j with
 | nil=>cases h
 | cons z L ih=>
   cases j with
   | zero=>
     simp only[List.getElem?_cons_zero,Option.some.injEq] at h;subst h;simp only[List.set_cons_zero,cntL_cons]
     omega
   | succ j=>
     have:=ih (j:=j) (by simpa using h);simp only[List.set_cons_succ,cntL_cons]
     omega
theorem cntL_rep (k n:Nat):cntL k (List.replicate n none)=0:=by
 unfold cntL;rw[List.countP_eq_zero];intro x hx;have:=List.eq_of_mem_replicate hx;subst this;simp
theorem cntL_pos {k:Nat}{L:Ls}{j:Nat}(h:L[j]? = some (some k)):1<=cntL k L:=List.countP_pos_iff.2 ⟨_,List.mem_of_getElem? h,by simp⟩
theorem cntP_pos {k:Nat}{P:Ps}{p:Int}{L:Ls}(h:lk P p=some L)(hk:1<=cntL k L):1<=cntP k P:=by
 induction P with
 | nil=>cases h
 | cons x P ih=>
   rw[lk_cons] at h;simp only[cntP]
   split at h
   ·cases h;omega
   ·have:=ih h;omega
theorem cntL_le (k:Nat)(L:Ls):cntL k L<=L.length:=List.countP_le_length
theorem cntP_le {f:Nat}(k:Nat):∀ {P:Ps},(∀ x∈P,x.2.length=f)->cntP k P<=P.length*f
 | [],_=>by simp[cntP]
 | x :: P,h=>by
   have h1:=cntP_le (f:=f) k (P:=P) fun y hy=>h y (List.mem_cons_of_mem _ hy);have h2:=cntL_le k x.2;rw[h x List.mem_cons_self] at h2;simp only[cntP,List.length_cons];rw[Nat.add_mul]
   omega
theorem cntO_le (O:Ou):∀ n,cntO O n<=n
 | 0=>Nat.le_refl _
 | n+1=>by have:=cntO_le O n;unfold cntO;split <;> omega
theorem cntO_same {O O':Ou}:∀ {n:Nat},(∀ k,k<n->(O' k=none↔O k=none))->cntO O' n=cntO O n
 | 0,_=>rfl
 | n+1,h=>by
   have h1:=cntO_same (n:=n) fun k hk=>h k (by omega);have h2:=h n (by omega);unfold cntO;rw[h1]
   by_cases e:O n=none
   ·rw[if_pos e,if_pos (h2.2 e)]
   ·rw[if_neg e,if_neg fun e'=>e (h2.1 e')]
theorem cntO_upd (O:Ou)(k:Nat)(x:Option Of):∀ n,k<n->cntO (updO O k x) n+(if O k=none then 0 else 1)=cntO O n+(if x=none then 0 else 1)
 | 0,h=>absurd h (Nat.not_lt_zero _)
 | n+1,h=>by
   unfold cntO
   by_cases e:k=n
   ·subst e;rw[updO_at,cntO_same (O:=O) (O':=updO O k x) fun j hj=>by rw[updO_ne (by omega)]]
    omega
   ·have:=cntO_upd O k x n (by omega);rw[updO_ne (fun e'=>e e'.symm)]
    omega
theorem cntO_full {O:Ou}:∀ {n:Nat},cntO O n=n↔∀ k,k<n->O k≠none
 | 0=>by simp[cntO]
 | n+1=>by
   have ih:=cntO_full (O:=O) (n:=n);have hle:=cntO_le O n;unfold cntO
   constructor
   ·intro h k hk
    split at h
    ·omega
    ·rename_i hne
     rcases Nat.lt_or_ge k n with h1|h1
     ·exact ih.1 (by omega) k h1
     ·have:k=n:=by omega
      subst this;exact hne
   ·intro h;rw[if_neg (h n (by omega)),ih.2 fun k hk=>h k (by omega)]
theorem opn_same {O O':Ou}{n:Int}:∀ {m:Nat},(∀ k,k<m->isOf n (O' k)=isOf n (O k))->opn O' n m=opn O n m
 | 0,_=>rfl
 | m+1,h=>by unfold opn;rw[opn_same (m:=m) fun k hk=>h k (by omega),h m (by omega)]
theorem opn_upd (O:Ou)(k:Nat)(x:Option Of)(n:Int):∀ m,k<m->opn (updO O k x) n m+isOf n (O k)=opn O n m+isOf n x
 | 0,h=>absurd h (Nat.not_lt_zero _)
 | m+1,h=>by
   unfold opn
   by_cases e:k=m
   ·subst e;rw[updO_at,opn_same (O:=O) (O':=updO O k x) fun j hj=>by rw[updO_ne (by omega)]]
    omega
   ·have:=opn_upd O k x n m (by omega);rw[updO_ne (fun e'=>e e'.symm)]
    omega
theorem opn_pos {O:Ou}{n:Int}{k:Nat}{o:Of}(h:O k=some o)(hn:o.ino=n):∀ {m:Nat},k<m->1<=opn O n m
 | 0,hk=>absurd hk (Nat.not_lt_zero _)
 | m+1,hk=>by
   unfold opn
   by_cases e:k=m
   ·subst e;rw[h];simp[isOf,hn]
   ·have:=opn_pos h hn (m:=m) (by omega)
    omega
theorem opn_zero {O:Ou}{n:Int}:∀ {m:Nat},(∀ k o,O k=some o->o.ino≠n)->opn O n m=0
 | 0,_=>rfl
 | m+1,h=>by
   unfold opn;rw[opn_zero (m:=m) h]
   cases e:O m with
   | none=>rfl
   | some o=>simp[isOf,h m o e]
theorem opn_le (O:Ou)(n:Int):∀ m,opn O n m<=m
 | 0=>Nat.le_refl _
 | m+1=>by
   have:=opn_le O n m;unfold opn
   cases O m with
   | none=>simp[isOf];omega
   | some o=>simp only[isOf];split <;> omega
def lowO (O:Ou):Nat->Nat
 | 0=>0
 | n+1=>if lowO O n<n then lowO O n else if O n=none then n else n+1
theorem lowO_spec (O:Ou):∀ n,lowO O n<=n/\(∀ j,j<lowO O n->O j≠none)/\(lowO O n<n->O (lowO O n)=none)
 | 0=>⟨Nat.le_refl _,fun j h=>absurd h (Nat.not_lt_zero _),fun h=>absurd h (Nat.not_lt_zero _)⟩
 | n+1=>by
   obtain⟨h1,h2,h3⟩:=lowO_spec O n;unfold lowO
   split
   ·rename_i h
    exact⟨by omega,h2,fun _=>h3 h⟩
   ·rename_i h
    have e:lowO O n=n:=by omega
    rw[e] at h2
    split
    ·rename_i h4
     exact⟨by omega,h2,fun _=>h4⟩
    ·rename_i h4
     refine⟨Nat.le_refl _,fun j hj=>?_,fun h=>absurd h (Nat.lt_irrefl _)⟩;rcases Nat.lt_or_ge j n with h5|h5
     ·exact h2 j h5
     ·have:j=n:=by omega
      subst this;exact h4
theorem lowO_full (O:Ou)(n:Nat):lowO O n<n↔cntO O n<n:=by
 obtain⟨h1,h2,h3⟩:=lowO_spec O n;have hle:=cntO_le O n
 constructor
 ·intro h;rcases Nat.lt_or_ge (cntO O n) n with h4|h4
  ·exact h4
  ·exact absurd (h3 h) (cntO_full.1 (by omega) _ h)
 ·intro h;rcases Nat.lt_or_ge (lowO O n) n with h4|h4
  ·exact h4
  ·have:=(cntO_full (O:=O) (n:=n)).2 fun k hk=>h2 k (by omega)
   omega
end DC
namespace DC
open IS (I64)
structure DI (files opens:Nat)(S:Int->Option IN.Nd)(P:Ps)(O:Ou)(R:Ls):Prop where
 asc:Asc P
 len:∀ x∈P,x.2.length=files
 pid:∀ x∈P,1<=x.1/\I64 x.1
 refs:∀ k o,O k=some o->1<=o.refs/\o.refs=(cntP k P+cntL k R:Nat)
 free:∀ k,O k=none->cntP k P=0/\cntL k R=0
 bound:∀ k,O k≠none->k<opens
 ino:∀ k o,O k=some o->∃ x,S o.ino=some x/\x.kind=1
 ops:∀ n x,S n=some x->x.opens=(opn O n opens:Nat)
 off:∀ k o,O k=some o->0<=o.off/\o.off<=1048576/\flg o.flags=true
section
variable {files opens:Nat}{S S':Int->Option IN.Nd}{P:Ps}{O:Ou}{R:Ls}
theorem DI.lks (h:DI files opens S P O R){p:Int}{L:Ls}(hl:lk P p=some L):L.length=files/\1<=p/\I64 p:=
 ⟨h.len _ (lk_mem hl),h.pid _ (lk_mem hl)⟩
theorem DI.has (h:DI files opens S P O R){p:Int}{L:Ls}(hl:lk P p=some L){j k:Nat}(hj:L[j]? = some (some k)):∃ o,O k=some o:=by
 cases e:O k with
 | none=>have:=(h.free k e).1;have:=cntP_pos hl (cntL_pos hj);omega
 | some o=>exact⟨o,rfl⟩
theorem DI.hasR (h:DI files opens S P O R){k:Nat}(hk:1<=cntL k R):∃ o,O k=some o:=by
 cases e:O k with
 | none=>have:=(h.free k e).2;omega
 | some o=>exact⟨o,rfl⟩
theorem DI.skip (h:DI files opens S P O (none :: R)):DI files opens S P O R:=by
 have e:∀ k,cntL k (none :: R)=cntL k R:=fun k=>by rw[cntL_cons];simp
 exact⟨h.asc,h.len,h.pid,fun k o ho=>by have:=h.refs k o ho;rw[e] at this;exact this,fun k hk=>by have:=h.free k hk;rw[e] at this;exact this,h.bound,h.ino,h.ops,h.off⟩
theorem DI.congrR (h:DI files opens S P O R){R':Ls}(e:∀ k,cntL k R'=cntL k R):DI files opens S P O R':=
 ⟨h.asc,h.len,h.pid,fun k o ho=>by have:=h.refs k o ho;rw[e];exact this,fun k hk=>by have:=h.free k hk;rw[e];exact this,h.bound,h.ino,h.ops,h.off⟩
theorem DI.take (h:DI files opens S P O R){p:Int}{L:Ls}(hl:lk P p=some L){j k:Nat}(hj:L[j]? = some (some k)):DI files opens S (setP P p (L.set j none)) O (some k :: R):=by
 have e:∀ i,cntP i (setP P p (L.set j none))+cntL i (some k :: R)=cntP i P+cntL i R:=fun i=>by
  have h1:=cntP_set (L':=L.set j none) h.asc hl i;have h2:=cntL_set hj none i;rw[cntL_cons];simp only[reduceCtorEq,if_false] at h2
  omega
 refine⟨asc_set h.asc,fun x hx=>?_,fun x hx=>?_,fun i o ho=>?_,fun i hi=>?_,h.bound,h.ino,h.ops,h.off⟩
 ·rcases set_mem hx with rfl|hx
  ·simpa using (h.lks hl).1
  ·exact h.len x hx
 ·rcases set_mem hx with rfl|hx
  ·exact (h.lks hl).2
  ·exact h.pid x hx
 ·have:=h.refs i o ho;have:=e i
  omega
 ·have:=h.free i hi;have:=e i
  omega
theorem DI.lay {k:Nat}(h:DI files opens S P O (some k :: R)){p:Int}{L:Ls}(hl:lk P p=some L){j:Nat}(hj:L[j]? = some none):DI files opens S (setP P p (L.set j (some k))) O R:=by
 have e:∀ i,cntP i (setP P p (L.set j (some k)))+cntL i R=cntP i P+cntL i (some k :: R):=fun i=>by
  have h1:=cntP_set (L':=L.set j (some k)) h.asc hl i;have h2:=cntL_set hj (some k) i;rw[cntL_cons];simp only[reduceCtorEq,if_false] at h2
  omega
 refine⟨asc_set h.asc,fun x hx=>?_,fun x hx=>?_,fun i o ho=>?_,fun i hi=>?_,h.bound,h.ino,h.ops,h.off⟩
 ·rcases set_mem hx with rfl|hx
  ·simpa using (h.lks hl).1
  ·exact h.len x hx
 ·rcases set_mem hx with rfl|hx
  ·exact (h.lks hl).2
  ·exact h.pid x hx
 ·have:=h.refs i o ho;have:=e i
  omega
 ·have:=h.free i hi;have:=e i
  omega
theorem DI.del (h:DI files opens S P O R){p:Int}{L:Ls}(hl:lk P p=some L):DI files opens S (delP P p) O (L ++ R):=by
 have e:∀ i,cntP i (delP P p)+cntL i (L ++ R)=cntP i P+cntL i R:=fun i=>by
  have h1:=cntP_del h.asc hl i;rw[cntL_app]
  omega
 refine⟨asc_del h.asc,fun x hx=>h.len x (del_mem hx),fun x hx=>h.pid x (del_mem hx),fun i o ho=>?_,fun i hi=>?_,h.bound,h.ino,h.ops,h.off⟩
 ·have:=h.refs i o ho;have:=e i
  omega
 ·have:=h.free i hi;have:=e i
  omega
theorem DI.ins {L:Ls}(h:DI files opens S P O (L ++ R)){p:Int}(hp:lk P p=none)(h1:1<=p/\I64 p)(hlen:L.length=files):DI files opens S (insP p L P) O R:=by
 have e:∀ i,cntP i (insP p L P)+cntL i R=cntP i P+cntL i (L ++ R):=fun i=>by
  have h1:=cntP_ins P p L i;rw[cntL_app]
  omega
 refine⟨asc_ins h.asc hp,fun x hx=>?_,fun x hx=>?_,fun i o ho=>?_,fun i hi=>?_,h.bound,h.ino,h.ops,h.off⟩
 ·rcases ins_mem hx with rfl|hx
  ·exact hlen
  ·exact h.len x hx
 ·rcases ins_mem hx with rfl|hx
  ·exact h1
  ·exact h.pid x hx
 ·have:=h.refs i o ho;have:=e i
  omega
 ·have:=h.free i hi;have:=e i
  omega
theorem isOf_same {o o':Of}(h:o'.ino=o.ino)(n:Int):isOf n (some o')=isOf n (some o):=by simp only[isOf,h]
theorem DI.file (h:DI files opens S P O R){k:Nat}{o o':Of}(ho:O k=some o)(hi:o'.ino=o.ino){R':Ls}(hr:∀ i,i≠k->cntL i R'=cntL i R)(hk:1<=o'.refs/\o'.refs=(cntP k P+cntL k R':Nat))(hf:0<=o'.off/\o'.off<=1048576/\flg o'.flags=true) :
 DI files opens S P (updO O k (some o')) R':=by
 refine⟨h.asc,h.len,h.pid,fun i x hx=>?_,fun i hx=>?_,fun i hx=>?_,fun i x hx=>?_,fun n x hx=>?_,fun i x hx=>?_⟩
 ·by_cases e:i=k
  ·subst e;rw[updO_at] at hx;cases hx;exact hk
  ·rw[updO_ne e] at hx;rw[hr i e];exact h.refs i x hx
 ·by_cases e:i=k
  ·subst e;rw[updO_at] at hx;cases hx
  ·rw[updO_ne e] at hx;rw[hr i e];exact h.free i hx
 ·by_cases e:i=k
  ·subst e;exact h.bound i (by rw[ho];simp)
  ·rw[updO_ne e] at hx;exact h.bound i hx
 ·by_cases e:i=k
  ·subst e;rw[updO_at] at hx;cases hx;rw[hi];exact h.ino i o ho
  ·rw[updO_ne e] at hx;exact h.ino i x hx
 ·have h1:=h.ops n x hx;have h2:=opn_upd O k (some o') n opens (h.bound k (by rw[ho];simp));rw[ho,isOf_same hi] at h2
  omega
 ·by_cases e:i=k
  ·subst e;rw[updO_at] at hx;cases hx;exact hf
  ·rw[updO_ne e] at hx;exact h.off i x hx
theorem DI.seek (h:DI files opens S P O R){k:Nat}{o:Of}(ho:O k=some o){v:Int}(hv:0<=v/\v<=1048576):DI files opens S P (updO O k (some { o with off:=v })) R:=
 h.file (o':={ o with off:=v }) ho rfl (fun _ _=>rfl) (h.refs k o ho) ⟨hv.1,hv.2,(h.off k o ho).2.2⟩
theorem DI.more (h:DI files opens S P O R){k:Nat}{o:Of}(ho:O k=some o):DI files opens S P (updO O k (some { o with refs:=o.refs+1 })) (some k :: R):=by
 refine h.file (o':={ o with refs:=o.refs+1 }) ho rfl (fun i hi=>?_) ?_ (h.off k o ho)
 ·rw[cntL_cons,if_neg (by simpa using fun e=>hi e.symm)];rfl
 ·have:=h.refs k o ho;rw[cntL_cons,if_pos rfl]
  show 1<=o.refs+1/\o.refs+1=_
  omega
theorem DI.less {k:Nat}(h:DI files opens S P O (some k :: R)){o:Of}(ho:O k=some o)(h1:1<o.refs):DI files opens S P (updO O k (some { o with refs:=o.refs-1 })) R:=by
 refine h.file (o':={ o with refs:=o.refs-1 }) ho rfl (fun i hi=>?_) ?_ (h.off k o ho)
 ·rw[cntL_cons,if_neg (by simpa using fun e=>hi e.symm)];rfl
 ·have:=h.refs k o ho;rw[cntL_cons,if_pos rfl] at this
  show 1<=o.refs-1/\o.refs-1=_
  omega
theorem DI.store (h:DI files opens S P O R)(h1:∀ n x,S n=some x->0<x.opens->∃ x',S' n=some x'/\x'.kind=x.kind)(h2:∀ n x',S' n=some x'->(∃ x,S n=some x/\x'.opens=x.opens)∨(x'.opens=0/\S n=none)):DI files opens S' P O R:=by
 refine⟨h.asc,h.len,h.pid,h.refs,h.free,h.bound,fun k o ho=>?_,fun n x hx=>?_,h.off⟩
 ·obtain⟨x,hx,hk⟩:=h.ino k o ho;have h3:=h.ops o.ino x hx;have h4:=opn_pos ho rfl (h.bound k (by rw[ho];simp));obtain⟨x',h5,h6⟩:=h1 o.ino x hx (by omega);exact⟨x',h5,by omega⟩
 ·rcases h2 n x hx with ⟨y,hy,e⟩|⟨e,hy⟩
  ·rw[e];exact h.ops n y hy
  ·rw[e,opn_zero fun k o ho e2=>?_];rfl;obtain⟨x,hx,-⟩:=h.ino k o ho;rw[e2,hy] at hx;cases hx
theorem DI.opened (h:DI files opens S P O R){k:Nat}(hk:O k=none)(hb:k<opens){n fl:Int}{x:IN.Nd}(hx:S n=some x)(hf:x.kind=1)(hfl:flg fl=true) :
 DI files opens (IN.opS S n) P (updO O k (some ⟨n,0,fl,1⟩)) (some k :: R):=by
 have hS:IN.opS S n=IN.upd S n (some { x with opens:=x.opens+1 }):=by unfold IN.opS;rw[hx]
 rw[hS];refine⟨h.asc,h.len,h.pid,fun i o ho=>?_,fun i hi=>?_,fun i hi=>?_,fun i o ho=>?_,fun m y hy=>?_,fun i o ho=>?_⟩
 ·by_cases e:i=k
  ·subst e;rw[updO_at] at ho
   cases ho
   have:=h.free i hk;rw[cntL_cons,if_pos rfl]
   show (1:Int)<=1/\(1:Int)=_
   omega
  ·rw[updO_ne e] at ho;rw[cntL_cons,if_neg (by simpa using fun e'=>e e'.symm)];exact h.refs i o ho
 ·by_cases e:i=k
  ·subst e;rw[updO_at] at hi;cases hi
  ·rw[updO_ne e] at hi;rw[cntL_cons,if_neg (by simpa using fun e'=>e e'.symm)];exact h.free i hi
 ·by_cases e:i=k
  ·subst e;exact hb
  ·rw[updO_ne e] at hi;exact h.bound i hi
 ·have h1:∀ m,(∃ y,S m=some y/\y.kind=1)->∃ y,IN.upd S n (some { x with opens:=x.opens+1 }) m=some y/\y.kind=1:=fun m ⟨y,h1,h2⟩=>by
   by_cases e:m=n
   ·subst e;exact⟨_,IN.upd_at _ _ _,hf⟩
   ·exact⟨y,by rw[IN.upd_ne e];exact h1,h2⟩
  by_cases e:i=k
  ·subst e;rw[updO_at] at ho
   cases ho
   exact h1 n ⟨x,hx,hf⟩
  ·rw[updO_ne e] at ho;exact h1 _ (h.ino i o ho)
 ·have h2:=opn_upd O k (some ⟨n,0,fl,1⟩) m opens hb;rw[hk] at h2
  by_cases e:m=n
  ·subst e;rw[IN.upd_at] at hy
   cases hy
   have h3:=h.ops m x hx;have h4:isOf m (some (⟨m,0,fl,1⟩:Of))=1:=if_pos rfl;rw[h4] at h2;have h5:isOf m none=0:=rfl
   show x.opens+1=_
   omega
  ·rw[IN.upd_ne e] at hy;have h3:=h.ops m y hy;have h4:isOf m (some (⟨n,0,fl,1⟩:Of))=0:=if_neg fun e'=>e (Eq.symm e');have h5:isOf m none=0:=rfl
   omega
 ·by_cases e:i=k
  ·subst e;rw[updO_at] at ho
   cases ho
   exact⟨Int.le_refl _,(show (0:Int)<=1048576 by decide),hfl⟩
  ·rw[updO_ne e] at ho;exact h.off i o ho
theorem DI.closed {k:Nat}(h:DI files opens S P O (some k :: R)){o:Of}(ho:O k=some o)(h1:o.refs=1):DI files opens (IN.clS S o.ino) P (updO O k none) R:=by
 have hb:=h.bound k (by rw[ho];simp);obtain⟨x,hx,hkd⟩:=h.ino k o ho;have hxo:=h.ops o.ino x hx;have hpos:=opn_pos ho rfl hb;have h2:=fun m=>opn_upd O k none m opens hb;have hn:isOf o.ino (some o)=1:=if_pos rfl;have hz:∀ m,isOf m none=0:=fun _=>rfl;have hr:=h.refs k o ho;rw[cntL_cons,if_pos rfl] at hr;have hS:IN.clS S o.ino=IN.upd S o.ino (if x.links=0/\x.opens-1=0 then none else some { x with opens:=x.opens-1 }):=by
  unfold IN.clS;rw[hx];simp only;rw[if_pos (by omega)];unfold IN.gone;rw[IN.upd_at];simp only
  split
  ·rw[IN.upd_upd]
  ·rfl
 rw[hS];refine⟨h.asc,h.len,h.pid,fun i y hy=>?_,fun i hi=>?_,fun i hi=>?_,fun i y hy=>?_,fun m y hy=>?_,fun i y hy=>?_⟩
 ·by_cases e:i=k
  ·subst e;rw[updO_at] at hy;cases hy
  ·rw[updO_ne e] at hy;have:=h.refs i y hy;rw[cntL_cons,if_neg (by simpa using fun e'=>e e'.symm)] at this;exact this
 ·by_cases e:i=k
  ·subst e;omega
  ·rw[updO_ne e] at hi;have:=h.free i hi;rw[cntL_cons,if_neg (by simpa using fun e'=>e e'.symm)] at this;exact this
 ·by_cases e:i=k
  ·subst e;rw[updO_at] at hi;exact absurd rfl hi
  ·rw[updO_ne e] at hi;exact h.bound i hi
 ·by_cases e:i=k
  ·subst e;rw[updO_at] at hy;cases hy
  ·rw[updO_ne e] at hy
   by_cases e2:y.ino=o.ino
   ·have h3:=h2 o.ino;have h4:=opn_pos (O:=updO O k none) (n:=o.ino) (by rw[updO_ne e];exact hy) e2 (h.bound i (by rw[hy];simp));rw[ho,hn,hz] at h3;rw[e2,IN.upd_at,if_neg (by omega)];exact⟨_,rfl,hkd⟩
   ·rw[IN.upd_ne e2];exact h.ino i y hy
 ·have h3:=h2 m;rw[ho,hz] at h3
  by_cases e:m=o.ino
  ·subst e;rw[IN.upd_at] at hy
   split at hy
   ·cases hy
   ·cases hy
    show x.opens-1=_
    omega
  ·rw[IN.upd_ne e] at hy;have h4:=h.ops m y hy;have h5:isOf m (some o)=0:=if_neg fun e'=>e e'.symm
   omega
 ·by_cases e:i=k
  ·subst e;rw[updO_at] at hy;cases hy
  ·rw[updO_ne e] at hy;exact h.off i y hy
end
end DC
namespace NT
def Alike (S S':Int->Option IN.Nd):Prop:=∀ n,S' n=S n∨∃ x x',S n=some x/\S' n=some x'/\x'.kind=x.kind/\x'.links=x.links/\x'.opens=x.opens
theorem Alike.refl (S:Int->Option IN.Nd):Alike S S:=fun _=>.inl rfl
theorem alike_wr (I B:Nat)(S:Int->Option IN.Nd)(n f:Int)(s:ByteArray):Alike S (IN.wrS I B S n f s):=fun m=>by
 unfold IN.wrS
 cases e:S n with
 | none=>exact .inl rfl
 | some d=>
   simp only
   split
   ·by_cases h:m=n
    ·subst h;rw[IN.upd_at];exact .inr ⟨d,_,e,rfl,rfl,rfl,rfl⟩
    ·rw[IN.upd_ne h];exact .inl rfl
   ·exact .inl rfl
theorem alike_t (S:Int->Option IN.Nd)(n s:Int):Alike S (IN.tS S n s):=fun m=>by
 unfold IN.tS
 cases e:S n with
 | none=>exact .inl rfl
 | some d=>
   simp only
   split
   ·by_cases h:m=n
    ·subst h;rw[IN.upd_at];exact .inr ⟨d,_,e,rfl,rfl,rfl,rfl⟩
    ·rw[IN.upd_ne h];exact .inl rfl
   ·exact .inl rfl
section
variable {I c:Nat}{e:Int->Int}{S S':Int->Option IN.Nd}{D:Ds}
theorem Alike.back (h:Alike S S'){n:Int}{x':IN.Nd}(hx:S' n=some x'):∃ x,S n=some x/\x'.kind=x.kind/\x'.links=x.links/\x'.opens=x.opens:=by
 rcases h n with e|⟨x,y,h1,h2,h3⟩
 ·exact⟨x',e▸hx,rfl,rfl,rfl⟩
 ·rw[h2] at hx;cases hx;exact⟨x,h1,h3⟩
theorem Alike.fore (h:Alike S S'){n:Int}{x:IN.Nd}(hx:S n=some x):∃ x',S' n=some x'/\x'.kind=x.kind/\x'.links=x.links/\x'.opens=x.opens:=by
 rcases h n with e|⟨y,x',h1,h2,h3⟩
 ·exact⟨x,by rw[e];exact hx,rfl,rfl,rfl⟩
 ·rw[h1] at hx;cases hx;exact⟨x',h2,h3⟩
theorem Alike.gone (h:Alike S S'){n:Int}:S' n=none↔S n=none:=by
 constructor
 ·intro h1
  cases h2:S n with
  | none=>rfl
  | some x=>obtain⟨x',h3,-⟩:=h.fore h2;rw[h1] at h3;cases h3
 ·intro h1
  cases h2:S' n with
  | none=>rfl
  | some x=>obtain⟨x',h3,-⟩:=h.back h2;rw[h1] at h3;cases h3
theorem TI.alike (h:TI I c e S D)(ha:Alike S S'):TI I c e S' D:=
 ⟨h.root,fun n hn=>h.num n fun e=>hn (ha.gone.2 e),fun n=>by
  rw[h.kind n]
  constructor
  ·rintro ⟨x,h1,h2⟩;obtain⟨x',h3,h4,-⟩:=ha.fore h1;exact⟨x',h3,by omega⟩
  ·rintro ⟨x,h1,h2⟩;obtain⟨x',h3,h4,-⟩:=ha.back h1;exact⟨x',h3,by omega⟩,fun n x hx hk=>by
  obtain⟨y,h1,h2,h3,-⟩:=ha.back hx;have:=h.one n y h1 (by omega)
  omega,fun j x hx=>by
  obtain⟨y,h1,h2,h3,h4⟩:=ha.back hx;have:=h.links j y h1;exact⟨⟨by omega,fun e=>by have:=this.1.2 (by omega);omega⟩,by omega⟩,fun j hj=>h.gone j (ha.gone.1 hj),h.ent,h.up,h.asc,h.reach⟩
theorem TI.open_ (h:TI I c e S D){n:Int}{x:IN.Nd}(hx:S n=some x)(hk:x.kind=1){v:Int}(hv:0<=v):TI I c e (IN.upd S n (some { x with opens:=v })) D:=by
 have hb:∀ m y,IN.upd S n (some { x with opens:=v }) m=some y->∃ z,S m=some z/\y.kind=z.kind/\y.links=z.links/\(y.opens=z.opens∨(m=n/\y.opens=v)):=fun m y hy=>by
  by_cases e:m=n
  ·subst e;rw[IN.upd_at] at hy;cases hy;exact⟨x,hx,rfl,rfl,.inr ⟨rfl,rfl⟩⟩
  ·rw[IN.upd_ne e] at hy;exact⟨y,hy,rfl,rfl,.inl rfl⟩
 have hn:∀ m,IN.upd S n (some { x with opens:=v }) m=none↔S m=none:=fun m=>by
  by_cases e:m=n
  ·subst e;rw[IN.upd_at,hx];simp
  ·rw[IN.upd_ne e]
 refine⟨h.root,fun m hm=>h.num m fun e=>hm ((hn m).2 e),fun m=>?_,fun m y hy hk2=>?_,fun j y hy=>?_,fun j hj=>h.gone j ((hn j).1 hj),h.ent,h.up,h.asc,h.reach⟩
 ·rw[h.kind m]
  constructor
  ·rintro ⟨y,h1,h2⟩
   by_cases e:m=n
   ·subst e;rw[hx] at h1;cases h1;omega
   ·exact⟨y,by rw[IN.upd_ne e];exact h1,h2⟩
  ·rintro ⟨y,h1,h2⟩;obtain⟨z,h3,h4,-⟩:=hb m y h1;exact⟨z,h3,by omega⟩
 ·obtain⟨z,h3,h4,h5,-⟩:=hb m y hy;have:=h.one m z h3 (by omega)
  omega
 ·obtain⟨z,h3,h4,h5,h6⟩:=hb j y hy;have:=h.links j z h3;refine⟨⟨?_,fun e2=>?_⟩,by omega⟩
  ·rcases h6 with h6|⟨-,h6⟩ <;> omega
  ·rcases h6 with h6|⟨h7,h6⟩
   ·have:=this.1.2 (by omega);omega
   ·subst h7;rw[hx] at h3;cases h3;omega
theorem TI.lose (h:TI I c e0 S D){n:Int}{x:IN.Nd}(hx:S n=some x)(hk:x.kind=1)(hl:x.links=0):TI I c e0 (IN.upd S n none) D:=by
 have hb:∀ m y,IN.upd S n none m=some y->m≠n/\S m=some y:=fun m y hy=>by
  by_cases e:m=n
  ·subst e;rw[IN.upd_at] at hy;cases hy
  ·rw[IN.upd_ne e] at hy;exact⟨e,hy⟩
 refine⟨h.root,fun m hm=>?_,fun m=>?_,fun m y hy hk2=>h.one m y (hb m y hy).2 hk2,fun j y hy=>h.links j y (hb j y hy).2,fun j hj=>?_,h.ent,h.up,h.asc,h.reach⟩
 ·obtain⟨y,hy⟩:=Option.ne_none_iff_exists'.1 hm;exact h.num m (by rw[(hb m y hy).2];simp)
 ·rw[h.kind m]
  constructor
  ·rintro ⟨y,h1,h2⟩
   by_cases e:m=n
   ·subst e;rw[hx] at h1;cases h1;omega
   ·exact⟨y,by rw[IN.upd_ne e];exact h1,h2⟩
  ·rintro ⟨y,h1,h2⟩;exact⟨y,(hb m y h1).2,h2⟩
 ·by_cases e:j=n
  ·subst e;have h1:=(h.links j x hx).2;have h2:e0 j=0:=rfl;refine⟨?_,rfl⟩
   split at h1 <;> omega
  ·rw[IN.upd_ne e] at hj;exact h.gone j hj
theorem TI.opS (h:TI I c e0 S D){n:Int}{x:IN.Nd}(hx:S n=some x)(hk:x.kind=1):TI I c e0 (IN.opS S n) D:=by
 unfold IN.opS;rw[hx];have:=(h.links n x hx).1.1;exact h.open_ hx hk (by omega)
theorem TI.clS (h:TI I c e0 S D){n:Int}{x:IN.Nd}(hx:S n=some x)(hk:x.kind=1):TI I c e0 (IN.clS S n) D:=by
 unfold IN.clS;rw[hx];simp only
 split
 ·rename_i hp
  unfold IN.gone;rw[IN.upd_at];simp only
  split
  ·rename_i hg
   exact (h.open_ hx hk (v:=x.opens-1) (by omega)).lose (IN.upd_at _ _ _) hk hg.1
  ·exact h.open_ hx hk (by omega)
 ·exact h
end
end NT
namespace DC
section
variable {files opens:Nat}{S S':Int->Option IN.Nd}{P:Ps}{O:Ou}{R:Ls}
theorem DI.alike (h:DI files opens S P O R)(ha:NT.Alike S S'):DI files opens S' P O R:=
 h.store (fun n x hx _=>by obtain⟨x',h1,h2,-⟩:=ha.fore hx;exact⟨x',h1,h2⟩) (fun n x' hx=>by obtain⟨x,h1,-,-,h2⟩:=ha.back hx;exact .inl ⟨x,h1,h2⟩)
theorem DI.make (h:DI files opens S P O R){n kd:Int}(hn:S n=none):DI files opens (IN.upd S n (some (IN.newNd kd))) P O R:=
 h.store (fun m x hx _=>by
  have e:m≠n:=fun e=>by rw[e,hn] at hx;cases hx
  exact⟨x,by rw[IN.upd_ne e];exact hx,rfl⟩) (fun m x' hx=>by
  by_cases e:m=n
  ·subst e;rw[IN.upd_at] at hx;cases hx;exact .inr ⟨rfl,hn⟩
  ·rw[IN.upd_ne e] at hx;exact .inl ⟨x',hx,rfl⟩)
theorem DI.link (h:DI files opens S P O R)(L:Nat)(n:Int):DI files opens (IN.lkS L S n) P O R:=by
 unfold IN.lkS
 cases e:S n with
 | none=>exact h
 | some d=>
   simp only
   split
   ·refine h.store (fun m x hx _=>?_) (fun m x' hx=>?_)
    ·by_cases e2:m=n
     ·subst e2;rw[e] at hx;cases hx;exact⟨_,IN.upd_at _ _ _,rfl⟩
     ·exact⟨x,by rw[IN.upd_ne e2];exact hx,rfl⟩
    ·by_cases e2:m=n
     ·subst e2;rw[IN.upd_at] at hx;cases hx;exact .inl ⟨d,e,rfl⟩
     ·rw[IN.upd_ne e2] at hx;exact .inl ⟨x',hx,rfl⟩
   ·exact h
theorem DI.unlink (h:DI files opens S P O R)(n:Int):DI files opens (IN.ulS S n) P O R:=by
 unfold IN.ulS
 cases e:S n with
 | none=>exact h
 | some d=>
   simp only
   split
   ·unfold IN.gone;rw[IN.upd_at];simp only
    split
    ·rename_i hg
     refine h.store (fun m x hx ho=>?_) (fun m x' hx=>?_)
     ·by_cases e2:m=n
      ·subst e2;rw[e] at hx;cases hx;omega
      ·exact⟨x,by rw[IN.upd_ne e2,IN.upd_ne e2];exact hx,rfl⟩
     ·by_cases e2:m=n
      ·subst e2;rw[IN.upd_at] at hx;cases hx
      ·rw[IN.upd_ne e2,IN.upd_ne e2] at hx;exact .inl ⟨x',hx,rfl⟩
    ·refine h.store (fun m x hx ho=>?_) (fun m x' hx=>?_)
     ·by_cases e2:m=n
      ·subst e2;rw[e] at hx;cases hx;exact⟨_,IN.upd_at _ _ _,rfl⟩
      ·exact⟨x,by rw[IN.upd_ne e2];exact hx,rfl⟩
     ·by_cases e2:m=n
      ·subst e2;rw[IN.upd_at] at hx;cases hx;exact .inl ⟨d,e,rfl⟩
      ·rw[IN.upd_ne e2] at hx;exact .inl ⟨x',hx,rfl⟩
   ·exact h
end
end DC
end Go.Proofs.YtfffibepcdlldaaGreat

namespace Go.Proofs.YtfffibepcdlldaaGreat
open Go.ChangeShapes Go.WideShapes Go.ChangeAt Go.RowKit Go.Maps
namespace DC
open IS (I64 upd)
open IN (Keeps lt_of_some)
def pad (f:Nat)(β:Nat->Nat)(L:Ls):Ls:=L.map (Option.map β) ++ List.replicate (64-f) none
theorem pad_len {f:Nat}{β:Nat->Nat}{L:Ls}(h:L.length=f)(hf:f<=64):(pad f β L).length=64:=by simp[pad,h];omega
theorem pad_at {f:Nat}{β:Nat->Nat}{L:Ls}(h:L.length=f)(j:Nat)(hj:j<f):(pad f β L)[j]? = (L[j]?).map (Option.map β):=by
 unfold pad;rw[List.getElem?_append_left (by simp[h];exact hj),List.getElem?_map]
theorem pad_hi {f:Nat}{β:Nat->Nat}{L:Ls}(h:L.length=f)(j:Nat)(hj:f<=j)(h64:j<64):(pad f β L)[j]? = some none:=by
 unfold pad;rw[List.getElem?_append_right (by simp[h];exact hj),List.length_map,h,List.getElem?_replicate,if_pos (by omega)]
theorem pad_set {f:Nat}{β:Nat->Nat}{L:Ls}(h:L.length=f)(j:Nat)(hj:j<f)(x:Option Nat):pad f β (L.set j x)=(pad f β L).set j (x.map β):=by
 unfold pad;rw[List.map_set,List.set_append_left _ _ (by simp[h];exact hj)]
theorem pad_rep (f:Nat)(β:Nat->Nat)(hf:f<=64):pad f β (List.replicate f none)=L0:=by
 unfold pad L0;rw[List.map_replicate,Option.map_none,List.replicate_append_replicate]
 congr 1
 omega
theorem pad_same {f:Nat}{β β':Nat->Nat}{L:Ls}(h:∀ k,some k∈L->β' k=β k):pad f β' L=pad f β L:=by
 unfold pad
 congr 1
 refine List.map_congr_left fun x hx=>?_
 cases x with
 | none=>rfl
 | some k=>simp[h k hx]
theorem getL_pad {f:Nat}{β:Nat->Nat}{L:Ls}(h:L.length=f)(hf:f<=64)(fd:Int):getL (pad f β L) fd=(getL L fd).map β:=by
 unfold getL
 by_cases h0:0<=fd
 ·rw[if_pos h0,if_pos h0]
  by_cases h1:fd.toNat<f
  ·rw[pad_at h _ h1,List.getElem?_eq_getElem (by omega)]
   rfl
  ·rw[List.getElem?_eq_none (by omega:L.length<=fd.toNat)]
   by_cases h2:fd.toNat<64
   ·rw[pad_hi h _ (by omega) h2];rfl
   ·rw[List.getElem?_eq_none (by rw[pad_len h hf];omega)];rfl
 ·rw[if_neg h0,if_neg h0];rfl
theorem fx_pad {f:Nat}{β:Nat->Nat}{L:Ls}(h:L.length=f):fx ((pad f β L).take f)=fx L:=by
 unfold pad fx;rw[List.take_append_of_le_length (by simp[h]),List.take_of_length_le (by simp[h]),List.findIdx_map]
 congr 1
 funext x
 cases x <;> rfl
theorem fx_none {L:Ls}(h:fx L<L.length):L[fx L]? = some none:=by
 rw[List.getElem?_eq_getElem h,fx_at h]
theorem FB.blk {w:World}{g:Nat}{o:Of}(h:FB w g o):Blk w g 130 [.int .i64 o.ino,.int .i64 o.off,.int .i64 o.flags,.int .i64 o.refs]:=h
theorem TB.blk {w:World}{g sg ng b:Nat}{f l:Int}(h:TB w g sg ng b f l):Blk w g 96 [.pointer (some ⟨sg,0,none⟩),.pointer (some ⟨ng,0,none⟩),.map (some b),.int .i64 f,.int .i64 l]:=h
structure FP (base:Nat)(w:World)(f:Nat)(β:Nat->Nat)(M:Int->Option Nat)(P:Ps)(O:Ou):Prop where
 dom:∀ p,M p=none↔lk P p=none
 inj:∀ p q g,M p=some g->M q=some g->p=q
 pr:∀ p g L,M p=some g->lk P p=some L->PR w g (pad f β L)
 fb:∀ k o,O k=some o->FB w (β k) o
 binj:∀ j k,O j≠none->O k≠none->β j=β k->j=k
 ge:(∀ p g,M p=some g->base<=g)/\∀ k,O k≠none->base<=β k
section
variable {base:Nat}{w w':World}{f:Nat}{β:Nat->Nat}{M:Int->Option Nat}{P:Ps}{O:Ou}
theorem FP.hasP (h:FP base w f β M P O){p:Int}{L:Ls}(hl:lk P p=some L):∃ g,M p=some g/\PR w g (pad f β L)/\base<=g:=by
 cases e:M p with
 | none=>rw[(h.dom p).1 e] at hl;cases hl
 | some g=>exact⟨g,rfl,h.pr p g L e hl,h.ge.1 p g e⟩
theorem FP.plt (h:FP base w f β M P O){p:Int}{g:Nat}(hM:M p=some g):∃ L,lk P p=some L/\PR w g (pad f β L)/\g<w.heap.size:=by
 cases e:lk P p with
 | none=>rw[(h.dom p).2 e] at hM;cases hM
 | some L=>exact⟨L,rfl,h.pr p g L hM e,(h.pr p g L hM e).2.lt⟩
theorem FP.moved (h:FP base w f β M P O)(h1:∀ p g,M p=some g->w'.heap[g]? = w.heap[g]?)(h2:∀ k,O k≠none->w'.heap[β k]? = w.heap[β k]?):FP base w' f β M P O:=
 ⟨h.dom,h.inj,fun p g L hM hl=>⟨(h.pr p g L hM hl).1,(h1 p g hM).trans (h.pr p g L hM hl).2⟩,fun k o ho=>(h2 k (by rw[ho];simp)).trans (h.fb k o ho),h.binj,h.ge⟩
theorem FP.keep (h:FP base w f β M P O)(hb:Below w.heap.size w w'):FP base w' f β M P O:=
 h.moved (fun p g hM=>by obtain⟨L,_,_,hlt⟩:=h.plt hM;exact hb.block _ hlt) fun k hk=>by
  obtain⟨o,ho⟩:=Option.ne_none_iff_exists'.1 hk;exact hb.block _ (h.fb k o ho).lt
theorem FP.drew1 (h:FP base w f β M P O):FP base w.drew f β M P O:=h.moved (fun _ _ _=>rfl) fun _ _=>rfl
theorem FP.keeps (h:FP base w f β M P O){B:Nat}{T:Nat->Obj->Prop}(hK:Keeps B T w w')(h1:∀ p g L,M p=some g->PR w g L->¬ T g (.cells (L.map pv).toArray 106 (0,0)))(h2:∀ k o,FB w k o->¬ T k (.cells [.int .i64 o.ino,.int .i64 o.off,.int .i64 o.flags,.int .i64 o.refs].toArray 130 (0,0))):FP base w' f β M P O:=
 h.moved (fun p g hM=>by
  obtain⟨L,_,hp,_⟩:=h.plt hM;exact (hK.block _ _ hp.2 (h1 p g _ hM hp)).trans (Eq.symm hp.2)) fun k hk=>by
  obtain⟨o,ho⟩:=Option.ne_none_iff_exists'.1 hk;have:=h.fb k o ho;exact (hK.block _ _ this (h2 _ _ this)).trans (Eq.symm this)
theorem FP.setFile (h:FP base w f β M P O){k:Nat}{o o':Of}(ho:O k=some o)(j:Nat)(u:Value)(he:([.int .i64 o.ino,.int .i64 o.off,.int .i64 o.flags,.int .i64 o.refs]:List Value).set j u=[.int .i64 o'.ino,.int .i64 o'.off,.int .i64 o'.flags,.int .i64 o'.refs]):FP base (w.setCell ⟨β k,j,none⟩ u) f β M P (updO O k (some o')):=by
 have hb:=h.fb k o ho;have hnone:∀ i,updO O k (some o') i≠none->O i≠none:=fun i hi=>by
  by_cases e:i=k
  ·subst e;rw[ho];simp
  ·rw[updO_ne e] at hi;exact hi
 refine⟨h.dom,h.inj,fun p g L hM hl=>?_,fun i x hx=>?_,fun i j' hi hj e=>h.binj i j' (hnone i hi) (hnone j' hj) e,h.ge.1,fun i hi=>h.ge.2 i (hnone i hi)⟩
 ·have hp:=h.pr p g L hM hl;exact⟨hp.1,hp.2.far (p:=⟨β k,j,none⟩) (IN.blk_ne hp.2 hb.blk (by decide)) _⟩
 ·by_cases e:i=k
  ·subst e;rw[updO_at] at hx
   cases hx
   have:=Blk.set hb j u;rw[he] at this;exact this
  ·rw[updO_ne e] at hx;exact Blk.far (h.fb i x hx) (p:=⟨β k,j,none⟩) (fun e2=>e (h.binj i k (by rw[hx];simp) (by rw[ho];simp) e2)) u
theorem FP.setSlot (h:FP base w f β M P O){p:Int}{g:Nat}{L:Ls}(hM:M p=some g)(hl:lk P p=some L)(hf:L.length=f){j:Nat}(hj:j<f)(x:Option Nat)(u:Value)(hu:u=pv (x.map β)):FP base (w.setCell ⟨g,j,none⟩ u) f β M (setP P p (L.set j x)) O:=by
 subst hu;have hg:=h.pr p g L hM hl;refine⟨fun q=>?_,h.inj,fun q g' L' hq hl'=>?_,fun i o ho=>?_,h.binj,h.ge⟩
 ·rw[h.dom q,lk_set]
  split
  ·rename_i e;rw[e.1,hl];simp
  ·rfl
 ·rw[lk_set] at hl'
  by_cases e:q=p
  ·subst e;rw[if_pos ⟨rfl,by rw[hl];simp⟩] at hl'
   cases hl'
   rw[hM] at hq
   cases hq
   refine⟨?_,?_⟩
   ·rw[pad_set hf j hj,List.length_set];exact hg.1
   ·rw[pad_set hf j hj,List.map_set];exact hg.2.set j _
  ·rw[if_neg fun e'=>e e'.1] at hl';have:=h.pr q g' L' hq hl';exact⟨this.1,this.2.far (p:=⟨g,j,none⟩) (fun e2=>e (h.inj q p g (by have e3:g'=g:=e2;rw[<-e3];exact hq) hM)) _⟩
 ·have:=h.fb i o ho;exact Blk.far this (p:=⟨g,j,none⟩) (IN.blk_ne this.blk hg.2 (by decide)) _
theorem FP.drop (h:FP base w f β M P O)(k:Nat):FP base w f β M P (updO O k none):=by
 have hnone:∀ i,updO O k none i≠none->O i≠none:=fun i hi=>by
  by_cases e:i=k
  ·subst e;rw[updO_at] at hi;exact absurd rfl hi
  ·rw[updO_ne e] at hi;exact hi
 refine⟨h.dom,h.inj,h.pr,fun i o ho=>?_,fun i j hi hj e=>h.binj i j (hnone i hi) (hnone j hj) e,h.ge.1,fun i hi=>h.ge.2 i (hnone i hi)⟩
 by_cases e:i=k
 ·subst e;rw[updO_at] at ho;cases ho
 ·rw[updO_ne e] at ho;exact h.fb i o ho
def updB (β:Nat->Nat)(k x:Nat):Nat->Nat:=fun j=>if j=k then x else β j
theorem updB_at (k x:Nat):updB β k x k=x:=if_pos rfl
theorem updB_ne {j k x:Nat}(h:j≠k):updB β k x j=β j:=if_neg h
theorem FP.newFile (h:FP base w f β M P O){k x:Nat}{o:Of}(hk:O k=none)(hnew:FB w x o)(hx:base<=x)(hfr:∀ i,O i≠none->β i≠x)(hno:∀ p L,lk P p=some L->some k∉L):FP base w f (updB β k x) M P (updO O k (some o)):=by
 refine⟨h.dom,h.inj,fun p g L hM hl=>?_,fun i y hy=>?_,fun i j hi hj e=>?_,h.ge.1,fun i hi=>?_⟩
 ·have:=h.pr p g L hM hl;rw[pad_same (β:=β) fun i hi=>updB_ne fun e=>hno p L hl (by rw[<-e];exact hi)];exact this
 ·by_cases e:i=k
  ·subst e;rw[updO_at] at hy;cases hy;rw[updB_at];exact hnew
  ·rw[updO_ne e] at hy;rw[updB_ne e];exact h.fb i y hy
 ·by_cases e1:i=k
  ·by_cases e2:j=k
   ·rw[e1,e2]
   ·subst e1;rw[updB_at,updB_ne e2] at e;rw[updO_ne e2] at hj;exact absurd e.symm (hfr j hj)
  ·by_cases e2:j=k
   ·subst e2;rw[updB_at,updB_ne e1] at e;rw[updO_ne e1] at hi;exact absurd e (hfr i hi)
   ·rw[updB_ne e1,updB_ne e2] at e;rw[updO_ne e1] at hi;rw[updO_ne e2] at hj;exact h.binj i j hi hj e
 ·by_cases e:i=k
  ·subst e;rw[updB_at];exact hx
  ·rw[updO_ne e] at hi;rw[updB_ne e];exact h.ge.2 i hi
theorem FP.newProc (h:FP base w f β M P O){p:Int}{g:Nat}{L:Ls}(hl:lk P p=none)(hnew:PR w g (pad f β L))(hg:base<=g)(hfr:∀ q g',M q=some g'->g'≠g):FP base w f β (upd M p (some g)) (insP p L P) O:=by
 refine⟨fun q=>?_,fun q r g' hq hr=>?_,fun q g' L' hq hl'=>?_,h.fb,h.binj,fun q g' hq=>?_,h.ge.2⟩
 ·rw[lk_ins hl];unfold upd
  by_cases e:q=p
  ·simp[e]
  ·simp[e,h.dom q]
 ·unfold upd at hq hr
  by_cases e1:q=p
  ·by_cases e2:r=p
   ·rw[e1,e2]
   ·rw[if_pos e1] at hq;rw[if_neg e2] at hr
    cases hq
    exact absurd rfl (hfr r g hr)
  ·by_cases e2:r=p
   ·rw[if_pos e2] at hr;rw[if_neg e1] at hq
    cases hr
    exact absurd rfl (hfr q g hq)
   ·rw[if_neg e1] at hq;rw[if_neg e2] at hr;exact h.inj q r g' hq hr
 ·rw[lk_ins hl] at hl';unfold upd at hq
  by_cases e:q=p
  ·rw[if_pos e] at hq hl'
   cases hq
   cases hl'
   exact hnew
  ·rw[if_neg e] at hq hl';exact h.pr q g' L' hq hl'
 ·unfold upd at hq
  by_cases e:q=p
  ·rw[if_pos e] at hq;cases hq;exact hg
  ·rw[if_neg e] at hq;exact h.ge.1 q g' hq
theorem FP.delProc (h:FP base w f β M P O)(p:Int):FP base w f β (upd M p none) (delP P p) O:=by
 refine⟨fun q=>?_,fun q r g' hq hr=>?_,fun q g' L' hq hl'=>?_,h.fb,h.binj,fun q g' hq=>?_,h.ge.2⟩
 ·rw[lk_del];unfold upd
  by_cases e:q=p
  ·simp[e]
  ·simp[e,h.dom q]
 ·unfold upd at hq hr
  by_cases e1:q=p
  ·rw[if_pos e1] at hq;cases hq
  ·by_cases e2:r=p
   ·rw[if_pos e2] at hr;cases hr
   ·rw[if_neg e1] at hq;rw[if_neg e2] at hr;exact h.inj q r g' hq hr
 ·rw[lk_del] at hl';unfold upd at hq
  by_cases e:q=p
  ·rw[if_pos e] at hq;cases hq
  ·rw[if_neg e] at hq hl';exact h.pr q g' L' hq hl'
 ·unfold upd at hq
  by_cases e:q=p
  ·rw[if_pos e] at hq;cases hq
  ·rw[if_neg e] at hq;exact h.ge.1 q g' hq
end
end DC
namespace DC
open IS (I64 upd)
open IN (Keeps lt_of_some)
structure Cn where
 base:Nat
 g:Nat
 tg:Nat
 sg:Nat
 mb:Nat
 b:Nat
 I:Nat
 L:Nat
 B:Nat
 files:Nat
 opens:Nat
abbrev Am:=Int->Option (Nat×Nat)
abbrev Sm:=Int->Option IN.Nd
structure DP (K:Cn)(q:Nat)(A:Am)(S:Sm)(D:NT.Ds)(M:Int->Option Nat)(β:Nat->Nat)(P:Ps)(O:Ou)(w:World):Prop where
 tw:NT.TW K.base K.tg K.sg K.mb K.I K.L K.B q q A S D w
 far:K.b≠K.mb/\∀ n x m,A n=some (x,m)->m≠K.b
 tb:TB w K.g K.sg K.tg K.b (K.files:Int) ((K.opens:Int)-(cntO O K.opens:Int))
 fp:FP K.base w K.files β M P O
 ge:K.base<=K.g/\K.base<=K.b
structure DM (K:Cn)(q:Nat)(A:Am)(S:Sm)(D:NT.Ds)(M:Int->Option Nat)(β:Nat->Nat)(P:Ps)(O:Ou)(R:Ls)(w:World):Prop where
 dp:DP K q A S D M β P O w
 di:DI K.files K.opens S P O R
 cap:1<=K.files/\K.files<=64/\1<=K.opens/\K.opens<=1024/\1<=K.L/\P.length<=q/\q<60000/\R.length<=64
def DW (K:Cn)(q:Nat)(A:Am)(S:Sm)(D:NT.Ds)(P:Ps)(O:Ou)(w:World):Prop:=∃ M β,MB w K.b q M/\DM K q A S D M β P O [] w
def UT (K:Cn)(A:Am)(k:Nat)(o:Obj):Prop:=NT.FT A K.mb k o∨(∃ c s,o=.cells c 130 s)∨(∃ c s,o=.cells c 106 s)∨(∃ c s,o=.cells c 96 s)∨(k=K.b/\∃ es c,o=.map es c)
def WT (K:Cn)(k:Nat)(o:Obj):Prop:=IN.PT K.mb k o∨(∃ c s,o=.cells c 130 s)∨(∃ c s,o=.cells c 96 s)
section
variable {K:Cn}{q:Nat}{A:Am}{S:Sm}{D:NT.Ds}{M:Int->Option Nat}{β:Nat->Nat}{P:Ps}{O:Ou}{R:Ls}{w w':World}{n:Nat}
theorem MB.obj (h:MB w n q M):∃ es c,w.heap[n]? = some (.map es c):=by
 obtain⟨D,⟨es,clock,hb,_⟩,_⟩:=h.ex;exact⟨es,clock,hb⟩
theorem TW_q {base tg sg mb I L B q c q':Nat}(h:NT.TW base tg sg mb I L B q c A S D w)(hq:q<=q'):NT.TW base tg sg mb I L B q' c A S D w:=⟨h.tm,by obtain⟨M,hM⟩:=h.ps;exact⟨M,hM.more hq⟩,h.ti⟩
theorem DP.low (h:DP K q A S D M β P O w):K.base<=w.heap.size:=h.tw.tm.low
theorem DP.keep (h:DP K q A S D M β P O w)(hb:Below w.heap.size w w'):DP K q A S D M β P O w':=⟨h.tw.keep hb,h.far,h.tb.keep hb,h.fp.keep hb,h.ge⟩
theorem TW_drew1 {base tg sg mb I L B q c:Nat}(h:NT.TW base tg sg mb I L B q c A S D w):NT.TW base tg sg mb I L B q c A S D w.drew:=⟨h.tm.moved rfl fun _ _ _ _=>⟨rfl,rfl⟩,by obtain⟨M,hM⟩:=h.ps;exact⟨M,hM.pm.drew1,hM.fn,hM.lim⟩,h.ti⟩
theorem DP.drew1 (h:DP K q A S D M β P O w):DP K q A S D M β P O w.drew:=⟨TW_drew1 h.tw,h.far,h.tb,h.fp.drew1,h.ge⟩
theorem DP.more (h:DP K q A S D M β P O w){q':Nat}(hq:q<=q'):DP K q' A S D M β P O w:=⟨TW_q (h.tw.more hq) hq,h.far,h.tb,h.fp,h.ge⟩
theorem DM.low (h:DM K q A S D M β P O R w):K.base<=w.heap.size:=h.dp.low
theorem DM.keep (h:DM K q A S D M β P O R w)(hb:Below w.heap.size w w'):DM K q A S D M β P O R w':=⟨h.dp.keep hb,h.di,h.cap⟩
theorem DM.drew1 (h:DM K q A S D M β P O R w):DM K q A S D M β P O R w.drew:=⟨h.dp.drew1,h.di,h.cap⟩
theorem DM.more (h:DM K q A S D M β P O R w){q':Nat}(hq:q<=q')(hq':q'<60000):DM K q' A S D M β P O R w:=⟨h.dp.more hq,h.di,by have:=h.cap;omega⟩
theorem DW.keep (h:DW K q A S D P O w)(hb:Below w.heap.size w w'):DW K q A S D P O w':=by
 obtain⟨M,β,h1,h2⟩:=h;exact⟨M,β,h1.keep hb,h2.keep hb⟩
theorem DW.more (h:DW K q A S D P O w){q':Nat}(hq:q<=q')(hq':q'<60000):DW K q' A S D P O w:=by
 obtain⟨M,β,h1,h2⟩:=h;exact⟨M,β,h1.le hq,h2.more hq hq'⟩
theorem TB_keeps {sg ng b:Nat}{f l:Int}{g:Nat}(h:TB w g sg ng b f l){B:Nat}{T:Nat->Obj->Prop}(hK:Keeps B T w w')(h1:∀ k c s,¬ T k (.cells c 96 s)):TB w' g sg ng b f l:=hK.block _ _ h (h1 _ _ _)
theorem MB_keeps {b:Nat}(h:MB w b n M){B:Nat}{T:Nat->Obj->Prop}(hK:Keeps B T w w')(h1:∀ es c,¬ T b (.map es c)):MB w' b n M:=by
 obtain⟨es,c,ho⟩:=h.obj;exact h.heap ((hK.block _ _ ho (h1 _ _)).trans ho.symm)
theorem DP.store (h:DP K q A S D M β P O w)(hK:Keeps K.base (IN.PT K.mb) w w'){S':Sm}{q':Nat}(hq:q<=q')(hp:∃ M',IN.PS K.base w' K.sg K.mb M' K.I K.L K.B q' S')(ht:NT.TI K.I q NT.e0 S' D):DP K q' A S' D M β P O w':=
 ⟨⟨h.tw.tm.store hK,hp,ht.more hq⟩,h.far,TB_keeps h.tb hK (by simp[IN.PT]),h.fp.keeps hK (by simp[IN.PT]) (by simp[IN.PT]),h.ge⟩
theorem DP.mbStore (h:DP K q A S D M β P O w){M':Int->Option Nat}(hm:MB w K.b n M')(hK:Keeps K.base (WT K) w w'):MB w' K.b n M':=
 MB_keeps hm hK fun es c=>by simp[WT,IN.PT,h.far.1]
theorem DP.tree (h:DP K q A S D M β P O w)(hK:Keeps K.base (NT.FT A K.mb) w w'){A':Am}{S':Sm}{D':NT.Ds}{q':Nat}(hs:NT.Sub A A' w)(ht:NT.TW K.base K.tg K.sg K.mb K.I K.L K.B q' q' A' S' D' w')(hb:K.b<w.heap.size):DP K q' A' S' D' M β P O w':=by
 refine⟨ht,⟨h.far.1,fun n x m hA=>?_⟩,TB_keeps h.tb hK (by simp[NT.FT,IN.PT,NT.OneD,NT.One]),h.fp.keeps hK (by simp[NT.FT,IN.PT,NT.OneD,NT.One]) (by simp[NT.FT,IN.PT,NT.OneD,NT.One]),h.ge⟩;rcases hs n x m hA with e|e
 ·exact h.far.2 n x m e
 ·omega
theorem DP.mbTree (h:DP K q A S D M β P O w){M':Int->Option Nat}(hm:MB w K.b n M')(hK:Keeps K.base (NT.FT A K.mb) w w'):MB w' K.b n M':=
 MB_keeps hm hK fun es c=>by
  rintro (h1|⟨m,x,y,h1,h2|h2⟩)
  ·simp[IN.PT,h.far.1] at h1
  ·simp[NT.OneD] at h2
  ·exact h.far.2 m x y h1 h2.1.symm
theorem WT_store (h:Keeps K.base (IN.PT K.mb) w w'):Keeps K.base (WT K) w w':=NT.keeps_wide h fun k o _ hT=>.inl hT
theorem UT_w (A:Am)(h:Keeps K.base (WT K) w w'):Keeps K.base (UT K A) w w':=NT.keeps_wide h fun k o _ hT=>by
 rcases hT with h1|h1|h1
 ·exact .inl (.inl h1)
 ·exact .inr (.inl h1)
 ·exact .inr (.inr (.inr (.inl h1)))
theorem UT_tree (h:Keeps K.base (NT.FT A K.mb) w w'):Keeps K.base (UT K A) w w':=NT.keeps_wide h fun k o _ hT=>.inl hT
theorem UT_map (h:w.grownBy w' (some K.b))(hm:MB w K.b n M)(hb:K.base<=K.b):Keeps K.base (UT K A) w w':=by
 obtain⟨es,c,ho⟩:=hm.obj;exact (Keeps.refl _ _ _).grown ho (.inr (.inr (.inr (.inr ⟨rfl,_,_,rfl⟩)))) hb h
theorem UT_file {k j:Nat}{u:Value}{o:Of}(h:FB w k o)(hb:K.base<=k):Keeps K.base (UT K A) w (w.setCell ⟨k,j,none⟩ u):=(Keeps.refl _ _ _).setCell (p:=⟨k,j,none⟩) h (.inr (.inl ⟨_,_,rfl⟩)) hb u
theorem WT_file {k j:Nat}{u:Value}{o:Of}(h:FB w k o)(hb:K.base<=k):Keeps K.base (WT K) w (w.setCell ⟨k,j,none⟩ u):=(Keeps.refl _ _ _).setCell (p:=⟨k,j,none⟩) h (.inr (.inl ⟨_,_,rfl⟩)) hb u
theorem UT_slot {k j:Nat}{u:Value}{L:Ls}(h:PR w k L)(hb:K.base<=k):Keeps K.base (UT K A) w (w.setCell ⟨k,j,none⟩ u):=(Keeps.refl _ _ _).setCell (p:=⟨k,j,none⟩) h.2 (.inr (.inr (.inl ⟨_,_,rfl⟩))) hb u
theorem WT_table {k j sg ng b:Nat}{f l:Int}{u:Value}(h:TB w k sg ng b f l)(hb:K.base<=k):Keeps K.base (WT K) w (w.setCell ⟨k,j,none⟩ u):=(Keeps.refl _ _ _).setCell (p:=⟨k,j,none⟩) h (.inr (.inr ⟨_,_,rfl⟩)) hb u
theorem TW_set {base tg sg mb I L B q c:Nat}(h:NT.TW base tg sg mb I L B q c A S D w){k j:Nat}{u:Value}{cs:Array Value}{ty:TypeId}{s:Nat×Nat}(ho:w.heap[k]? = some (.cells cs ty s))(hty:ty=130∨ty=106∨ty=96):NT.TW base tg sg mb I L B q c A S D (w.setCell ⟨k,j,none⟩ u):=by
 have hK:Keeps 0 (fun i o=>i=k/\∃ c s,o=.cells c ty s) w (w.setCell ⟨k,j,none⟩ u):=(Keeps.refl _ _ _).setCell (p:=⟨k,j,none⟩) ho ⟨rfl,_,_,rfl⟩ (Nat.zero_le _) u;refine⟨h.tm.keeps hK ?_ ?_ ?_,?_,h.ti⟩
 ·rintro _ _ _ ⟨-,_,_,e⟩;simp only[Obj.cells.injEq] at e;rcases hty with h|h|h <;> rw[h] at e <;> simp at e
 ·rintro _ _ _ ⟨-,_,_,e⟩;simp only[Obj.cells.injEq] at e;rcases hty with h|h|h <;> rw[h] at e <;> simp at e
 ·rintro _ _ _ _ _ _ ⟨-,_,_,e⟩
  cases e
 ·obtain⟨M,hM⟩:=h.ps;refine⟨M,hM.keeps hK ?_ ?_ ?_ ?_⟩
  ·rintro _ _ _ ⟨-,_,_,e⟩;simp only[Obj.cells.injEq] at e;rcases hty with h|h|h <;> rw[h] at e <;> simp at e
  ·rintro _ _ _ ⟨-,_,_,e⟩;simp only[Obj.cells.injEq] at e;rcases hty with h|h|h <;> rw[h] at e <;> simp at e
  ·rintro _ _ ⟨-,_,_,e⟩
   cases e
  ·rintro _ _ ⟨-,_,_,e⟩;simp only[Obj.cells.injEq] at e;rcases hty with h|h|h <;> rw[h] at e <;> simp at e
end
end DC
namespace DC
open IS (I64 upd)
open IN (Keeps lt_of_some)
def relO (O:Ou)(k:Nat):Ou:=match O k with
 | none=>O
 | some o=>if 1<o.refs then updO O k (some { o with refs:=o.refs-1 }) else updO O k none
def relS (S:Sm)(O:Ou)(k:Nat):Sm:=match O k with
 | none=>S
 | some o=>if 1<o.refs then S else IN.clS S o.ino
theorem updO_updO (O:Ou)(k:Nat)(x y:Option Of):updO (updO O k x) k y=updO O k y:=by
 funext j;unfold updO;split <;> rfl
section
variable {K:Cn}{q:Nat}{A:Am}{S:Sm}{D:NT.Ds}{M:Int->Option Nat}{β:Nat->Nat}{P:Ps}{O:Ou}{R:Ls}{w w':World}{n:Nat}
theorem DM.refs_le (h:DM K q A S D M β P O R w){k:Nat}{o:Of}(ho:O k=some o):1<=o.refs/\o.refs<=4000000:=by
 have h1:=h.di.refs k o ho;have h2:=cntP_le k h.di.len;have h3:=cntL_le k R;have h4:=h.cap;have h5:P.length*K.files<=60000*64:=Nat.mul_le_mul (by omega) (by omega)
 omega
theorem DM.ino_i64 (h:DM K q A S D M β P O R w){k:Nat}{o:Of}(ho:O k=some o):I64 o.ino:=by
 obtain⟨x,hx,-⟩:=h.di.ino k o ho;exact h.dp.tw.ti.i64 h.dp.tw.lim (by rw[hx];simp)
theorem release_any (k:Nat)(o:Of)(w:World)(h:DM K q A S D M β P O (some k :: R) w)(ho:O k=some o) :
 Calls prog 65 #[.pointer (some ⟨K.g,0,none⟩),.pointer (some ⟨β k,0,none⟩)] w fun e w'=>e=.returned (.tuple #[])/\DM K q A (relS S O k) D M β P (relO O k) R w'/\Keeps K.base (WT K) w w':=by
 have hfb:=h.dp.fp.fb k o ho;have hrf:=h.refs_le ho;have c0:=hfb.cell (j:=0) rfl;have c3:=hfb.cell (j:=3) rfl;have fz:=hfb.fz;have hcap:=h.cap;have hge:=h.dp.fp.ge.2 k (by rw[ho];simp);unfold relO relS;rw[ho];simp only
 by_cases h1:1<o.refs
 ·rw[if_pos h1,if_pos h1];have hfin:=Wd (show DM K q A S D M β P (updO O k (some { o with refs:=o.refs-1 })) R (w.setCell ⟨β k,3,none⟩ (.int .i64 (o.refs-1))) from by
   have hc:cntO (updO O k (some { o with refs:=o.refs-1 })) K.opens=cntO O K.opens:=cntO_same fun j _=>by
    by_cases e:j=k
    ·subst e;rw[updO_at,ho];simp
    ·rw[updO_ne e]
   refine⟨⟨TW_set h.dp.tw hfb (.inl rfl),h.dp.far,?_,h.dp.fp.setFile ho 3 _ rfl,h.dp.ge⟩,h.di.less ho h1,by rw[List.length_cons] at hcap;omega⟩;rw[hc];exact Blk.far h.dp.tb (p:=⟨β k,3,none⟩) (IN.blk_ne h.dp.tb.blk hfb.blk (by decide)) _)
  have hK:=Wd (WT_file (K:=K) (j:=3) (u:=.int .i64 (o.refs-1)) hfb hge);have hlo : -9223372036854775808<=o.refs-1:=by omega
  have hp:decide (1<o.refs)=true:=by simpa using h1
  have hw:IntKind.i64.wrap (o.refs-1)=o.refs-1:=by rw[IntKind.wrap_i64];omega
  clear h hfb ho c0 h1 hge;go_enter func65,ntmps65
  go_wp2_with fail
  exact bodyPost_ret (results_none results65 _ _ _) rfl ⟨rfl,hfin.out,hK.out⟩
 ·rw[if_neg h1,if_neg h1];have e1:o.refs=1:=by omega
  have hb:=h.di.bound k (by rw[ho];simp);have hcnt:=cntO_upd O k none K.opens hb;rw[ho,if_neg (by simp),if_pos rfl] at hcnt;obtain⟨W1,hW1⟩:∃ W1,w.setCell ⟨β k,3,none⟩ (.int .i64 0)=W1:=⟨_,rfl⟩;have hne:K.g≠β k:=IN.blk_ne h.dp.tb.blk hfb.blk (by decide);have htb1:TB W1 K.g K.sg K.tg K.b K.files ((K.opens:Int)-(cntO O K.opens:Int)):=by rw[<-hW1];exact Blk.far h.dp.tb (p:=⟨β k,3,none⟩) hne _
  have htb2:TB (W1.setCell ⟨K.g,4,none⟩ (.int .i64 ((K.opens:Int)-(cntO O K.opens:Int)+1))) K.g K.sg K.tg K.b K.files ((K.opens:Int)-(cntO (updO O k none) K.opens:Int)):=by
   have:=Blk.set htb1 4 (.int .i64 ((K.opens:Int)-(cntO O K.opens:Int)+1));rw[show (K.opens:Int)-(cntO (updO O k none) K.opens:Int)=(K.opens:Int)-(cntO O K.opens:Int)+1 by omega];exact this
  have hfp1:FP K.base W1 K.files β M P (updO O k (some { o with refs:=0 })):=by rw[<-hW1];exact h.dp.fp.setFile ho 3 _ rfl
  have hdp:DP K q A S D M β P (updO O k none) (W1.setCell ⟨K.g,4,none⟩ (.int .i64 ((K.opens:Int)-(cntO O K.opens:Int)+1))):=by
   refine⟨?_,h.dp.far,htb2,?_,h.dp.ge⟩
   ·refine TW_set ?_ htb1 (.inr (.inr rfl));rw[<-hW1];exact TW_set h.dp.tw hfb (.inl rfl)
   ·have h2:=hfp1.drop k;rw[updO_updO] at h2;exact h2.moved (fun p g hM=>by
     obtain⟨L,-,hp,-⟩:=h2.plt hM;exact Below.heap_setCell _ _ _ _ (IN.blk_ne hp.2 htb1.blk (by decide))) fun i hi=>by
     obtain⟨x,hx⟩:=Option.ne_none_iff_exists'.1 hi;exact Below.heap_setCell _ _ _ _ (IN.blk_ne (h2.fb i x hx).blk htb1.blk (by decide))
  have hfb2:FB (W1.setCell ⟨K.g,4,none⟩ (.int .i64 ((K.opens:Int)-(cntO O K.opens:Int)+1))) (β k) { o with refs:=0 }:=Blk.far (hfp1.fb k _ (updO_at _ _ _)) (p:=⟨K.g,4,none⟩) hne.symm _;obtain⟨W2,hW2⟩:∃ W2,W1.setCell ⟨K.g,4,none⟩ (.int .i64 ((K.opens:Int)-(cntO O K.opens:Int)+1))=W2:=⟨_,rfl⟩;have hK1:Keeps K.base (WT K) w W1:=by rw[<-hW1];exact WT_file hfb hge
  have hK2:=hK1.trans (WT_table (K:=K) (j:=4) (u:=.int .i64 ((K.opens:Int)-(cntO O K.opens:Int)+1)) htb1 h.dp.ge.1);rw[hW2] at htb2 hdp hfb2 hK2;obtain⟨M1,hps⟩:=hdp.drew1.tw.ps;have hino:=h.ino_i64 ho;have cC:=Wd (IN.Close_any o.ino _ hps hino (by omega));obtain⟨x,hx,hkd⟩:=h.di.ino k o ho;have hti:=h.dp.tw.ti.clS hx hkd;have hdi:=h.di.closed ho e1;have next:=Wd (fun (w3:World) (hp3:∃ M',IN.PS K.base w3 K.sg K.mb M' K.I K.L K.B q (IN.clS S o.ino)) (k3:Keeps K.base (IN.PT K.mb) W2 w3)=>
   show (w3.cell? ⟨K.g,0,none⟩=some (.pointer (some ⟨K.sg,0,none⟩))/\w3.cell? ⟨β k,0,none⟩=some (.int .i64 o.ino))/\Hid (DM K q A (IN.clS S o.ino) D M β P (updO O k none) R w3/\Keeps K.base (WT K) w w3) from
    ⟨⟨(TB_keeps htb2 k3 (by simp[IN.PT])).cell (j:=0) rfl,Blk.cell (show Blk w3 (β k) 130 _ from k3.block _ _ hfb2 (by simp[IN.PT])) (j:=0) rfl⟩,
     Wd ⟨⟨hdp.store k3 (Nat.le_refl _) hp3 hti,hdi,by rw[List.length_cons] at hcap;omega⟩,hK2.trans (WT_store (K:=K) k3)⟩⟩)
  have s1:W2.cell? ⟨K.g,0,none⟩=some (.pointer (some ⟨K.sg,0,none⟩)):=htb2.cell (j:=0) rfl;have s2:W2.cell? ⟨β k,0,none⟩=some (.int .i64 o.ino):=Blk.cell hfb2 (j:=0) rfl;have t4:=h.dp.tb.cell (j:=4) rfl;have w3:W1.cell? ⟨β k,3,none⟩=some (.int .i64 0):=Blk.cell (hfp1.fb k _ (updO_at _ _ _)).blk (j:=3) rfl;have wf:=(hfp1.fb k _ (updO_at _ _ _)).blk.fz;have hle:=cntO_le O K.opens;have t4':W1.cell? ⟨K.g,4,none⟩=some (.int .i64 ((K.opens:Int)-(cntO O K.opens:Int))):=htb1.cell (j:=4) rfl;have f4':=htb1.fz;have ft:=h.dp.tb.fz;have hw:IntKind.i64.wrap ((K.opens:Int)-(cntO O K.opens:Int)+1)=(K.opens:Int)-(cntO O K.opens:Int)+1:=by rw[IntKind.wrap_i64];omega
  rw[e1] at c3;have HNE:=Wd hne;clear h hfb ho h1 hge hps hdp hfp1 htb1 htb2 hK1 hK2 hcnt hcap hx hkd hrf hb hino e1 hti hdi hfb2 c0 hne;generalize (K.opens:Int)-(cntO O K.opens:Int)=lf at *;go_enter func65,ntmps65
  go_wp2_with fail
  go_region_held3 (fun w'=>w'.cell? ⟨K.g,0,none⟩=some (.pointer (some ⟨K.sg,0,none⟩))/\w'.cell? ⟨β k,0,none⟩=some (.int .i64 o.ino)) (first|assumption|exact⟨s1,s2⟩|go_keep)
   (first
    | (go_at_call 111;refine cC.out.mono ?_;rintro e w3 ⟨rfl,hp3,k3⟩;obtain⟨S3,hfin⟩:=next.out w3 hp3 k3.undrew;clear hp3 k3))
  all_goals
   go_wp2_with fail
   exact bodyPost_end (results_none results65 _ _ _) rfl ⟨rfl,hfin.out⟩
end
end DC
namespace DC
theorem start_set (pd pf:Option Addr)(w:World):Calls prog 68 #[.pointer pd,.pointer pf,.int .i64 0] w fun e w'=>e=.returned (.tuple #[.int .i64 0,.int .i64 0])/\w'=w:=by
 go_enter func68,ntmps68
 go_wp2_with fail
 go_ret2
 exact⟨rfl,rfl⟩
theorem start_cur (pd:Option Addr)(f:Nat)(o:Of)(w:World)(h:FB w f o):Calls prog 68 #[.pointer pd,.pointer (some ⟨f,0,none⟩),.int .i64 1] w fun e w'=>e=.returned (.tuple #[.int .i64 o.off,.int .i64 0])/\w'=w:=by
 have c1:=h.cell (j:=1) rfl;clear h;go_enter func68,ntmps68
 go_wp2_with fail
 go_ret2
 exact⟨rfl,rfl⟩
theorem start_bad (pd pf:Option Addr)(k:Int)(w:World)(h0:k≠0)(h1:k≠1)(h2:k≠2):Calls prog 68 #[.pointer pd,.pointer pf,.int .i64 k] w fun e w'=>e=.returned (.tuple #[.int .i64 0,.int .i64 2])/\w'=w:=by
 have e0:(k == 0)=false:=by simpa using h0
 have e1:(k == 1)=false:=by simpa using h1
 have e2:(k == 2)=false:=by simpa using h2
 clear h0 h1 h2;go_enter func68,ntmps68
 go_wp2_with fail
 go_ret2
 exact⟨rfl,rfl⟩
end DC
namespace DC
def Nay (w:World)(pd:Option Addr)(p q need c:Int):Prop:=c≠0/\Calls prog 64 #[.pointer pd,.int .i64 p,.int .i64 q,.int .i64 need] w fun e w'=>e=.returned (.tuple #[.pointer none,.int .i64 c])/\w'=w
theorem Close_nay (pd:Option Addr)(p q c:Int)(w:World)(h:Nay w pd p q 0 c):Calls prog 24 #[.pointer pd,.int .i64 p,.int .i64 q] w fun e w'=>e=.returned (.int .i64 c)/\w'=w:=by
 have hne:(c != 0)=true:=by simpa using h.1
 have cF:=Wd h.2;clear h;go_enter func24,ntmps24
 go_wp2_with fail
 refine cF.out.mono ?_;rintro e w1 ⟨rfl,rfl⟩;go_wp2_with fail
 go_ret
 exact⟨rfl,rfl⟩
theorem Dup_nay (pd:Option Addr)(p q c:Int)(w:World)(h:Nay w pd p q 0 c):Calls prog 25 #[.pointer pd,.int .i64 p,.int .i64 q] w fun e w'=>e=.returned (.tuple #[.int .i64 0,.int .i64 c])/\w'=w:=by
 have hne:(c != 0)=true:=by simpa using h.1
 have cF:=Wd h.2;clear h;go_enter func25,ntmps25
 go_wp2_with fail
 refine cF.out.mono ?_;rintro e w1 ⟨rfl,rfl⟩;go_wp2_with fail
 go_ret2
 exact⟨rfl,rfl⟩
theorem Read_nay (pd:Option Addr)(p q c:Int)(n:Int)(w:World)(h:Nay w pd p q 1 c):Calls prog 26 #[.pointer pd,.int .i64 p,.int .i64 q,.int .i64 n] w fun e w'=>e=.returned (.tuple #[.string ByteArray.empty,.int .i64 c])/\w'=w:=by
 have hne:(c != 0)=true:=by simpa using h.1
 have cF:=Wd h.2;clear h;go_enter func26,ntmps26
 go_wp2_with fail
 refine cF.out.mono ?_;rintro e w1 ⟨rfl,rfl⟩;go_wp2_with fail
 go_ret2
 exact⟨rfl,rfl⟩
theorem Write_nay (pd:Option Addr)(p q c:Int)(s:ByteArray)(w:World)(h:Nay w pd p q 2 c):Calls prog 27 #[.pointer pd,.int .i64 p,.int .i64 q,.string s] w fun e w'=>e=.returned (.tuple #[.int .i64 0,.int .i64 c])/\w'=w:=by
 have hne:(c != 0)=true:=by simpa using h.1
 have cF:=Wd h.2;clear h;go_enter func27,ntmps27
 go_wp2_with fail
 refine cF.out.mono ?_;rintro e w1 ⟨rfl,rfl⟩;go_wp2_with fail
 go_ret2
 exact⟨rfl,rfl⟩
theorem Seek_nay (pd:Option Addr)(p q c:Int)(n k:Int)(w:World)(h:Nay w pd p q 0 c):Calls prog 28 #[.pointer pd,.int .i64 p,.int .i64 q,.int .i64 n,.int .i64 k] w fun e w'=>e=.returned (.tuple #[.int .i64 0,.int .i64 c])/\w'=w:=by
 have hne:(c != 0)=true:=by simpa using h.1
 have cF:=Wd h.2;clear h;go_enter func28,ntmps28
 go_wp2_with fail
 refine cF.out.mono ?_;rintro e w1 ⟨rfl,rfl⟩;go_wp2_with fail
 go_ret2
 exact⟨rfl,rfl⟩
theorem Trunc_nay (pd:Option Addr)(p q c:Int)(n:Int)(w:World)(h:Nay w pd p q 2 c):Calls prog 29 #[.pointer pd,.int .i64 p,.int .i64 q,.int .i64 n] w fun e w'=>e=.returned (.int .i64 c)/\w'=w:=by
 have hne:(c != 0)=true:=by simpa using h.1
 have cF:=Wd h.2;clear h;go_enter func29,ntmps29
 go_wp2_with fail
 refine cF.out.mono ?_;rintro e w1 ⟨rfl,rfl⟩;go_wp2_with fail
 go_ret
 exact⟨rfl,rfl⟩
end DC
namespace DC
open IS (I64 upd)
open IN (Keeps lt_of_some)
open NT (er)
def fileR (P:Ps)(O:Ou)(pid fd need:Int):Except Int Nat:=match lk P pid with
 | none=>.error 19
 | some L=>match getL L fd with
   | none=>.error 16
   | some k=>match O k with
     | none=>.error 16
     | some o=>if (bits .and .i64 o.flags need == need)=true then .ok k else .error 16
theorem getL_some {L:Ls}{fd:Int}{k:Nat}(h:getL L fd=some k):∃ j:Nat,fd=j/\L[j]? = some (some k):=by
 unfold getL at h
 split at h
 ·rename_i h0
  refine⟨fd.toNat,by omega,?_⟩
  cases e:L[fd.toNat]? with
  | none=>rw[e] at h;cases h
  | some x=>rw[e] at h;simpa using h
 ·cases h
theorem fileR_ok {P:Ps}{O:Ou}{pid fd need:Int}{k:Nat}(h:fileR P O pid fd need=.ok k):∃ L o,∃ j:Nat,lk P pid=some L/\fd=j/\getL L fd=some k/\L[j]? = some (some k)/\O k=some o/\(bits .and .i64 o.flags need == need)=true:=by
 unfold fileR at h
 cases e1:lk P pid with
 | none=>rw[e1] at h;cases h
 | some L=>
   rw[e1] at h;simp only at h
   cases e2:getL L fd with
   | none=>rw[e2] at h;cases h
   | some k'=>
     rw[e2] at h;simp only at h
     cases e3:O k' with
     | none=>rw[e3] at h;cases h
     | some o=>
       rw[e3] at h;simp only at h
       split at h
       ·rename_i h4
        cases h
        obtain⟨j,hj,hL⟩:=getL_some e2;exact⟨L,o,j,rfl,hj,e2,hL,e3,h4⟩
       ·cases h
theorem fileR_ne {P:Ps}{O:Ou}{pid fd need c:Int}(h:fileR P O pid fd need=.error c):c≠0:=by
 unfold fileR at h
 split at h
 ·cases h;decide
 ·split at h
  ·cases h;decide
  ·split at h
   ·cases h;decide
   ·split at h
    ·cases h
    ·cases h;decide
section
variable {K:Cn}{q:Nat}{A:Am}{S:Sm}{D:NT.Ds}{M:Int->Option Nat}{β:Nat->Nat}{P:Ps}{O:Ou}{R:Ls}{w w':World}{n:Nat}
theorem DM.file_err (h:DM K q A S D M β P O R w)(hm:MB w K.b q M){pid fd need c:Int}(hp:I64 pid)(he:fileR P O pid fd need=.error c):Nay w (some ⟨K.g,0,none⟩) pid fd need c:=by
 refine⟨fileR_ne he,?_⟩;unfold fileR at he
 cases e1:lk P pid with
 | none=>
   rw[e1] at he
   cases he
   exact file_srch pid fd need w h.dp.tb hm hp ((h.dp.fp.dom pid).2 e1)
 | some L=>
   rw[e1] at he;simp only at he;obtain⟨g,hM,hpr,-⟩:=h.dp.fp.hasP e1;have hl:=h.di.lks e1;have hg:=getL_pad (β:=β) hl.1 h.cap.2.1 fd
   cases e2:getL L fd with
   | none=>
     rw[e2] at he hg
     cases he
     exact file_none pid fd need g _ w h.dp.tb hm hp hM hpr hg
   | some k=>
     rw[e2] at he hg;simp only at he;obtain⟨j,hj,hL⟩:=getL_some e2;obtain⟨o,ho⟩:=h.di.has e1 hL;rw[ho] at he;simp only at he;have:=file_some pid fd need g (β k) _ o w h.dp.tb hm hp hM hpr hg (h.dp.fp.fb k o ho)
     split at he
     ·cases he
     ·rename_i hb
      cases he
      rw[if_neg hb] at this;exact this
theorem DM.file_ok (h:DM K q A S D M β P O R w)(hm:MB w K.b q M){pid fd need:Int}{k:Nat}(hp:I64 pid)(he:fileR P O pid fd need=.ok k):Calls prog 64 #[.pointer (some ⟨K.g,0,none⟩),.int .i64 pid,.int .i64 fd,.int .i64 need] w fun e w'=>e=.returned (.tuple #[.pointer (some ⟨β k,0,none⟩),.int .i64 0])/\w'=w:=by
 obtain⟨L,o,j,h1,h2,h3,h4,h5,h6⟩:=fileR_ok he;obtain⟨g,hM,hpr,-⟩:=h.dp.fp.hasP h1;have hl:=h.di.lks h1;have hg:=getL_pad (β:=β) hl.1 h.cap.2.1 fd;rw[h3] at hg;have:=file_some pid fd need g (β k) _ o w h.dp.tb hm hp hM hpr hg (h.dp.fp.fb k o h5);rw[if_pos h6] at this;exact this
def DQ (K:Cn)(q:Nat)(A:Am)(S:Sm)(D:NT.Ds)(P:Ps)(O:Ou)(w w':World):Prop:=(∃ A',DW K (q+2) A' S D P O w')/\Keeps K.base (UT K A) w w'
theorem DQ.same (h:DW K q A S D P O w)(hq:q<59998)(hb:Below w.heap.size w w'):DQ K q A S D P O w w':=by
 have h1:=(h.keep hb).more (q':=q+2) (by omega) (by omega);obtain⟨M,β,h2,h3⟩:=h;exact⟨⟨A,h1⟩,Keeps.new hb h3.low⟩
def clsR (S:Sm)(P:Ps)(O:Ou)(pid fd:Int):Int×Sm×Ps×Ou:=match fileR P O pid fd 0 with
 | .error c=>(c,S,P,O)
 | .ok k=>(0,relS S O k,setP P pid (((lk P pid).getD []).set fd.toNat none),relO O k)
theorem DP.slot (h:DP K q A S D M β P O w){p:Int}{g:Nat}{L:Ls}(hM:M p=some g)(hl:lk P p=some L)(hf:L.length=K.files){j:Nat}(hj:j<K.files)(x:Option Nat)(u:Value)(hu:u=pv (x.map β)):DP K q A S D M β (setP P p (L.set j x)) O (w.setCell ⟨g,j,none⟩ u):=by
 have hg:=h.fp.pr p g L hM hl;exact⟨TW_set h.tw hg.2 (.inr (.inl rfl)),h.far,Blk.far h.tb (p:=⟨g,j,none⟩) (IN.blk_ne h.tb.blk hg.2 (by decide)) _,h.fp.setSlot hM hl hf hj x u hu,h.ge⟩
theorem MB_slot {b:Nat}(h:MB w b n M){g j:Nat}{L:Ls}(hg:PR w g L)(u:Value):MB (w.setCell ⟨g,j,none⟩ u) b n M:=
 h.far (p:=⟨g,j,none⟩) (fun e=>by
  obtain⟨es,c,ho⟩:=h.obj;have e':b=g:=e;subst e';have:=hg.2;unfold Blk at this;rw[this] at ho
  cases ho) u
theorem MB_file {b:Nat}(h:MB w b n M){g j:Nat}{o:Of}(hg:FB w g o)(u:Value):MB (w.setCell ⟨g,j,none⟩ u) b n M:=
 h.far (p:=⟨g,j,none⟩) (fun e=>by
  obtain⟨es,c,ho⟩:=h.obj;have e':b=g:=e;subst e';unfold FB Blk at hg;rw[hg] at ho
  cases ho) u
theorem Close_all (pid fd:Int)(w:World)(h:DW K q A S D P O w)(hp:I64 pid)(hq:q<59998) :
 Calls prog 24 #[.pointer (some ⟨K.g,0,none⟩),.int .i64 pid,.int .i64 fd] w fun e w'=>e=.returned (.int .i64 (clsR S P O pid fd).1)/\DQ K q A (clsR S P O pid fd).2.1 D (clsR S P O pid fd).2.2.1 (clsR S P O pid fd).2.2.2 w w':=by
 have h0:=h;obtain⟨M,β,hm,hd⟩:=h;unfold clsR
 cases e:fileR P O pid fd 0 with
 | error c=>
   refine (Close_nay _ pid fd c w (hd.file_err hm hp e)).mono ?_;rintro e w' ⟨rfl,rfl⟩;exact⟨rfl,DQ.same h0 hq (Below.refl _ _)⟩
 | ok k=>
   have cF:=Wd (hd.file_ok hm hp e);obtain⟨L,o,j,h1,rfl,h3,h4,h5,h6⟩:=fileR_ok e;obtain⟨g,hM,hpr,hgb⟩:=hd.dp.fp.hasP h1;have hl:=hd.di.lks h1;have hj:j<L.length:=(List.getElem?_eq_some_iff.mp h4).1;have hcap:=hd.cap;simp only[h1,Option.getD_some,Int.toNat_natCast];have hd1:DM K q A S D M β (setP P pid (L.set j none)) O [some k] (w.setCell ⟨g,j,none⟩ (.pointer none)):=
    ⟨hd.dp.slot hM h1 hl.1 (by omega) none _ rfl,hd.di.take h1 h4,by rw[set_len];simp only[List.length_cons,List.length_nil] at hcap ⊢;omega⟩
   have hm1:=Wd (MB_slot hm hpr (j:=j) (.pointer none));have cR:=Wd (release_any k o _ hd1 h5);have hK1:=Wd (UT_slot (K:=K) (A:=A) (j:=j) (u:=.pointer none) hpr hgb);have c2:=hd.dp.tb.cell (j:=2) rfl;have hlk:=hm.look pid hp;rw[hM] at hlk;unfold IS.ptr at hlk;have cs:=hpr.at_ (by rw[pad_at hl.1 j (by omega),h4];rfl);have cs2:w.cell? ⟨g,j,none⟩=some (.pointer (some ⟨β k,0,none⟩)):=cs;have fz:=hpr.2.fz;have hdp1:=Wd hd1.dp;have h64:j<64:=by omega
   have hq2:q+2<60000:=by omega
   clear h0 hm hd h1 h3 h4 h5 h6 hM hpr hl hj hcap hd1 cs hgb e;go_enter func24,ntmps24
   go_wp2_with fail
   refine cF.out.mono ?_;rintro e w1 ⟨rfl,rfl⟩;go_wp2_with fail
   refine cR.out.mono ?_;rintro e w2 ⟨rfl,hd2,k2⟩;have hfin:=Wd (show DQ K q A (relS S O k) D (setP P pid (L.set j none)) (relO O k) _ w2 from ⟨⟨A,M,β,(hdp1.out.mbStore hm1.out k2).le (by omega),hd2.more (by omega) hq2⟩,hK1.out.trans (UT_w A k2)⟩);clear hd2 k2;go_wp2_with fail
   go_ret
   exact⟨rfl,hfin.out⟩
end
end DC
namespace DC
open IS (I64 upd)
open IN (Keeps lt_of_some)
section
variable {K:Cn}{q:Nat}{A:Am}{S:Sm}{D:NT.Ds}{M:Int->Option Nat}{β:Nat->Nat}{P:Ps}{O:Ou}{R:Ls}{w w':World}{n:Nat}
theorem cntO_turn {O:Ou}{k:Nat}{o o':Of}(ho:O k=some o)(m:Nat):cntO (updO O k (some o')) m=cntO O m:=cntO_same fun j _=>by
 by_cases e:j=k
 ·subst e;rw[updO_at,ho];simp
 ·rw[updO_ne e]
theorem DP.file (h:DP K q A S D M β P O w){k:Nat}{o o':Of}(ho:O k=some o)(j:Nat)(u:Value)(he:([.int .i64 o.ino,.int .i64 o.off,.int .i64 o.flags,.int .i64 o.refs]:List Value).set j u=[.int .i64 o'.ino,.int .i64 o'.off,.int .i64 o'.flags,.int .i64 o'.refs]):DP K q A S D M β P (updO O k (some o')) (w.setCell ⟨β k,j,none⟩ u):=by
 have hfb:=h.fp.fb k o ho;refine⟨TW_set h.tw hfb (.inl rfl),h.far,?_,h.fp.setFile ho j u he,h.ge⟩;rw[cntO_turn ho];exact Blk.far h.tb (p:=⟨β k,j,none⟩) (IN.blk_ne h.tb.blk hfb.blk (by decide)) _
def dupR (f:Nat)(P:Ps)(O:Ou)(pid fd:Int):(Int×Int)×Ps×Ou:=match fileR P O pid fd 0 with
 | .error c=>((0,c),P,O)
 | .ok k=>if fx ((lk P pid).getD [])<f then (((fx ((lk P pid).getD []):Nat),0),setP P pid (((lk P pid).getD []).set (fx ((lk P pid).getD [])) (some k)),updO O k ((O k).map fun o=>{ o with refs:=o.refs+1 })) else ((0,22),P,O)
theorem Dup_all (pid fd:Int)(w:World)(h:DW K q A S D P O w)(hp:I64 pid)(hq:q<59998) :
 Calls prog 25 #[.pointer (some ⟨K.g,0,none⟩),.int .i64 pid,.int .i64 fd] w fun e w'=>e=.returned (.tuple #[.int .i64 (dupR K.files P O pid fd).1.1,.int .i64 (dupR K.files P O pid fd).1.2])/\DQ K q A S D (dupR K.files P O pid fd).2.1 (dupR K.files P O pid fd).2.2 w w':=by
 have h0:=h;obtain⟨M,β,hm,hd⟩:=h;unfold dupR
 cases e:fileR P O pid fd 0 with
 | error c=>
   refine (Dup_nay _ pid fd c w (hd.file_err hm hp e)).mono ?_;rintro e w' ⟨rfl,rfl⟩;exact⟨rfl,DQ.same h0 hq (Below.refl _ _)⟩
 | ok k=>
   have cF:=Wd (hd.file_ok hm hp e);obtain⟨L,o,j,h1,rfl,h3,h4,h5,h6⟩:=fileR_ok e;obtain⟨g,hM,hpr,hgb⟩:=hd.dp.fp.hasP h1;have hl:=hd.di.lks h1;have hcap:=hd.cap;have hfx:=fx_pad (β:=β) hl.1;simp only[h1,Option.getD_some,h5,Option.map_some];have cL:=lowest_any K.g K.sg K.tg K.b g K.files _ _ w hd.dp.tb hpr hcap.2.1;unfold lowV lowE at cL;rw[hfx] at cL;have c2:=hd.dp.tb.cell (j:=2) rfl;have hlk:=hm.look pid hp;rw[hM] at hlk;unfold IS.ptr at hlk;have hq2:q+2<60000:=by omega
   by_cases hf:fx L<K.files
   ·simp only[if_pos hf] at cL ⊢;have cL:=Wd cL;have hno:=fx_none (L:=L) (by omega);have hrf:=hd.refs_le h5;have H:=Wd (And.intro hm hd);have HP:=Wd (And.intro hpr h1);have HM:=Wd hM;have hne:g≠β k:=IN.blk_ne hpr.2 (hd.dp.fp.fb k o h5).blk (by decide);have HNE:=Wd hne;have hgk:=Wd (hd.dp.fp.ge.2 k (by rw[h5];simp));have H5:=Wd h5;have HG:=Wd hgb;have HL:=Wd hl;have HF:=Wd hf;have HR:=Wd hrf;have HC:=Wd hcap;have HNO:=Wd hno;clear h0 hm hd h1 h3 h4 h5 h6 hM hpr hl hcap hgb e hfx hno hrf hne hf;generalize hfd:fx L=fd2 at *;go_enter func25,ntmps25
    go_wp2_with fail
    refine cF.out.mono ?_;rintro e w1 ⟨rfl,rfl⟩;go_wp2_with fail
    refine cL.out.mono ?_;rintro e w2 ⟨rfl,b2⟩;have hm2:=H.out.1.keep b2;have hd2:=H.out.2.keep b2;have hp2:PR w2 g (pad K.files β L):=⟨HP.out.1.1,HP.out.1.2.keep b2⟩;have cP:=Wd (put_any g (β k) fd2 _ o w2 hp2 (hd2.dp.fp.fb k o H5.out) (by have:=HF.out;have:=HC.out;omega) HNE.out (by have:=HR.out;omega));have hfin:=Wd (show DQ K q A S D (setP P pid (L.set fd2 (some k))) (updO O k (some { o with refs:=o.refs+1 })) _ ((w2.setCell ⟨β k,3,none⟩ (.int .i64 (o.refs+1))).setCell ⟨g,fd2,none⟩ (.pointer (some ⟨β k,0,none⟩))) from by
     have p1:=hd2.dp.file H5.out 3 (.int .i64 (o.refs+1)) (o':={ o with refs:=o.refs+1 }) rfl;have m1:=MB_file hm2 (hd2.dp.fp.fb k o H5.out) (j:=3) (.int .i64 (o.refs+1));have hp3:PR (w2.setCell ⟨β k,3,none⟩ (.int .i64 (o.refs+1))) g (pad K.files β L):=⟨hp2.1,hp2.2.far (p:=⟨β k,3,none⟩) HNE.out _⟩;have p2:=p1.slot HM.out HP.out.2 HL.out.1 HF.out (some k) (.pointer (some ⟨β k,0,none⟩)) rfl;have hc:=HC.out;exact⟨⟨A,M,β,(MB_slot m1 hp3 (j:=fd2) (.pointer (some ⟨β k,0,none⟩))).le (by omega),p2.more (by omega),(hd2.di.more H5.out).lay HP.out.2 HNO.out,by rw[set_len];simp only[List.length_nil];omega⟩,
      (Keeps.new b2 H.out.2.low).trans ((UT_file (hd2.dp.fp.fb k o H5.out) hgk.out).trans (UT_slot hp3 HG.out))⟩)
    clear b2 hm2 hd2 hp2;go_wp2_with fail
    refine cP.out.mono ?_;rintro e w3 ⟨rfl,rfl⟩;go_wp2_with fail
    go_ret2
    exact⟨rfl,hfin.out⟩
   ·simp only[if_neg hf] at cL ⊢;have cL:=Wd cL;have H0:=Wd h0;clear h0 hm hd h1 h3 h4 h5 h6 hM hpr hl hcap hgb e hfx hf;go_enter func25,ntmps25
    go_wp2_with fail
    refine cF.out.mono ?_;rintro e w1 ⟨rfl,rfl⟩;go_wp2_with fail
    refine cL.out.mono ?_;rintro e w2 ⟨rfl,b2⟩;have B2:=Wd b2;clear b2;go_wp2_with fail
    go_ret2
    exact⟨rfl,DQ.same H0.out hq B2.out⟩
end
end DC
namespace DC
open IS (I64 upd)
open IN (Keeps lt_of_some)
section
variable {K:Cn}{q:Nat}{A:Am}{S:Sm}{D:NT.Ds}{M:Int->Option Nat}{β:Nat->Nat}{P:Ps}{O:Ou}{R:Ls}{w w':World}{n:Nat}
theorem start_end (k:Nat)(o:Of)(x:IN.Nd)(w:World)(h:DM K q A S D M β P O R w)(ho:O k=some o)(hx:S o.ino=some x) :
 Calls prog 68 #[.pointer (some ⟨K.g,0,none⟩),.pointer (some ⟨β k,0,none⟩),.int .i64 2] w fun e w'=>e=.returned (.tuple #[.int .i64 x.size,.int .i64 0])/\Below w.heap.size w w':=by
 have hfb:=(h.dp.fp.fb k o ho).blk;have htb:=h.dp.tb.blk;have cS:Hid (∀ W,(W.cell? ⟨K.g,0,none⟩=some (.pointer (some ⟨K.sg,0,none⟩))/\W.cell? ⟨β k,0,none⟩=some (.int .i64 o.ino)/\Below w.heap.size w W)->Calls prog 33 #[.pointer (some ⟨K.sg,0,none⟩),.int .i64 o.ino] W fun e w'=>e=.returned (.tuple #[.agg #[.int .i64 o.ino,.int .i64 x.kind,.int .i64 x.links,.int .i64 x.opens,.int .i64 x.size,.int .i64 (EM.cnt x.l:Int)],.int .i64 0])/\(w'.cell? ⟨K.g,0,none⟩=some (.pointer (some ⟨K.sg,0,none⟩))/\w'.cell? ⟨β k,0,none⟩=some (.int .i64 o.ino)/\Below w.heap.size w w')/\Below W.heap.size W w'):=Wd fun W ⟨_,_,hW⟩=>by
  obtain⟨M1,hps⟩:=(h.keep hW).dp.tw.ps;have:=IN.Stat_any o.ino W hps (h.ino_i64 ho);unfold IN.stV IN.opR IN.askR at this;rw[hx] at this;refine this.mono ?_;rintro e w' ⟨rfl,hb⟩;have hb':=hW.trans (hb.mono hW.size);exact⟨rfl,⟨(htb.keep hb').cell (j:=0) rfl,(hfb.keep hb').cell (j:=0) rfl,hb'⟩,hb⟩
 have z0:Hid (∀ w3,Below (w.alloc (.cells #[.int .i64 0,.int .i64 0,.int .i64 0,.int .i64 0,.int .i64 0,.int .i64 0] 65)).drew.heap.size (w.alloc (.cells #[.int .i64 0,.int .i64 0,.int .i64 0,.int .i64 0,.int .i64 0,.int .i64 0] 65)).drew w3->Blk w3 w.heap.size 65 IN.zl):=Wd fun w3 hb=>(show Blk (w.alloc (.cells #[.int .i64 0,.int .i64 0,.int .i64 0,.int .i64 0,.int .i64 0,.int .i64 0] 65)).drew w.heap.size 65 IN.zl from Blk.new w 65 IN.zl rfl).keep hb;have t0:=htb.cell (j:=0) rfl;have o0:=hfb.cell (j:=0) rfl;have hg1:=htb.lt;have hg2:=hfb.lt;have n1:¬ K.g=w.heap.size:=by omega
 have n2:¬ β k=w.heap.size:=by omega
 have n3:¬ w.heap.size=K.g:=by omega
 have n4:¬ w.heap.size=β k:=by omega
 have hS:Hid (∀ W,Below w.heap.size w W->(W.cell? ⟨K.g,0,none⟩=some (.pointer (some ⟨K.sg,0,none⟩))/\W.cell? ⟨β k,0,none⟩=some (.int .i64 o.ino)/\Below w.heap.size w W)):=Wd fun W hb'=>⟨(htb.keep hb').cell (j:=0) rfl,(hfb.keep hb').cell (j:=0) rfl,hb'⟩;have hA:Hid (∀ W O,(W.cell? ⟨K.g,0,none⟩=some (.pointer (some ⟨K.sg,0,none⟩))/\W.cell? ⟨β k,0,none⟩=some (.int .i64 o.ino)/\Below w.heap.size w W)->((W.alloc O).cell? ⟨K.g,0,none⟩=some (.pointer (some ⟨K.sg,0,none⟩))/\(W.alloc O).cell? ⟨β k,0,none⟩=some (.int .i64 o.ino)/\Below w.heap.size w (W.alloc O))):=Wd fun W O hh=>hS.out _ (hh.2.2.alloc hh.2.2.size _);have hT:Hid (∀ W (a b c d e f:Int),(W.cell? ⟨K.g,0,none⟩=some (.pointer (some ⟨K.sg,0,none⟩))/\W.cell? ⟨β k,0,none⟩=some (.int .i64 o.ino)/\Below w.heap.size w W)->(((((((W.setCell ⟨w.heap.size,0,none⟩ (.int .i64 a)).setCell ⟨w.heap.size,1,none⟩ (.int .i64 b)).setCell ⟨w.heap.size,2,none⟩ (.int .i64 c)).setCell ⟨w.heap.size,3,none⟩ (.int .i64 d)).setCell ⟨w.heap.size,4,none⟩ (.int .i64 e)).setCell ⟨w.heap.size,5,none⟩ (.int .i64 f)).cell? ⟨K.g,0,none⟩=some (.pointer (some ⟨K.sg,0,none⟩))/\((((((W.setCell ⟨w.heap.size,0,none⟩ (.int .i64 a)).setCell ⟨w.heap.size,1,none⟩ (.int .i64 b)).setCell ⟨w.heap.size,2,none⟩ (.int .i64 c)).setCell ⟨w.heap.size,3,none⟩ (.int .i64 d)).setCell ⟨w.heap.size,4,none⟩ (.int .i64 e)).setCell ⟨w.heap.size,5,none⟩ (.int .i64 f)).cell? ⟨β k,0,none⟩=some (.int .i64 o.ino)/\Below w.heap.size w ((((((W.setCell ⟨w.heap.size,0,none⟩ (.int .i64 a)).setCell ⟨w.heap.size,1,none⟩ (.int .i64 b)).setCell ⟨w.heap.size,2,none⟩ (.int .i64 c)).setCell ⟨w.heap.size,3,none⟩ (.int .i64 d)).setCell ⟨w.heap.size,4,none⟩ (.int .i64 e)).setCell ⟨w.heap.size,5,none⟩ (.int .i64 f)))):=Wd fun W a b c d e f hh=>hS.out _ (IN.six_below hh.2.2 (Nat.le_refl _) a b c d e f);have hD:Hid (∀ W,(W.cell? ⟨K.g,0,none⟩=some (.pointer (some ⟨K.sg,0,none⟩))/\W.cell? ⟨β k,0,none⟩=some (.int .i64 o.ino)/\Below w.heap.size w W)->Below w.heap.size w W):=Wd fun W hh=>hh.2.2;have sA:=Wd (hS.out _ (Below.refl w.heap.size w).drew);have sB:=Wd (hS.out _ ((Below.refl w.heap.size w).alloc (Nat.le_refl _) (.cells #[.int .i64 0,.int .i64 0,.int .i64 0,.int .i64 0,.int .i64 0,.int .i64 0] 65)).drew);clear h ho hx hfb htb hg1 hg2;go_enter func68,ntmps68
 go_wp2_with fail
 go_region_held3 (fun w'=>w'.cell? ⟨K.g,0,none⟩=some (.pointer (some ⟨K.sg,0,none⟩))/\w'.cell? ⟨β k,0,none⟩=some (.int .i64 o.ino)/\Below w.heap.size w w') (with_reducible (first|exact sA.out|exact sB.out|assumption|exact hA.out _ _ (by assumption)|exact hT.out _ _ _ _ _ _ _ (by assumption)))
  (first
   | (go_at_call 33;refine (cS.out _ (by with_reducible (first|exact sA.out|exact sB.out|assumption))).mono ?_;rintro e w3 ⟨rfl,S3,hZ⟩
      try (with_reducible (have hz:=z0.out _ hZ;have r0:=hz.cell (j:=0) rfl;have r1:=hz.cell (j:=1) rfl;have r2:=hz.cell (j:=2) rfl;have r3:=hz.cell (j:=3) rfl;have r4:=hz.cell (j:=4) rfl;have r5:=hz.cell (j:=5) rfl;have fz:=hz.fz))
      clear hZ))
 all_goals
  go_wp2_with fail
  go_ret2
  exact⟨rfl,hD.out _ (by with_reducible assumption)⟩
end
end DC
end Go.Proofs.YtfffibepcdlldaaGreat

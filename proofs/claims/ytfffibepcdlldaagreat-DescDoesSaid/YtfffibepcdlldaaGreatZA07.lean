/- A part. -/
import Derived.Test.YtfffibepcdlldaaGreatZA06
import Derived.Deep.RegionHeld3
import Derived.Test.YtfffibepcdlldaaGreatZA01
set_option linter.unusedVariables false
set_option linter.unusedSimpArgs false
set_option maxRecDepth 100000
set_option maxHeartbeats 64000000
open Go.Proofs.Tryz

namespace Go.Proofs.YtfffibepcdlldaaGreat
open Go.ChangeShapes Go.WideShapes Go.ChangeAt Go.RowKit Go.Maps
namespace IN
structure PS (base:Nat)(w:World)(sg mb:Nat)(M:Int->Option Nat)(I L B k:Nat)(S:Int->Option Nd):Prop where
 pm:PM base w sg mb M (I:Int) (L:Int) ((B:Int)-(tot S I:Int)) S
 fn:Fine I L B k S
 lim:I<=4096/\L<=32768/\B<=16777216
def Out (base sg mb I L B k:Nat)(w:World)(r:Int)(S:Int->Option Nd)(e:Ending)(w':World):Prop:=
 e=.returned (.int .i64 r)/\(∃ M,PS base w' sg mb M I L B k S)/\Keeps base (PT mb) w w'
section
variable {base sg mb I L B k:Nat}{M:Int->Option Nat}{S:Int->Option Nd}{w w':World}
theorem PS.keep (h:PS base w sg mb M I L B k S)(hb:Below w.heap.size w w'):PS base w' sg mb M I L B k S:=⟨h.pm.keep hb,h.fn,h.lim⟩
theorem PS.more (h:PS base w sg mb M I L B k S){k':Nat}(hk:k<=k'):PS base w sg mb M I L B k' S:=⟨h.pm,h.fn.mono hk,h.lim⟩
theorem PS.keeps (h:PS base w sg mb M I L B k S){C:Nat}{T:Nat->Obj->Prop}(hK:Keeps C T w w')(h1:∀ k c s,¬ T k (.cells c 80 s))(h2:∀ k c s,¬ T k (.cells c 143 s))(h3:∀ es c,¬ T mb (.map es c))(h4:∀ k c,¬ T k (.cells c 211 (0,0))):PS base w' sg mb M I L B k S:=⟨h.pm.keeps hK h1 h2 h3 h4,h.fn,h.lim⟩
theorem PS.low (h:PS base w sg mb M I L B k S):base<=w.heap.size:=Nat.le_trans h.pm.ge.1 (Nat.le_of_lt h.pm.box.lt)
theorem Out.same (h:PS base w sg mb M I L B k S){k':Nat}(hk:k<=k')(hb:Below w.heap.size w w')(r:Int):Out base sg mb I L B k' w r S (.returned (.int .i64 r)) w':=
 ⟨rfl,⟨M,(h.keep hb).more hk⟩,Keeps.new hb h.low⟩
theorem PS.nums (h:PS base w sg mb M I L B k S):IS.Nums M (ks S I):=ks_nums h.fn.num h.pm.dom
theorem ask_three (k3:Nat) (r3:Nd->Int) (n:Int) {I L left:Int} (h:PM base w sg mb M I L left S) (hn:IS.I64 n) (e3:∀ w,(callFunc k3 #[.pointer (some ⟨sg,0,none⟩),.int .i64 n]).run prog w=.ok (.enter k3 #[.pointer (some ⟨sg,0,none⟩),.int .i64 n]) w)
 (h3:∀ d,S n=some d->∀ W,Below w.heap.size w W->Calls prog k3 #[.pointer (some ⟨sg,0,none⟩),.int .i64 n] W (Ans (r3 d) W)) :
 Calls prog 52 #[.int .i64 n,.slice (some ⟨w.heap.size,0,none⟩) 3 3] (w.alloc (.cells #[.func (.func 53) #[.pointer (some ⟨sg,0,none⟩)] #[],.func (.func 73) #[.pointer (some ⟨sg,0,none⟩)] #[],.func (.func k3) #[.pointer (some ⟨sg,0,none⟩)] #[]] 42)) fun e w'=>e=.returned (.int .i64 (askR S n r3))/\Below w.heap.size w w':=by
 have hal:=(Below.refl w.heap.size w).alloc (Nat.le_refl _) (.cells #[.func (.func 53) #[.pointer (some ⟨sg,0,none⟩)] #[],.func (.func 73) #[.pointer (some ⟨sg,0,none⟩)] #[],.func (.func k3) #[.pointer (some ⟨sg,0,none⟩)] #[]] 42);have hb:∀ W,Below _ _ W->Below w.heap.size w W:=fun W hW=>hal.trans (hW.mono hal.size);refine (first_three (.pointer (some ⟨sg,0,none⟩)) _ _ k3 0 (if (S n).isSome=true then 0 else 11) (match S n with|none=>0|some d=>r3 d) n w.heap.size _ (chk_blk w [.func (.func 53) #[.pointer (some ⟨sg,0,none⟩)] #[],.func (.func 73) #[.pointer (some ⟨sg,0,none⟩)] #[],.func (.func k3) #[.pointer (some ⟨sg,0,none⟩)] #[]] _ rfl)
  (fun w=>by kernel_rfl) (fun w=>by kernel_rfl) e3 (fun W hW=>made_some _ W (h.keep (hb W hW))) (fun W _ hW=>has_any n W (h.keep (hb W hW)) hn) (fun W _ h2 hW=>?_)).mono ?_
 ·cases hS:S n with
  | none=>rw[hS] at h2;simp at h2
  | some d=>exact h3 d hS W (hb W hW)
 ·rintro e w' ⟨rfl,hb'⟩;refine⟨?_,hb w' hb'⟩
  cases hS:S n with
  | none=>simp[askR,hS,fst]
  | some d=>
    simp only[askR,hS,fst,Option.isSome_some,if_true]
    split <;> simp_all
theorem ask_two (n:Int){I L left:Int}(h:PM base w sg mb M I L left S)(hn:IS.I64 n) :
 Calls prog 52 #[.int .i64 n,.slice (some ⟨w.heap.size,0,none⟩) 2 2] (w.alloc (.cells #[.func (.func 53) #[.pointer (some ⟨sg,0,none⟩)] #[],.func (.func 73) #[.pointer (some ⟨sg,0,none⟩)] #[]] 42)) fun e w'=>e=.returned (.int .i64 (askR S n fun _=>0))/\Below w.heap.size w w':=by
 have hal:=(Below.refl w.heap.size w).alloc (Nat.le_refl _) (.cells #[.func (.func 53) #[.pointer (some ⟨sg,0,none⟩)] #[],.func (.func 73) #[.pointer (some ⟨sg,0,none⟩)] #[]] 42);have hb:∀ W,Below _ _ W->Below w.heap.size w W:=fun W hW=>hal.trans (hW.mono hal.size);refine (first_two (.pointer (some ⟨sg,0,none⟩)) _ _ 0 (if (S n).isSome=true then 0 else 11) n w.heap.size _ (chk_blk w [.func (.func 53) #[.pointer (some ⟨sg,0,none⟩)] #[],.func (.func 73) #[.pointer (some ⟨sg,0,none⟩)] #[]] _ rfl)
  (fun w=>by kernel_rfl) (fun w=>by kernel_rfl) (fun W hW=>made_some _ W (h.keep (hb W hW))) (fun W _ hW=>has_any n W (h.keep (hb W hW)) hn)).mono ?_
 rintro e w' ⟨rfl,hb'⟩;refine⟨?_,hb w' hb'⟩
 cases hS:S n with
 | none=>simp[askR,hS,fst]
 | some d=>simp[askR,hS,fst]
def lkR (L:Int)(S:Int->Option Nd)(n:Int):Int:=askR S n fun d=>if d.links<L then 0 else 18
def lkS (L:Int)(S:Int->Option Nd)(n:Int):Int->Option Nd:=match S n with
 | none=>S
 | some d=>if d.links<L then upd S n (some { d with links:=d.links+1 }) else S
def gone (S:Int->Option Nd)(n:Int):Int->Option Nd:=match S n with
 | none=>S
 | some d=>if d.links=0/\d.opens=0 then upd S n none else S
def ulR (S:Int->Option Nd)(n:Int):Int:=askR S n fun d=>if 0<d.links then 0 else 2
def ulS (S:Int->Option Nd)(n:Int):Int->Option Nd:=match S n with
 | none=>S
 | some d=>if 0<d.links then gone (upd S n (some { d with links:=d.links-1 })) n else S
def opR (S:Int->Option Nd)(n:Int):Int:=askR S n fun _=>0
def opS (S:Int->Option Nd)(n:Int):Int->Option Nd:=match S n with
 | none=>S
 | some d=>upd S n (some { d with opens:=d.opens+1 })
def clR (S:Int->Option Nd)(n:Int):Int:=askR S n fun d=>if 0<d.opens then 0 else 2
def clS (S:Int->Option Nd)(n:Int):Int->Option Nd:=match S n with
 | none=>S
 | some d=>if 0<d.opens then gone (upd S n (some { d with opens:=d.opens-1 })) n else S
theorem tot_same {n:Int}{d d':Nd}(hS:S n=some d)(hf:Fine I L B k S)(hl:d'.l=d.l):tot (upd S n (some d')) I=tot S I:=by
 have hb:=hf.num n (by rw[hS];simp);obtain⟨m,rfl⟩:∃ m:Nat,n=m:=⟨n.toNat,by omega⟩;have:=tot_upd S m I (some d') (by omega) (by omega);rw[hS] at this;simp only[cntOf,hl] at this
 omega
theorem Fine.set {n:Int}{d d':Nd}(hf:Fine I L B k S)(hS:S n=some d){k':Nat}(hk:k<=k')(hl:EM.cnt d'.l=EM.cnt d.l)(hg:Good L k' d'):Fine I L B k' (upd S n (some d')):=by
 have hb:=hf.num n (by rw[hS];simp);obtain⟨m,rfl⟩:∃ m:Nat,n=m:=⟨n.toNat,by omega⟩;refine (hf.mono hk).turn (by omega) (by omega) (fun x hx=>by cases hx;exact hg) ?_;rw[hS];simp only[cntOf,hl];have:=hf.tot
 omega
theorem Link_any (n:Int)(w:World)(h:PS base w sg mb M I L B k S)(hn:IS.I64 n):Calls prog 142 #[.pointer (some ⟨sg,0,none⟩),.int .i64 n] w (Out base sg mb I L B k w (lkR L S n) (lkS L S n)):=by
 have hmf:∀ (fn:Fn) (first cap:Array Value) (w:World),(Instr.makeFunc fn first cap).run prog w=.ok (.func fn first cap) w:=fun _ _ _ _=>rfl;have cA:=ask_three 173 (fun d=>if d.links<(L:Int) then 0 else 18) n h.pm hn (fun w=>by kernel_rfl) (fun d hS W hW=>linkable_any n d W (h.pm.keep hW) hn hS)
 cases hS:S n with
 | none=>
   have e1:lkR L S n=11:=by simp[lkR,askR,hS]
   have e2:lkS L S n=S:=by simp[lkS,hS]
   have e3:(askR S n fun d=>if d.links<(L:Int) then 0 else 18)=11:=e1;rw[e1,e2];rw[e3] at cA;have H:=Wd h;have cA:=Wd cA;clear h e1 e2 e3 hS;go_enter func142,ntmps142
   go_wp2_with fail
   refine cA.out.mono ?_;rintro e w1 ⟨rfl,b1⟩;go_wp2_with fail
   go_ret
   exact Out.same H.out (Nat.le_refl _) b1 11
 | some d=>
   have hg:=h.fn.good n d hS
   by_cases hl:d.links<L
   ·have e1:lkR L S n=0:=by simp[lkR,askR,hS,hl]
    have e2:lkS L S n=upd S n (some { d with links:=d.links+1 }):=by simp[lkS,hS,hl]
    have e3:(askR S n fun d=>if d.links<(L:Int) then 0 else 18)=0:=e1;rw[e1,e2];rw[e3] at cA;have H:=Wd h;have cA:=Wd cA;have hw:IntKind.i64.wrap (d.links+1)=d.links+1:=by rw[IntKind.wrap_i64];have:=hg.links;have:=h.lim;omega
    have HS:=Wd hS;have HG:=Wd hg;clear h e1 e2 e3 hS hg;go_enter func142,ntmps142
    go_wp2_with fail
    refine cA.out.mono ?_;rintro e w1 ⟨rfl,b1⟩;have h1:=H.out.keep b1;have c0:=h1.pm.box.cell (j:=0) rfl;have hlk:=h1.pm.mp.look n hn;obtain⟨g,v,hM,hN,hge,hgs,hgm⟩:=h1.pm.has HS.out;rw[hM] at hlk;simp only[IS.ptr] at hlk;have d1:=hN.1.cell (j:=1) rfl;have f1:=hN.1.fz;obtain⟨p1,p2,p3⟩:=h1.pm.setNode (d':={ d with links:=d.links+1 }) (v':=v) hM HS.out hN.1 hN.2 1 (.int .i64 (d.links+1)) rfl;have b1':=Wd b1;have p1:=Wd p1;have p3:=Wd p3;have hlim:=Wd h1.lim;have hfn:=Wd h1.fn;have hlow:=Wd H.out.low;clear h1 hN hM p2 b1;go_wp2_with fail
    go_ret
    refine⟨rfl,⟨M,?_,hfn.out.set HS.out (Nat.le_refl _) rfl ⟨HG.out.kind,⟨by have:=HG.out.links.1;simp;omega,by simp;omega⟩,HG.out.opens,by have:=HG.out.some;simp;omega,HG.out.size,HG.out.ok,HG.out.fin,HG.out.dir⟩,hlim.out⟩,(Keeps.new b1'.out hlow.out).trans p3.out⟩;rw[tot_same (d':={ d with links:=d.links+1 }) HS.out hfn.out rfl];exact p1.out
   ·have e1:lkR L S n=18:=by simp[lkR,askR,hS,hl]
    have e2:lkS L S n=S:=by simp[lkS,hS,hl]
    have e3:(askR S n fun d=>if d.links<(L:Int) then 0 else 18)=18:=e1;rw[e1,e2];rw[e3] at cA;have H:=Wd h;have cA:=Wd cA;clear h e1 e2 e3 hS;go_enter func142,ntmps142
    go_wp2_with fail
    refine cA.out.mono ?_;rintro e w1 ⟨rfl,b1⟩;go_wp2_with fail
    go_ret
    exact Out.same H.out (Nat.le_refl _) b1 18
end
end IN
namespace IN
theorem ok_fit:∀ {b:Int} {l:List (Int×ByteArray)},0<=b->EM.ok b l=true->XFit l
 | _,[],_,_=>fun x hx=>by simp at hx
 | b,y :: r,hb,h=>by
   obtain⟨h1,h2,h3,h4⟩:=EM.ok_cons.1 h;have hf:EM.fin y=y.1+y.2.size:=rfl;intro x hx;rcases List.mem_cons.1 hx with e|hx
   ·subst e;exact⟨⟨by omega,by omega⟩,by unfold maxLen;omega⟩
   ·exact ok_fit (by omega) h4 x hx
theorem ok_cnt {l:List (Int×ByteArray)}(h:EM.ok 0 l=true):(EM.cnt l:Int)<=1048576:=by
 have:=(EM.wk_cnt (EM.ok_wk h) (by decide)).1
 omega
theorem stored_any (v:Value)(l:List (Int×ByteArray))(w:World)(h:XE w v l)(hok:EM.ok 0 l=true) :
 Calls prog 105 #[v] w fun e w'=>e=.returned (.int .i64 (EM.cnt l:Int))/\Below w.heap.size w w':=by
 obtain⟨ao,n,c,rfl,hx,-⟩:=h;have cS:=Stored_any ao n c l w hx (ok_fit (Int.le_refl _) hok);have e1:stV l=(EM.cnt l:Int):=by unfold stV;rw[if_pos hok]
 rw[e1] at cS;have cS:=Wd cS;clear hx e1;go_enter func105,ntmps105
 go_wp2_with fail
 refine cS.out.mono ?_;rintro e w1 ⟨rfl,b1⟩;go_wp2_with fail
 go_ret
 exact⟨rfl,b1⟩
section
variable {base sg mb:Nat}{M:Int->Option Nat}{I L left:Int}{S:Int->Option Nd}
theorem replace_any (n:Int)(g:Nat)(d:Nd)(v v':Value)(l':List (Int×ByteArray))(w:World)(h:PM base w sg mb M I L left S)(hM:M n=some g)(hS:S n=some d)(hN:NB w g d v)(hx:XE w v' l')(h1:EM.ok 0 d.l=true)(h2:EM.ok 0 l'=true)(hl:0<=left/\left<=16777216) :
 Calls prog 115 #[.pointer (some ⟨sg,0,none⟩),.pointer (some ⟨g,0,none⟩),v'] w fun e w'=>
  (left<(EM.cnt l':Int)-(EM.cnt d.l:Int)/\e=.returned (.int .i64 21)/\Below w.heap.size w w') ∨
  ((EM.cnt l':Int)-(EM.cnt d.l:Int)<=left/\e=.returned (.int .i64 0)/\PM base w' sg mb M I L (left-((EM.cnt l':Int)-(EM.cnt d.l:Int))) (upd S n (some { d with l:=l' }))/\NB w' g { d with l:=l' } v'/\Keeps base (PT mb) w w'):=by
 obtain⟨ao',n',c',rfl,hx1,hx2⟩:=hx;have hx:XE w (.slice ao' n' c') l':=⟨ao',n',c',rfl,hx1,hx2⟩;clear hx1 hx2;have d4:=hN.1.cell (j:=4) rfl;have b1:=ok_cnt h1;have b2:=ok_cnt h2;have hlow:base<=w.heap.size:=Nat.le_trans h.ge.1 (Nat.le_of_lt h.box.lt);have cA:∀ W,Below w.heap.size w W->Calls prog 105 #[(.slice ao' n' c')] W fun e w'=>e=.returned (.int .i64 (EM.cnt l':Int))/\w'.cell? ⟨g,4,none⟩=some v/\Below w.heap.size w w':=fun W hW=>
  (stored_any (.slice ao' n' c') l' W (hx.keep hW) h2).mono fun e w' hh=>⟨hh.1,(hN.1.keep (hW.trans (hh.2.mono hW.size))).cell (j:=4) rfl,hW.trans (hh.2.mono hW.size)⟩
 have cB:∀ W,Below w.heap.size w W->Calls prog 105 #[v] W fun e w'=>e=.returned (.int .i64 (EM.cnt d.l:Int))/\w'.cell? ⟨g,4,none⟩=some v/\Below w.heap.size w w':=fun W hW=>
  (stored_any v d.l W (hN.2.keep hW) h1).mono fun e w' hh=>⟨hh.1,(hN.1.keep (hW.trans (hh.2.mono hW.size))).cell (j:=4) rfl,hW.trans (hh.2.mono hW.size)⟩
 replace cA:=Wd cA;replace cB:=Wd cB;obtain⟨A,hA⟩:∃ A,EM.cnt l'=A:=⟨_,rfl⟩;obtain⟨D,hD⟩:∃ D,EM.cnt d.l=D:=⟨_,rfl⟩;rw[hA] at b2 cA ⊢;rw[hD] at b1 cB ⊢;have H:=Wd h;have HN:=Wd hN;have HX:=Wd hx;clear hA hD h hN hx h1 h2;have bel:=Below.refl w.heap.size w;have hw0:IntKind.i64.wrap ((A:Int)-(D:Int))=(A:Int)-(D:Int):=by rw[IntKind.wrap_i64];omega
 go_enter func115,ntmps115
 go_wp2_with fail
 refine wp_region_held_drew (S:=(fun w'=>w'.cell? ⟨g,4,none⟩=some v/\Below w.heap.size w w')) (by kernel_rfl) ⟨d4,Below.drew bel⟩ (fun hHeld=>?_);refine wt (i:=0) (v:=(.slice ao' n' c')) hHeld ?_;refine wt (i:=2) (v:=.pointer (some ⟨g,0,none⟩)) hHeld ?_;refine wt (i:=3) (v:=.pointer (some ⟨g,0,none⟩)) hHeld ?_;refine wt (i:=4) (v:=.pointer (some ⟨g,4,none⟩)) hHeld ?_;refine wt (i:=5) (v:=v) hHeld ?_;refine wpAnyH_ready (rs:=[1]) (by kernel_rfl) (by simp) ?_;refine AllReadyH.cons rfl (fun K hK=>?_) AllReadyH.nil;go_simp
 refine (cA.out _ (Below.drew bel)).mono ?_;rintro e w2 ⟨rfl,hc2,hb2⟩;refine hK.out _ _ ⟨hc2,hb2⟩ (fun hHeld2=>?_);clear hK K
 try simp only[Act.put,List.setIfInBounds_toArray,List.set_cons_zero,List.set_cons_succ,List.getElem_toArray,List.getElem_cons_zero,List.getElem_cons_succ]
 refine wpAnyH_ready (rs:=[6]) (by kernel_rfl) (by simp) ?_;refine AllReadyH.cons rfl (fun K hK=>?_) AllReadyH.nil;go_simp
 refine (cB.out _ hb2).mono ?_;rintro e w3 ⟨rfl,hc3,hb3⟩;refine hK.out _ _ ⟨hc3,hb3⟩ (fun hHeld3=>?_);clear hK K
 try simp only[Act.put,List.setIfInBounds_toArray,List.set_cons_zero,List.set_cons_succ,List.getElem_toArray,List.getElem_cons_zero,List.getElem_cons_succ]
 refine wt (i:=7) (v:=.int .i64 ((A:Int)-(D:Int))) hHeld3 ?_;refine wt (i:=8) (v:=.int .i64 ((A:Int)-(D:Int))) hHeld3 ?_;refine wpAnyH_done (by kernel_rfl) ?_ _;have h3:=H.out.keep hb3;have hN3:NB w3 g d v:=⟨HN.out.1.keep hb3,HN.out.2.keep hb3⟩;have hX3:=HX.out.keep hb3;have c3:=h3.box.cell (j:=3) rfl;have fs:=h3.box.fz;have fg:=hN3.1.fz;have hgs:g≠sg:=blk_ne hN3.1 h3.box (by decide)
 by_cases hlt:left<(A:Int)-(D:Int)
 ·replace hb3:=Wd hb3;clear h3 hN3 hX3 hb2 hc2 hc3;go_wp2_with fail
  go_ret
  exact .inl ⟨hlt,rfl,hb3.out⟩
 ·have hle:Hid ((A:Int)-(D:Int)<=left):=Wd (by omega);have hw:IntKind.i64.wrap (left-((A:Int)-(D:Int)))=left-((A:Int)-(D:Int)):=by rw[IntKind.wrap_i64];omega
  obtain⟨q1,q2⟩:=h3.setLeft (left-((A:Int)-(D:Int)));have hN4:Blk (w3.setCell ⟨sg,3,none⟩ (.int .i64 (left-((A:Int)-(D:Int))))) g 143 (ncl d v):=hN3.1.far (p:=⟨sg,3,none⟩) hgs _;obtain⟨r1,r2,r3⟩:=q1.setNode (d':={ d with l:=l' }) (v':=(.slice ao' n' c')) hM hS hN4 (hX3.keeps q2 (by simp[PT])) 4 (.slice ao' n' c') rfl;have K3:=Wd ((Keeps.new (T:=PT mb) hb3 hlow).trans (q2.trans r3));have r1:=Wd r1;have r2:=Wd r2;replace hb3:=Wd hb3;clear h3 hN3 hX3 hb2 hc2 q1 q2 hN4 r3;have hgs2:¬ sg=g:=fun e=>hgs e.symm;go_wp2_with fail
  go_ret
  exact .inr ⟨rfl,r1.out,r2.out,K3.out⟩
theorem wpList_delete_n {w:World} {ops:Array Oper} {rest:List Oper} {o:Oper} {a:Act} {Q:Exit->Act->World->Prop} (hg:o.guard=none) (m x:Operand) (hop:o.op=Op.call { callee:=Callee.builtin Builtin.delete,args:=#[m,x],argTypes:=#[78,3] })
 (b:Nat) (f:Int) (M:Int->Option Nat) (hm:a.eval m=.map (some b)) (hx:a.eval x=.int .i64 f) (h:IS.MB w b M) (hf:IS.I64 f)
 (hK:∀ w',IS.MB w' b (IS.upd M f none)->w.grownBy w' (some b)->w'.heap.size=w.heap.size->wpList prog ops Q rest (a.put o.dst (.tuple #[])) w'):wpList prog ops Q (o :: rest) a w:=by
 refine wpList_plain hg fun K' hK'=>?_;obtain⟨w',hrun,r1,r2,r3⟩:=h.del f hf o.type;unfold Oper.wp;simp[execOp,hop,resolve,invoke,builtin,hm,hx,hrun,Result.andThen];exact hK' _ _ (hK w' r1 r2 r3)
theorem settle_any (n:Int)(d:Nd)(w:World)(h:PM base w sg mb M I L left S)(hn:IS.I64 n)(hS:S n=some d)(hok:EM.ok 0 d.l=true)(hl:0<=left/\left<=16777216) :
 Calls prog 152 #[.pointer (some ⟨sg,0,none⟩),.int .i64 n] w fun e w'=>e=.returned (.tuple #[])/\(∃ M',PM base w' sg mb M' I L (if d.links=0/\d.opens=0 then left+(EM.cnt d.l:Int) else left) (gone S n))/\Keeps base (PT mb) w w':=by
 have c0:=h.box.cell (j:=0) rfl;have hlk:=h.mp.look n hn;obtain⟨g,v,hM,hN,hge,hgs,hgm⟩:=h.has hS;rw[hM] at hlk;simp only[IS.ptr] at hlk;have d1:=hN.1.cell (j:=1) rfl;have d2:=hN.1.cell (j:=2) rfl;have cR:=Wd (replace_any n g d v (.slice none 0 0) [] w h hM hS hN (XE.nil w) hok rfl hl);have hb:=ok_cnt hok;have hstay:¬ (d.links=0/\d.opens=0)->gone S n=S:=fun hz=>by unfold gone;rw[hS];simp only;rw[if_neg hz]
 have hgo:d.links=0/\d.opens=0->gone S n=upd S n none:=fun hz=>by unfold gone;rw[hS];simp only;rw[if_pos hz]
 have H:=Wd h;have hM:=Wd hM;have hS:=Wd hS;have hstay:=Wd hstay;have hgo:=Wd hgo;clear h hN
 by_cases hz:d.links=0/\d.opens=0
 ·rw[if_pos hz,hgo.out hz];obtain⟨hz1,hz2⟩:=hz;rw[hz1] at d1;rw[hz2] at d2;go_enter func152,ntmps152
  go_wp2_with fail
  refine cR.out.mono ?_;rintro e w1 (⟨h1,rfl,b1⟩|⟨h1,rfl,h2,h3,h4⟩)
  ·rw[EM.cnt_nil] at h1;omega
  ·have e0:left-(((EM.cnt ([]:List (Int×ByteArray)):Nat):Int)-(EM.cnt d.l:Int))=left+(EM.cnt d.l:Int):=by rw[EM.cnt_nil];omega
   rw[e0] at h2;have k0:=h2.box.cell (j:=0) rfl;have hmb:=Wd h2.mp;have h2:=Wd h2;have h4:=Wd h4;clear h1 h3 e0 hb;go_wp2_with (first|(refine wpList_delete_n rfl _ _ rfl mb n M rfl rfl hmb.out hn ?_;intro w2 hm2 hg2 hs2))
   have hu:∀ m,IS.upd M n none m=none↔upd S n none m=none:=fun m=>by
    by_cases e:m=n
    ·subst e;rw[upd_at];simp[IS.upd]
    ·rw[upd_ne e];unfold IS.upd;rw[if_neg e];exact H.out.dom m
   obtain⟨q1,q2⟩:=h2.out.turn hm2 hg2 (upd S n none) hu (fun m g' d' hM' hS'=>by
    have e:m≠n:=fun e=>by subst e;rw[upd_at] at hS';cases hS'
    unfold IS.upd at hM';rw[if_neg e] at hM';rw[upd_ne e] at hS';exact .inl ⟨hM',by rw[upd_ne e];exact hS'⟩) (fun m m' g' hA hB=>by
    unfold IS.upd at hA hB
    split at hA
    ·cases hA
    ·split at hB
     ·cases hB
     ·exact H.out.inj m m' g' hA hB)
   have q1:=Wd q1;have q2:=Wd (h4.out.trans q2);clear hm2 hg2 hu;go_wp2_with fail
   go_end0
   exact⟨rfl,⟨_,q1.out⟩,q2.out⟩
 ·rw[if_neg hz,hstay.out hz];have hz':(d.links=0/\¬ d.opens=0)∨¬ d.links=0:=by omega
  rcases hz' with ⟨hz1,hz2⟩|hz1
  ·rw[hz1] at d1;clear cR hz;go_enter func152,ntmps152
   go_wp2_with fail
   go_end0
   exact⟨rfl,⟨M,H.out⟩,Keeps.refl _ _ _⟩
  ·clear cR hz;go_enter func152,ntmps152
   go_wp2_with fail
   go_end0
   exact⟨rfl,⟨M,H.out⟩,Keeps.refl _ _ _⟩
end
end IN
namespace IN
section
variable {base sg mb I L B k:Nat}{M:Int->Option Nat}{S:Int->Option Nd}
theorem fine_gone {n:Int}{d d1:Nd}(hf:Fine I L B k S)(hS:S n=some d){k':Nat}(hk:k<=k')(hl:d1.l=d.l)(h1:d1.kind=d.kind)(h2:0<=d1.links/\d1.links<=L)(h3:0<=d1.opens/\d1.opens<=k')(h4:d1.size=d.size) :
 Fine I L B k' (gone (upd S n (some d1)) n)/\(if d1.links=0/\d1.opens=0 then ((B:Int)-(tot S I:Int))+(EM.cnt d1.l:Int) else (B:Int)-(tot S I:Int))=(B:Int)-(tot (gone (upd S n (some d1)) n) I:Int):=by
 have hb:=hf.num n (by rw[hS];simp);obtain⟨m,rfl⟩:∃ m:Nat,n=m:=⟨n.toNat,by omega⟩;have hg:=hf.good m d hS;have ht:=hf.tot
 by_cases hz:d1.links=0/\d1.opens=0
 ·have e:gone (upd S (m:Int) (some d1)) (m:Int)=upd S (m:Int) none:=by
   unfold gone;rw[upd_at];simp only;rw[if_pos hz,upd_upd]
  rw[e,if_pos hz];have h:=tot_upd S m I none (by omega) (by omega);rw[hS] at h;simp only[cntOf] at h;rw[hl];refine⟨(hf.mono hk).turn (by omega) (by omega) (fun x hx=>by cases hx) (by simp only[cntOf];omega),by omega⟩
 ·have e:gone (upd S (m:Int) (some d1)) (m:Int)=upd S (m:Int) (some d1):=by
   unfold gone;rw[upd_at];simp only;rw[if_neg hz]
  rw[e,if_neg hz];refine⟨hf.set hS hk (by rw[hl]) ⟨by rw[h1];exact hg.kind,h2,h3,by omega,by rw[h4];exact hg.size,by rw[hl];exact hg.ok,by rw[hl,h4];exact hg.fin,by rw[h1,h4,hl];exact hg.dir⟩,?_⟩;rw[tot_same hS hf hl]
theorem Unlink_any (n:Int)(w:World)(h:PS base w sg mb M I L B k S)(hn:IS.I64 n)(hk:k<1000000):Calls prog 168 #[.pointer (some ⟨sg,0,none⟩),.int .i64 n] w (Out base sg mb I L B k w (ulR S n) (ulS S n)):=by
 have hmf:∀ (fn:Fn) (first cap:Array Value) (w:World),(Instr.makeFunc fn first cap).run prog w=.ok (.func fn first cap) w:=fun _ _ _ _=>rfl;have cA:=ask_three 188 (fun d=>if 0<d.links then 0 else 2) n h.pm hn (fun w=>by kernel_rfl) (fun d hS W hW=>linked_any n d W (h.pm.keep hW) hn hS)
 cases hS:S n with
 | none=>
   have e1:ulR S n=11:=by simp[ulR,askR,hS]
   have e2:ulS S n=S:=by simp[ulS,hS]
   have e3:(askR S n fun d=>if 0<d.links then 0 else 2)=11:=e1;rw[e1,e2];rw[e3] at cA;have H:=Wd h;have cA:=Wd cA;clear h e1 e2 e3 hS;go_enter func168,ntmps168
   go_wp2_with fail
   refine cA.out.mono ?_;rintro e w1 ⟨rfl,b1⟩;go_wp2_with fail
   go_ret
   exact Out.same H.out (Nat.le_refl _) b1 11
 | some d=>
   have hg:=h.fn.good n d hS
   by_cases hl:0<d.links
   ·have e1:ulR S n=0:=by simp[ulR,askR,hS,hl]
    have e2:ulS S n=gone (upd S n (some { d with links:=d.links-1 })) n:=by simp[ulS,hS,hl]
    have e3:(askR S n fun d=>if 0<d.links then 0 else 2)=0:=e1;rw[e1,e2];rw[e3] at cA;have H:=Wd h;have cA:=Wd cA;have hw:IntKind.i64.wrap (d.links-1)=d.links-1:=by rw[IntKind.wrap_i64];have:=hg.links;have:=hg.opens;have:=h.lim;omega
    have HS:=Wd hS;have HG:=Wd hg;clear h e1 e2 e3 hS hg;go_enter func168,ntmps168
    go_wp2_with fail
    refine cA.out.mono ?_;rintro e w1 ⟨rfl,b1⟩;have h1:=H.out.keep b1;have c0:=h1.pm.box.cell (j:=0) rfl;have hlk:=h1.pm.mp.look n hn;obtain⟨g,v,hM,hN,hge,hgs,hgm⟩:=h1.pm.has HS.out;rw[hM] at hlk;simp only[IS.ptr] at hlk;have d1:=hN.1.cell (j:=1) rfl;have f1:=hN.1.fz;obtain⟨p1,p2,p3⟩:=h1.pm.setNode (d':={ d with links:=d.links-1 }) (v':=v) hM HS.out hN.1 hN.2 1 (.int .i64 (d.links-1)) rfl;have ht:=h1.fn.tot;have hB:=h1.lim.2.2;have cT:=Wd (settle_any n { d with links:=d.links-1 } _ p1 hn (upd_at _ _ _) HG.out.ok ⟨by omega,by omega⟩);have F:=Wd (fine_gone (d1:={ d with links:=d.links-1 }) h1.fn HS.out (Nat.le_refl _) rfl rfl ⟨by have:=HG.out.links;simp;omega,by have:=HG.out.links;simp;omega⟩ ⟨by have:=HG.out.opens;simp;omega,by have:=HG.out.opens;simp;omega⟩ rfl);have b1':=Wd b1;have p1:=Wd p1;have p3:=Wd p3;have hlim:=Wd h1.lim;have hfn:=Wd h1.fn;have hlow:=Wd H.out.low;clear h1 hN hM p2 b1 ht hB;go_wp2_with fail
    refine cT.out.mono ?_;rintro e w2 ⟨rfl,⟨M2,q1⟩,q2⟩;rw[F.out.2] at q1;have q1:=Wd q1;have q2:=Wd q2;clear cT;go_wp2_with fail
    go_ret
    exact⟨rfl,⟨M2,q1.out,F.out.1,hlim.out⟩,(Keeps.new b1'.out hlow.out).trans (p3.out.trans q2.out)⟩
   ·have e1:ulR S n=2:=by simp[ulR,askR,hS,hl]
    have e2:ulS S n=S:=by simp[ulS,hS,hl]
    have e3:(askR S n fun d=>if 0<d.links then 0 else 2)=2:=e1;rw[e1,e2];rw[e3] at cA;have H:=Wd h;have cA:=Wd cA;clear h e1 e2 e3 hS;go_enter func168,ntmps168
    go_wp2_with fail
    refine cA.out.mono ?_;rintro e w1 ⟨rfl,b1⟩;go_wp2_with fail
    go_ret
    exact Out.same H.out (Nat.le_refl _) b1 2
theorem Open_any (n:Int)(w:World)(h:PS base w sg mb M I L B k S)(hn:IS.I64 n)(hk:k<1000000):Calls prog 62 #[.pointer (some ⟨sg,0,none⟩),.int .i64 n] w (Out base sg mb I L B (k+1) w (opR S n) (opS S n)):=by
 have hmf:∀ (fn:Fn) (first cap:Array Value) (w:World),(Instr.makeFunc fn first cap).run prog w=.ok (.func fn first cap) w:=fun _ _ _ _=>rfl;have cA:=ask_two n h.pm hn
 cases hS:S n with
 | none=>
   have e1:opR S n=11:=by simp[opR,askR,hS]
   have e2:opS S n=S:=by simp[opS,hS]
   have e3:(askR S n fun _=>0)=11:=e1;rw[e1,e2];rw[e3] at cA;have H:=Wd h;have cA:=Wd cA;clear h e1 e2 e3 hS;go_enter func62,ntmps62
   go_wp2_with fail
   refine cA.out.mono ?_;rintro e w1 ⟨rfl,b1⟩;go_wp2_with fail
   go_ret
   exact Out.same H.out (Nat.le_succ _) b1 11
 | some d=>
   have hg:=h.fn.good n d hS;have e1:opR S n=0:=by simp[opR,askR,hS]
   have e2:opS S n=upd S n (some { d with opens:=d.opens+1 }):=by simp[opS,hS]
   have e3:(askR S n fun _=>0)=0:=e1;rw[e1,e2];rw[e3] at cA;have H:=Wd h;have cA:=Wd cA;have hw:IntKind.i64.wrap (d.opens+1)=d.opens+1:=by rw[IntKind.wrap_i64];have:=hg.links;have:=hg.opens;have:=h.lim;omega
   have HS:=Wd hS;have HG:=Wd hg;clear h e1 e2 e3 hS hg;go_enter func62,ntmps62
   go_wp2_with fail
   refine cA.out.mono ?_;rintro e w1 ⟨rfl,b1⟩;have h1:=H.out.keep b1;have c0:=h1.pm.box.cell (j:=0) rfl;have hlk:=h1.pm.mp.look n hn;obtain⟨g,v,hM,hN,hge,hgs,hgm⟩:=h1.pm.has HS.out;rw[hM] at hlk;simp only[IS.ptr] at hlk;have d1:=hN.1.cell (j:=2) rfl;have f1:=hN.1.fz;obtain⟨p1,p2,p3⟩:=h1.pm.setNode (d':={ d with opens:=d.opens+1 }) (v':=v) hM HS.out hN.1 hN.2 2 (.int .i64 (d.opens+1)) rfl;have b1':=Wd b1;have p1:=Wd p1;have p3:=Wd p3;have hlim:=Wd h1.lim;have hfn:=Wd h1.fn;have hlow:=Wd H.out.low;clear h1 hN hM p2 b1;go_wp2_with fail
   go_ret
   refine⟨rfl,⟨M,?_,hfn.out.set HS.out (Nat.le_succ _) rfl ⟨HG.out.kind,by simpa using HG.out.links,⟨by have:=HG.out.opens;simp;omega,by have:=HG.out.opens;simp;omega⟩,by have:=HG.out.some;simp;omega,HG.out.size,HG.out.ok,HG.out.fin,HG.out.dir⟩,hlim.out⟩,(Keeps.new b1'.out hlow.out).trans p3.out⟩;rw[tot_same (d':={ d with opens:=d.opens+1 }) HS.out hfn.out rfl];exact p1.out
theorem Close_any (n:Int)(w:World)(h:PS base w sg mb M I L B k S)(hn:IS.I64 n)(hk:k<1000000):Calls prog 111 #[.pointer (some ⟨sg,0,none⟩),.int .i64 n] w (Out base sg mb I L B k w (clR S n) (clS S n)):=by
 have hmf:∀ (fn:Fn) (first cap:Array Value) (w:World),(Instr.makeFunc fn first cap).run prog w=.ok (.func fn first cap) w:=fun _ _ _ _=>rfl;have cA:=ask_three 151 (fun d=>if 0<d.opens then 0 else 2) n h.pm hn (fun w=>by kernel_rfl) (fun d hS W hW=>opened_any n d W (h.pm.keep hW) hn hS)
 cases hS:S n with
 | none=>
   have e1:clR S n=11:=by simp[clR,askR,hS]
   have e2:clS S n=S:=by simp[clS,hS]
   have e3:(askR S n fun d=>if 0<d.opens then 0 else 2)=11:=e1;rw[e1,e2];rw[e3] at cA;have H:=Wd h;have cA:=Wd cA;clear h e1 e2 e3 hS;go_enter func111,ntmps111
   go_wp2_with fail
   refine cA.out.mono ?_;rintro e w1 ⟨rfl,b1⟩;go_wp2_with fail
   go_ret
   exact Out.same H.out (Nat.le_refl _) b1 11
 | some d=>
   have hg:=h.fn.good n d hS
   by_cases hl:0<d.opens
   ·have e1:clR S n=0:=by simp[clR,askR,hS,hl]
    have e2:clS S n=gone (upd S n (some { d with opens:=d.opens-1 })) n:=by simp[clS,hS,hl]
    have e3:(askR S n fun d=>if 0<d.opens then 0 else 2)=0:=e1;rw[e1,e2];rw[e3] at cA;have H:=Wd h;have cA:=Wd cA;have hw:IntKind.i64.wrap (d.opens-1)=d.opens-1:=by rw[IntKind.wrap_i64];have:=hg.links;have:=hg.opens;have:=h.lim;omega
    have HS:=Wd hS;have HG:=Wd hg;clear h e1 e2 e3 hS hg;go_enter func111,ntmps111
    go_wp2_with fail
    refine cA.out.mono ?_;rintro e w1 ⟨rfl,b1⟩;have h1:=H.out.keep b1;have c0:=h1.pm.box.cell (j:=0) rfl;have hlk:=h1.pm.mp.look n hn;obtain⟨g,v,hM,hN,hge,hgs,hgm⟩:=h1.pm.has HS.out;rw[hM] at hlk;simp only[IS.ptr] at hlk;have d1:=hN.1.cell (j:=2) rfl;have f1:=hN.1.fz;obtain⟨p1,p2,p3⟩:=h1.pm.setNode (d':={ d with opens:=d.opens-1 }) (v':=v) hM HS.out hN.1 hN.2 2 (.int .i64 (d.opens-1)) rfl;have ht:=h1.fn.tot;have hB:=h1.lim.2.2;have cT:=Wd (settle_any n { d with opens:=d.opens-1 } _ p1 hn (upd_at _ _ _) HG.out.ok ⟨by omega,by omega⟩);have F:=Wd (fine_gone (d1:={ d with opens:=d.opens-1 }) h1.fn HS.out (Nat.le_refl _) rfl rfl ⟨by have:=HG.out.links;simp;omega,by have:=HG.out.links;simp;omega⟩ ⟨by have:=HG.out.opens;simp;omega,by have:=HG.out.opens;simp;omega⟩ rfl);have b1':=Wd b1;have p1:=Wd p1;have p3:=Wd p3;have hlim:=Wd h1.lim;have hfn:=Wd h1.fn;have hlow:=Wd H.out.low;clear h1 hN hM p2 b1 ht hB;go_wp2_with fail
    refine cT.out.mono ?_;rintro e w2 ⟨rfl,⟨M2,q1⟩,q2⟩;rw[F.out.2] at q1;have q1:=Wd q1;have q2:=Wd q2;clear cT;go_wp2_with fail
    go_ret
    exact⟨rfl,⟨M2,q1.out,F.out.1,hlim.out⟩,(Keeps.new b1'.out hlow.out).trans (p3.out.trans q2.out)⟩
   ·have e1:clR S n=2:=by simp[clR,askR,hS,hl]
    have e2:clS S n=S:=by simp[clS,hS,hl]
    have e3:(askR S n fun d=>if 0<d.opens then 0 else 2)=2:=e1;rw[e1,e2];rw[e3] at cA;have H:=Wd h;have cA:=Wd cA;clear h e1 e2 e3 hS;go_enter func111,ntmps111
    go_wp2_with fail
    refine cA.out.mono ?_;rintro e w1 ⟨rfl,b1⟩;go_wp2_with fail
    go_ret
    exact Out.same H.out (Nat.le_refl _) b1 2
end
end IN
namespace IN
def stl (n:Int)(d:Nd):List Value:=[.int .i64 n,.int .i64 d.kind,.int .i64 d.links,.int .i64 d.opens,.int .i64 d.size,.int .i64 (EM.cnt d.l:Int)]
def zl:List Value:=[.int .i64 0,.int .i64 0,.int .i64 0,.int .i64 0,.int .i64 0,.int .i64 0]
def six (a b c d e f:Int):List Value:=[.int .i64 a,.int .i64 b,.int .i64 c,.int .i64 d,.int .i64 e,.int .i64 f]
theorem res_one {fn:Func}{r:Tmp}(hres:fn.results=#[.cell r 65])(tmps:Array Value)(w:World){g:Nat}{a b c d e f:Int}(hr:tmps.getD r undef=.pointer (some ⟨g,0,none⟩))(hp:Blk w g 65 (six a b c d e f)) :
 (results fn tmps).run prog w=.ok (.agg (six a b c d e f).toArray) w:=by
 have c0:=hp.cell (j:=0) rfl;have c1:=hp.cell (j:=1) rfl;have c2:=hp.cell (j:=2) rfl;have c3:=hp.cell (j:=3) rfl;have c4:=hp.cell (j:=4) rfl;have c5:=hp.cell (j:=5) rfl;rw[Array.getD_eq_getD_getElem?] at hr;simp[results,hres,go_sem,hr,c0,c1,c2,c3,c4,c5,six]
theorem res_two {fn:Func}{r t:Tmp}(hres:fn.results=#[.cell r 65,.tmp t])(tmps:Array Value)(w:World){g:Nat}{a b c d e f:Int}(hr:tmps.getD r undef=.pointer (some ⟨g,0,none⟩))(hp:Blk w g 65 (six a b c d e f)) :
 (results fn tmps).run prog w=.ok (.tuple #[.agg (six a b c d e f).toArray,tmps.getD t undef]) w:=by
 have c0:=hp.cell (j:=0) rfl;have c1:=hp.cell (j:=1) rfl;have c2:=hp.cell (j:=2) rfl;have c3:=hp.cell (j:=3) rfl;have c4:=hp.cell (j:=4) rfl;have c5:=hp.cell (j:=5) rfl;rw[Array.getD_eq_getD_getElem?] at hr;simp[results,hres,go_sem,hr,c0,c1,c2,c3,c4,c5,six]
def six_set (w:World)(r:Nat)(a b c d e f:Int):World:=(((((w.setCell ⟨r,0,none⟩ (.int .i64 a)).setCell ⟨r,1,none⟩ (.int .i64 b)).setCell ⟨r,2,none⟩ (.int .i64 c)).setCell ⟨r,3,none⟩ (.int .i64 d)).setCell ⟨r,4,none⟩ (.int .i64 e)).setCell ⟨r,5,none⟩ (.int .i64 f)
theorem six_blk {w:World}{r:Nat}{x0 x1 x2 x3 x4 x5:Value}(h:Blk w r 65 [x0,x1,x2,x3,x4,x5])(a b c d e f:Int):Blk (six_set w r a b c d e f) r 65 (six a b c d e f):=
 (((((h.set 0 (.int .i64 a)).set 1 (.int .i64 b)).set 2 (.int .i64 c)).set 3 (.int .i64 d)).set 4 (.int .i64 e)).set 5 (.int .i64 f)
theorem six_below {w0 w:World}{r B:Nat}(h:Below B w0 w)(hr:B<=r)(a b c d e f:Int):Below B w0 (six_set w r a b c d e f):=
 (((((h.setCell (p:=⟨r,0,none⟩) hr _).setCell (p:=⟨r,1,none⟩) hr _).setCell (p:=⟨r,2,none⟩) hr _).setCell (p:=⟨r,3,none⟩) hr _).setCell (p:=⟨r,4,none⟩) hr _).setCell (p:=⟨r,5,none⟩) hr _
section
variable {base sg mb:Nat}{M:Int->Option Nat}{S:Int->Option Nd}
theorem stat_any (n:Int)(d:Nd)(w:World){I L left:Int}(h:PM base w sg mb M I L left S)(hn:IS.I64 n)(hS:S n=some d)(hok:EM.ok 0 d.l=true) :
 Calls prog 56 #[.pointer (some ⟨sg,0,none⟩),.int .i64 n] w fun e w'=>e=.returned (.agg (stl n d).toArray)/\Below w.heap.size w w':=by
 obtain⟨g,v,hM,hN,-⟩:=h.has hS;have hlt:=hN.1.lt;obtain⟨W0,hW0⟩:∃ W0,w.alloc (.cells #[.int .i64 0,.int .i64 0,.int .i64 0,.int .i64 0,.int .i64 0,.int .i64 0] 65)=W0:=⟨_,rfl⟩;have hb0:Below w.heap.size w W0:=by rw[<-hW0];exact (Below.refl _ _).alloc (Nat.le_refl _) _
 have hr0:Blk W0 w.heap.size 65 zl:=by rw[<-hW0];exact Blk.new w _ zl rfl
 have h0:=h.keep hb0;have c0:=h0.box.cell (j:=0) rfl;have hlk:=h0.mp.look n hn;rw[hM] at hlk;simp only[IS.ptr] at hlk;have hN0:NB W0 g d v:=⟨hN.1.keep hb0,hN.2.keep hb0⟩;have d0:=hN0.1.cell (j:=0) rfl;have d1:=hN0.1.cell (j:=1) rfl;have d2:=hN0.1.cell (j:=2) rfl;have d3:=hN0.1.cell (j:=3) rfl;have d4:=hN0.1.cell (j:=4) rfl;have hNN:=Wd (show Blk W0.drew g 143 (ncl d v) from hN0.1);have cS:=Wd (stored_any v d.l W0.drew hN0.2 hok);have hN1:=Wd (fun w' (hb:Below W0.heap.size W0 w')=>hN0.1.keep hb);have hs0:W0.heap.size=w.heap.size+1:=by rw[<-hW0];simp
 have hb0:=Wd hb0;have hr0:=Wd hr0;replace hs0:=Wd hs0;clear h h0 hN hM hS hok hN0;go_enter func56,ntmps56
 go_wp2_with fail
 replace hW0:=Wd hW0;have hne:¬ g=w.heap.size:=by omega
 have hne2:¬ w.heap.size=g:=by omega
 have fr:=hr0.out.fz;refine wp_region_held_drew (S:=(fun w'=>Blk w' g 143 (ncl d v))) (by kernel_rfl) hNN.out (fun hHeld=>?_);refine wt (i:=0) (v:=.int .i64 n) hHeld ?_;refine wt (i:=1) (v:=.pointer (some ⟨g,0,none⟩)) hHeld ?_;refine wt (i:=2) (v:=.pointer (some ⟨g,0,none⟩)) hHeld ?_;refine wt (i:=3) (v:=.pointer (some ⟨g,0,none⟩)) hHeld ?_;refine wt (i:=4) (v:=.int .i64 d.kind) hHeld ?_ (hv:=fun w0 s1=>by (have q:=Blk.cell (j:=0) s1 rfl;go_simp));refine wt (i:=5) (v:=.pointer (some ⟨g,0,none⟩)) hHeld ?_;refine wt (i:=6) (v:=.pointer (some ⟨g,0,none⟩)) hHeld ?_;refine wt (i:=7) (v:=.pointer (some ⟨g,1,none⟩)) hHeld ?_;refine wt (i:=8) (v:=.int .i64 d.links) hHeld ?_ (hv:=fun w0 s1=>by (have q:=Blk.cell (j:=1) s1 rfl;go_simp));refine wt (i:=9) (v:=.pointer (some ⟨g,0,none⟩)) hHeld ?_;refine wt (i:=10) (v:=.pointer (some ⟨g,0,none⟩)) hHeld ?_;refine wt (i:=11) (v:=.pointer (some ⟨g,2,none⟩)) hHeld ?_;refine wt (i:=12) (v:=.int .i64 d.opens) hHeld ?_ (hv:=fun w0 s1=>by (have q:=Blk.cell (j:=2) s1 rfl;go_simp));refine wt (i:=13) (v:=.pointer (some ⟨g,0,none⟩)) hHeld ?_;refine wt (i:=14) (v:=.pointer (some ⟨g,0,none⟩)) hHeld ?_;refine wt (i:=15) (v:=.pointer (some ⟨g,3,none⟩)) hHeld ?_;refine wt (i:=16) (v:=.int .i64 d.size) hHeld ?_ (hv:=fun w0 s1=>by (have q:=Blk.cell (j:=3) s1 rfl;go_simp));refine wt (i:=17) (v:=.pointer (some ⟨g,0,none⟩)) hHeld ?_;refine wt (i:=18) (v:=.pointer (some ⟨g,0,none⟩)) hHeld ?_;refine wt (i:=19) (v:=.pointer (some ⟨g,4,none⟩)) hHeld ?_;refine wt (i:=20) (v:=v) hHeld ?_ (hv:=fun w0 s1=>by (have q:=Blk.cell (j:=4) s1 rfl;go_simp));refine wpAnyH_ready (rs:=[21]) (by kernel_rfl) (by simp) ?_;refine AllReadyH.cons rfl (fun K hK=>?_) AllReadyH.nil;go_simp
 refine cS.out.mono ?_;rintro e w2 ⟨rfl,hb2⟩;have hN2:=hN1.out w2 (Own.bundrew hb2);have hr2:=hr0.out.keep (Own.bundrew hb2);have kf:=hr2.fz;have r0:=hr2.cell (j:=0) rfl;have r1:=hr2.cell (j:=1) rfl;have r2:=hr2.cell (j:=2) rfl;have r3:=hr2.cell (j:=3) rfl;have r4:=hr2.cell (j:=4) rfl;have r5:=hr2.cell (j:=5) rfl;refine hK.out _ _ hN2 (fun hHeld1=>?_);clear hK K
 try simp only[Act.put,List.setIfInBounds_toArray,List.set_cons_zero,List.set_cons_succ,List.getElem_toArray,List.getElem_cons_zero,List.getElem_cons_succ]
 refine wt (i:=22) (v:=.agg #[.int .i64 n,.int .i64 d.kind,.int .i64 d.links,.int .i64 d.opens,.int .i64 d.size,.int .i64 (EM.cnt d.l:Int)]) hHeld1 ?_;refine wpAnyH_ready (rs:=[23]) (by kernel_rfl) (by simp) ?_;refine AllReadyH.cons rfl (fun K hK=>?_) AllReadyH.nil;go_simp
 skip
 refine hK.out _ _ ((((((hN2.far (p:=⟨w.heap.size,0,none⟩) hne _).far (p:=⟨w.heap.size,1,none⟩) hne _).far (p:=⟨w.heap.size,2,none⟩) hne _).far (p:=⟨w.heap.size,3,none⟩) hne _).far (p:=⟨w.heap.size,4,none⟩) hne _).far (p:=⟨w.heap.size,5,none⟩) hne _) (fun hHeld2=>?_);clear hK K
 try simp only[Act.put,List.setIfInBounds_toArray,List.set_cons_zero,List.set_cons_succ,List.getElem_toArray,List.getElem_cons_zero,List.getElem_cons_succ]
 refine wpAnyH_done (by kernel_rfl) ?_ _;have hfin:=six_blk hr2 n d.kind d.links d.opens d.size (EM.cnt d.l);have hbl:=six_below (hb0.out.trans ((Own.bundrew hb2).mono hb0.out.size)) (Nat.le_refl _) n d.kind d.links d.opens d.size (EM.cnt d.l:Int);go_wp2_with fail
 refine bodyPost_ret (res_one rfl _ _ rfl hfin) rfl ⟨rfl,hbl⟩
end
end IN
end Go.Proofs.YtfffibepcdlldaaGreat

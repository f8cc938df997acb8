/- A part. -/
import Derived.Test.YtfffibepcdlldaaGreatZA15
import Derived.Deep.MidRow
set_option linter.unusedVariables false
set_option linter.unusedSimpArgs false
set_option maxRecDepth 100000
set_option maxHeartbeats 64000000
open Go.Proofs.Tryz

namespace Go.Proofs.YtfffibepcdlldaaGreat
open Go.ChangeShapes Go.WideShapes Go.ChangeAt Go.RowKit
namespace IN
section
variable {base:Nat}{rg:Nat}{I B L k:Nat}{S:Int->Option Nd}{z3 z4 z5 z6:Int}{v:Value}{q:List RE}
theorem rat_none {w:World}{n:Int}(hf:Fine I L B k S)(hI:I<=4096)(hS:S n=none)(h:RM base w rg I B L z3 z4 z5 z6 v q)(hF:Fits w q (lst S I)) :
 Calls prog 123 #[.pointer (some ⟨rg,0,none⟩),.int .i64 n] w fun e w'=>e=.returned (.int .i64 (-1))/\w=w':=by
 have hl:=hF.len;have h1:=lst_len S I
 have:=rat_any n h q.length (Nat.le_refl _) (fun j hj _=>by
  have e:=hF.at_ j hj (by omega);rw[e.n]
  exact pl_none hf hS j (by omega)) (fun hj=>absurd hj (Nat.lt_irrefl _)) (by omega)
 rw[if_neg (Nat.lt_irrefl _)] at this;exact this
theorem rat_some {w:World}{n:Int}{p:Nat}(hI:I<=4096)(hp:p<(lst S I).length)(hat:((lst S I)[p].1:Int)=n)(hbef:∀ j (hj:j<(lst S I).length),j<p->((lst S I)[j].1:Int)≠n)(h:RM base w rg I B L z3 z4 z5 z6 v q)(hF:Fits w q (lst S I)) :
 Calls prog 123 #[.pointer (some ⟨rg,0,none⟩),.int .i64 n] w fun e w'=>e=.returned (.int .i64 (p:Int))/\w=w':=by
 have hl:=hF.len;have h1:=lst_len S I
 have:=rat_any n h p (by omega) (fun j hj hjp=>by
  have e:=hF.at_ j hj (by omega);rw[e.n];exact hbef j (by omega) hjp) (fun hj=>by
  have e:=hF.at_ p hj hp;rw[e.n]
  exact hat) (by omega)
 rw[if_pos (by omega)] at this;exact this
theorem RM.fin {w:World}{l:List (Nat×Nd)}{g N cap:Nat}(h:RM base w rg I B L z3 z4 z5 z6 (.slice (some ⟨g,0,none⟩) N cap) q)(hN:q.length=N)(hF:Fits w q l){i:Nat}(hi:i<q.length)(m:Nat)(u:Value)(hm:m<7)(x:RE)(hx:(rrow q[i]).set m u=rrow x)(y:Nat×Nd)(hE:EF w x y) :
 RS base (w.setCell ⟨g,i*7+m,none⟩ u) rg I B L (l.set i y)/\Keeps base DT w (w.setCell ⟨g,i*7+m,none⟩ u):=by
 obtain⟨h1,h2⟩:=h.set hN hi m u hm x hx;exact⟨⟨_,_,_,_,_,_,h1,(hF.set i hE).keeps h2 (by simp[DT])⟩,h2⟩
theorem EF.drewN {w:World}{x:RE}{y:Nat×Nd}(h:EF w x y)(n:Nat):EF (w.drewN n) x y:=h.move fun _ _ _=>rfl
theorem range_six {w:World}{g o:Nat}{a b c d e f:Int}(h0:w.cell? ⟨g,o,none⟩=some (.int .i64 a))(h1:w.cell? ⟨g,o+1,none⟩=some (.int .i64 b))(h2:w.cell? ⟨g,o+2,none⟩=some (.int .i64 c))(h3:w.cell? ⟨g,o+3,none⟩=some (.int .i64 d))(h4:w.cell? ⟨g,o+4,none⟩=some (.int .i64 e))(h5:w.cell? ⟨g,o+5,none⟩=some (.int .i64 f)):w.rangeAt g o [.int .i64 a,.int .i64 b,.int .i64 c,.int .i64 d,.int .i64 e,.int .i64 f]:=by
 intro j v hj
 match j,hj with
 | 0,hj=>cases hj;exact h0
 | 1,hj=>cases hj;exact h1
 | 2,hj=>cases hj;exact h2
 | 3,hj=>cases hj;exact h3
 | 4,hj=>cases hj;exact h4
 | 5,hj=>cases hj;exact h5
theorem rgone_set {w:World} {n:Int} {d d':Nd} {p m:Nat} (hI:I<=4096) (hS:S n=some d) (hp:p<(lst S I).length) (hset:∀ d',lst (upd S n (some d')) I=(lst S I).set p (m,d')) (hdel:lst (upd S n none) I=(lst S I).take p ++ (lst S I).drop (p+1))
 {g N cap:Nat} (h:RM base w rg I B L z3 z4 z5 z6 (.slice (some ⟨g,0,none⟩) N cap) q) (hN:q.length=N) (hF:Fits w q (lst S I)) (mm:Nat) (u:Value) (hm:mm<7) (x:RE) (hpq:p<q.length) (hx:(rrow q[p]).set mm u=rrow x) (hE:EF w x (m,d')) :
 Calls prog 162 #[.pointer (some ⟨rg,0,none⟩),.int .i64 (p:Int)] (w.setCell ⟨g,p*7+mm,none⟩ u) fun e w'=>e=.returned (.tuple #[])/\RS base w' rg I B L (lst (gone (upd S n (some d')) n) I)/\Keeps base DT w w':=by
 have hl:=hF.len;have h1:=lst_len S I;obtain⟨k1,k2⟩:=h.set hN hpq mm u hm x hx;have f1:=(hF.set p hE).keeps k2 (by simp[DT]);have hp':p<(q.set p x).length:=by rw[List.length_set];exact hpq
 have ex:(q.set p x)[p]=x:=by simp
 by_cases hz:d'.links=0/\d'.opens=0
 ·have e:gone (upd S n (some d')) n=upd S n none:=by
   unfold gone;rw[upd_at];simp only;rw[if_pos hz,upd_upd]
  rw[e,hdel];refine (rgone_yes p k1 f1 hp' (by rw[ex];exact⟨hE.lk.trans hz.1,hE.op.trans hz.2⟩) (by rw[List.length_set];omega)).mono ?_;rintro e w' ⟨rfl,r1,r2⟩;rw[List.take_set_of_le (Nat.le_refl p),List.drop_set_of_lt (Nat.lt_succ_self p)] at r1;exact⟨rfl,r1,k2.trans r2⟩
 ·have e:gone (upd S n (some d')) n=upd S n (some d'):=by
   unfold gone;rw[upd_at];simp only;rw[if_neg hz]
  rw[e,hset];refine (rgone_no p k1 hp' (by rw[ex];exact fun hh=>hz ⟨hE.lk.symm.trans hh.1,hE.op.symm.trans hh.2⟩)).mono ?_;rintro e w' ⟨rfl,rfl⟩;exact⟨rfl,⟨_,_,_,_,_,_,k1,f1⟩,k2⟩
theorem rLink_any (n:Int)(w:World)(hf:Fine I L B k S)(hI:I<=4096)(hL:L<=32768)(h:RS base w rg I B L (lst S I)) :
 Calls prog 145 #[.pointer (some ⟨rg,0,none⟩),.int .i64 n] w (ROut base rg I B L w (lkR L S n) (lst (lkS L S n) I)):=by
 obtain⟨z3,z4,z5,z6,v,q,hM,hF⟩:=h
 cases hS:S n with
 | none=>
   have e1:lkR L S n=11:=by simp[lkR,askR,hS]
   have e2:lkS L S n=S:=by simp[lkS,hS]
   rw[e1,e2];have cA:=Wd (rat_none hf hI hS hM hF);have H:=Wd hM;have HF:=Wd hF;clear hM hF e1 e2 hS;go_enter func145,ntmps145
   go_wp2_with fail
   refine cA.out.mono ?_;rintro e w1 ⟨rfl,rfl⟩;go_wp2_with fail
   go_ret
   exact⟨rfl,⟨_,_,_,_,_,_,H.out,HF.out⟩,Keeps.refl _ _ _⟩
 | some d=>
   obtain⟨p,m,hnm,hm1,hmI,hp,hat,hbef,hset,hdel⟩:=pl_some hf hS;have hg:=hf.good _ d hS;have hpq:p<q.length:=by rw[hF.len];exact hp
   have hE:=hF.at_ p hpq hp;rw[hat hp] at hE;have cA:=Wd (rat_some (n:=n) hI hp (by rw[hat hp];exact hnm.symm) hbef hM hF);obtain⟨g,N,cap,rfl,hN,hpN,hNc,hcm,hbg,hgr,hgl,hrl,hgf,hrf,c0,c1,c2,c7,x0,x1,x2,x3,x4,x5,x6⟩:=hM.opened hpq;rw[hE.kd] at x1;rw[hE.lk] at x2;rw[hE.op] at x3;simp only at x1 x2 x3;have H:=Wd hM;have HF:=Wd hF;have HE:=Wd hE;have HN:=Wd hN;have HG:=Wd hg;have HS:=Wd hS;replace hpq:=Wd hpq;replace hset:=Wd hset;replace hdel:=Wd hdel;replace hp:=Wd hp;replace hnm:=Wd hnm;have hk0:=hg.opens;have hk1:=hg.links;clear hM hF hE hN hg hat hbef
   by_cases hl:d.links<(L:Int)
   ·have e1:lkR L S n=0:=by simp[lkR,askR,HS.out,hl]
    have e2:lkS L S n=upd S n (some { d with links:=d.links+1 }):=by simp[lkS,HS.out,hl]
    rw[e1,e2,hset.out];have hw:IntKind.i64.wrap (d.links+1)=d.links+1:=IntWalk.i64_in _ (by omega);clear e1 e2;go_enter func145,ntmps145
    go_wp2_with fail
    refine cA.out.mono ?_;rintro e w1 ⟨rfl,rfl⟩;go_wp2_with fail
    go_quiet (fail)
    go_wp2_with fail
    go_ret
    have E:EF w { q[p]'hpq.out with lk:=d.links+1 } (m,{ d with links:=d.links+1 }):=⟨HE.out.n,HE.out.kd,rfl,HE.out.op,HE.out.sz,HE.out.st,HE.out.v⟩;have P:=RM.fin (H.out.drewN nq) HN.out (HF.out.drewN nq) hpq.out 2 (.int .i64 (d.links+1)) (by decide) { q[p]'hpq.out with lk:=d.links+1 } rfl _ (E.drewN nq);exact⟨rfl,P.1,((Keeps.refl _ _ _).drew nq).trans P.2⟩
   ·have e1:lkR L S n=18:=by simp[lkR,askR,HS.out,hl]
    have e2:lkS L S n=S:=by simp[lkS,HS.out,hl]
    rw[e1,e2];clear e1 e2;go_enter func145,ntmps145
    go_wp2_with fail
    refine cA.out.mono ?_;rintro e w1 ⟨rfl,rfl⟩;go_wp2_with fail
    go_quiet (fail)
    go_wp2_with fail
    go_ret
    exact⟨rfl,⟨_,_,_,_,_,_,H.out.drewN nq,HF.out.drewN nq⟩,(Keeps.refl _ _ _).drew nq⟩
theorem rOpen_any (n:Int)(w:World)(hf:Fine I L B k S)(hI:I<=4096)(hk:k<1000000)(h:RS base w rg I B L (lst S I)) :
 Calls prog 84 #[.pointer (some ⟨rg,0,none⟩),.int .i64 n] w (ROut base rg I B L w (opR S n) (lst (opS S n) I)):=by
 obtain⟨z3,z4,z5,z6,v,q,hM,hF⟩:=h
 cases hS:S n with
 | none=>
   have e1:opR S n=11:=by simp[opR,askR,hS]
   have e2:opS S n=S:=by simp[opS,hS]
   rw[e1,e2];have cA:=Wd (rat_none hf hI hS hM hF);have H:=Wd hM;have HF:=Wd hF;clear hM hF e1 e2 hS;go_enter func84,ntmps84
   go_wp2_with fail
   refine cA.out.mono ?_;rintro e w1 ⟨rfl,rfl⟩;go_wp2_with fail
   go_ret
   exact⟨rfl,⟨_,_,_,_,_,_,H.out,HF.out⟩,Keeps.refl _ _ _⟩
 | some d=>
   obtain⟨p,m,hnm,hm1,hmI,hp,hat,hbef,hset,hdel⟩:=pl_some hf hS;have hg:=hf.good _ d hS;have hpq:p<q.length:=by rw[hF.len];exact hp
   have hE:=hF.at_ p hpq hp;rw[hat hp] at hE;have cA:=Wd (rat_some (n:=n) hI hp (by rw[hat hp];exact hnm.symm) hbef hM hF);obtain⟨g,N,cap,rfl,hN,hpN,hNc,hcm,hbg,hgr,hgl,hrl,hgf,hrf,c0,c1,c2,c7,x0,x1,x2,x3,x4,x5,x6⟩:=hM.opened hpq;rw[hE.kd] at x1;rw[hE.lk] at x2;rw[hE.op] at x3;simp only at x1 x2 x3;have H:=Wd hM;have HF:=Wd hF;have HE:=Wd hE;have HN:=Wd hN;have HG:=Wd hg;have HS:=Wd hS;replace hpq:=Wd hpq;replace hset:=Wd hset;replace hdel:=Wd hdel;replace hp:=Wd hp;replace hnm:=Wd hnm;have hk0:=hg.opens;have hk1:=hg.links;clear hM hF hE hN hg hat hbef;have e1:opR S n=0:=by simp[opR,askR,HS.out]
   have e2:opS S n=upd S n (some { d with opens:=d.opens+1 }):=by simp[opS,HS.out]
   rw[e1,e2,hset.out];have hw:IntKind.i64.wrap (d.opens+1)=d.opens+1:=IntWalk.i64_in _ (by omega);clear e1 e2;go_enter func84,ntmps84
   go_wp2_with fail
   refine cA.out.mono ?_;rintro e w1 ⟨rfl,rfl⟩;go_wp2_with fail
   go_ret
   have E:EF w { q[p]'hpq.out with op:=d.opens+1 } (m,{ d with opens:=d.opens+1 }):=⟨HE.out.n,HE.out.kd,HE.out.lk,rfl,HE.out.sz,HE.out.st,HE.out.v⟩;have P:=RM.fin H.out HN.out HF.out hpq.out 3 (.int .i64 (d.opens+1)) (by decide) { q[p]'hpq.out with op:=d.opens+1 } rfl _ E;exact⟨rfl,P.1,P.2⟩
theorem rUnlink_any (n:Int)(w:World)(hf:Fine I L B k S)(hI:I<=4096)(hL:L<=32768)(hk:k<1000000)(h:RS base w rg I B L (lst S I)) :
 Calls prog 171 #[.pointer (some ⟨rg,0,none⟩),.int .i64 n] w (ROut base rg I B L w (ulR S n) (lst (ulS S n) I)):=by
 obtain⟨z3,z4,z5,z6,v,q,hM,hF⟩:=h
 cases hS:S n with
 | none=>
   have e1:ulR S n=11:=by simp[ulR,askR,hS]
   have e2:ulS S n=S:=by simp[ulS,hS]
   rw[e1,e2];have cA:=Wd (rat_none hf hI hS hM hF);have H:=Wd hM;have HF:=Wd hF;clear hM hF e1 e2 hS;go_enter func171,ntmps171
   go_wp2_with fail
   refine cA.out.mono ?_;rintro e w1 ⟨rfl,rfl⟩;go_wp2_with fail
   go_ret
   exact⟨rfl,⟨_,_,_,_,_,_,H.out,HF.out⟩,Keeps.refl _ _ _⟩
 | some d=>
   obtain⟨p,m,hnm,hm1,hmI,hp,hat,hbef,hset,hdel⟩:=pl_some hf hS;have hg:=hf.good _ d hS;have hpq:p<q.length:=by rw[hF.len];exact hp
   have hE:=hF.at_ p hpq hp;rw[hat hp] at hE;have cA:=Wd (rat_some (n:=n) hI hp (by rw[hat hp];exact hnm.symm) hbef hM hF);obtain⟨g,N,cap,rfl,hN,hpN,hNc,hcm,hbg,hgr,hgl,hrl,hgf,hrf,c0,c1,c2,c7,x0,x1,x2,x3,x4,x5,x6⟩:=hM.opened hpq;rw[hE.kd] at x1;rw[hE.lk] at x2;rw[hE.op] at x3;simp only at x1 x2 x3;have H:=Wd hM;have HF:=Wd hF;have HE:=Wd hE;have HN:=Wd hN;have HG:=Wd hg;have HS:=Wd hS;replace hpq:=Wd hpq;replace hset:=Wd hset;replace hdel:=Wd hdel;replace hp:=Wd hp;replace hnm:=Wd hnm;have hk0:=hg.opens;have hk1:=hg.links;clear hM hF hE hN hg hat hbef
   by_cases hl:0<d.links
   ·have e1:ulR S n=0:=by simp[ulR,askR,HS.out,hl]
    have e2:ulS S n=gone (upd S n (some { d with links:=d.links-1 })) n:=by simp[ulS,HS.out,hl]
    rw[e1,e2];have hw:IntKind.i64.wrap (d.links-1)=d.links-1:=IntWalk.i64_in _ (by omega);have E:EF w { q[p]'hpq.out with lk:=d.links-1 } (m,{ d with links:=d.links-1 }):=⟨HE.out.n,HE.out.kd,rfl,HE.out.op,HE.out.sz,HE.out.st,HE.out.v⟩;have cG:=Wd (rgone_set hI HS.out hp.out hset.out hdel.out H.out HN.out HF.out 2 (.int .i64 (d.links-1)) (by decide) { q[p]'hpq.out with lk:=d.links-1 } hpq.out rfl E);clear E;have hne:¬ d.links=0:=by omega
    clear e1 e2;go_enter func171,ntmps171
    go_wp2_with fail
    refine cA.out.mono ?_;rintro e w1 ⟨rfl,rfl⟩;go_wp2_with fail
    refine cG.out.mono ?_;rintro e w2 ⟨rfl,r1,r2⟩;replace r1:=Wd r1;replace r2:=Wd r2;go_wp2_with fail
    go_ret
    exact⟨rfl,r1.out,r2.out⟩
   ·have e1:ulR S n=2:=by simp[ulR,askR,HS.out,hl]
    have e2:ulS S n=S:=by simp[ulS,HS.out,hl]
    rw[e1,e2];have hne:d.links=0:=by omega
    rw[hne] at x2;replace hne:=Wd hne;clear e1 e2;go_enter func171,ntmps171
    go_wp2_with fail
    refine cA.out.mono ?_;rintro e w1 ⟨rfl,rfl⟩;go_wp2_with fail
    go_ret
    exact⟨rfl,⟨_,_,_,_,_,_,H.out,HF.out⟩,Keeps.refl _ _ _⟩
theorem rClose_any (n:Int)(w:World)(hf:Fine I L B k S)(hI:I<=4096)(hL:L<=32768)(hk:k<1000000)(h:RS base w rg I B L (lst S I)) :
 Calls prog 124 #[.pointer (some ⟨rg,0,none⟩),.int .i64 n] w (ROut base rg I B L w (clR S n) (lst (clS S n) I)):=by
 obtain⟨z3,z4,z5,z6,v,q,hM,hF⟩:=h
 cases hS:S n with
 | none=>
   have e1:clR S n=11:=by simp[clR,askR,hS]
   have e2:clS S n=S:=by simp[clS,hS]
   rw[e1,e2];have cA:=Wd (rat_none hf hI hS hM hF);have H:=Wd hM;have HF:=Wd hF;clear hM hF e1 e2 hS;go_enter func124,ntmps124
   go_wp2_with fail
   refine cA.out.mono ?_;rintro e w1 ⟨rfl,rfl⟩;go_wp2_with fail
   go_ret
   exact⟨rfl,⟨_,_,_,_,_,_,H.out,HF.out⟩,Keeps.refl _ _ _⟩
 | some d=>
   obtain⟨p,m,hnm,hm1,hmI,hp,hat,hbef,hset,hdel⟩:=pl_some hf hS;have hg:=hf.good _ d hS;have hpq:p<q.length:=by rw[hF.len];exact hp
   have hE:=hF.at_ p hpq hp;rw[hat hp] at hE;have cA:=Wd (rat_some (n:=n) hI hp (by rw[hat hp];exact hnm.symm) hbef hM hF);obtain⟨g,N,cap,rfl,hN,hpN,hNc,hcm,hbg,hgr,hgl,hrl,hgf,hrf,c0,c1,c2,c7,x0,x1,x2,x3,x4,x5,x6⟩:=hM.opened hpq;rw[hE.kd] at x1;rw[hE.lk] at x2;rw[hE.op] at x3;simp only at x1 x2 x3;have H:=Wd hM;have HF:=Wd hF;have HE:=Wd hE;have HN:=Wd hN;have HG:=Wd hg;have HS:=Wd hS;replace hpq:=Wd hpq;replace hset:=Wd hset;replace hdel:=Wd hdel;replace hp:=Wd hp;replace hnm:=Wd hnm;have hk0:=hg.opens;have hk1:=hg.links;clear hM hF hE hN hg hat hbef
   by_cases hl:0<d.opens
   ·have e1:clR S n=0:=by simp[clR,askR,HS.out,hl]
    have e2:clS S n=gone (upd S n (some { d with opens:=d.opens-1 })) n:=by simp[clS,HS.out,hl]
    rw[e1,e2];have hw:IntKind.i64.wrap (d.opens-1)=d.opens-1:=IntWalk.i64_in _ (by omega);have E:EF w { q[p]'hpq.out with op:=d.opens-1 } (m,{ d with opens:=d.opens-1 }):=⟨HE.out.n,HE.out.kd,HE.out.lk,rfl,HE.out.sz,HE.out.st,HE.out.v⟩;have cG:=Wd (rgone_set hI HS.out hp.out hset.out hdel.out H.out HN.out HF.out 3 (.int .i64 (d.opens-1)) (by decide) { q[p]'hpq.out with op:=d.opens-1 } hpq.out rfl E);clear E;have hne:¬ d.opens=0:=by omega
    clear e1 e2;go_enter func124,ntmps124
    go_wp2_with fail
    refine cA.out.mono ?_;rintro e w1 ⟨rfl,rfl⟩;go_wp2_with fail
    refine cG.out.mono ?_;rintro e w2 ⟨rfl,r1,r2⟩;replace r1:=Wd r1;replace r2:=Wd r2;go_wp2_with fail
    go_ret
    exact⟨rfl,r1.out,r2.out⟩
   ·have e1:clR S n=2:=by simp[clR,askR,HS.out,hl]
    have e2:clS S n=S:=by simp[clS,HS.out,hl]
    rw[e1,e2];have hne:d.opens=0:=by omega
    rw[hne] at x3;replace hne:=Wd hne;clear e1 e2;go_enter func124,ntmps124
    go_wp2_with fail
    refine cA.out.mono ?_;rintro e w1 ⟨rfl,rfl⟩;go_wp2_with fail
    go_ret
    exact⟨rfl,⟨_,_,_,_,_,_,H.out,HF.out⟩,Keeps.refl _ _ _⟩
theorem rfile_no (n:Int)(w:World)(hf:Fine I L B k S)(hI:I<=4096)(hM:RM base w rg I B L z3 z4 z5 z6 v q)(hF:Fits w q (lst S I))(r:Int)(hr:(askR S n fun d=>if d.kind=1 then (0:Int) else 14)=r)(hr0:r≠0) :
 Calls prog 125 #[.pointer (some ⟨rg,0,none⟩),.int .i64 n] w fun e w'=>e=.returned (.tuple #[.int .i64 0,.int .i64 r])/\w=w':=by
 cases hS:S n with
 | none=>
   have e1:r=11:=by rw[<-hr];simp[askR,hS]
   subst e1;have cA:=Wd (rat_none hf hI hS hM hF);clear hM hF hS hr hr0;go_enter func125,ntmps125
   go_wp2_with fail
   refine cA.out.mono ?_;rintro e w1 ⟨rfl,rfl⟩;go_wp2_with fail
   go_ret2
   exact⟨rfl,rfl⟩
 | some d=>
   obtain⟨p,m,hnm,hm1,hmI,hp,hat,hbef,hset,hdel⟩:=pl_some hf hS;have hg:=hf.good _ d hS;have hpq:p<q.length:=by rw[hF.len];exact hp
   have hE:=hF.at_ p hpq hp;rw[hat hp] at hE;have cA:=Wd (rat_some (n:=n) hI hp (by rw[hat hp];exact hnm.symm) hbef hM hF);obtain⟨g,N,cap,rfl,hN,hpN,hNc,hcm,hbg,hgr,hgl,hrl,hgf,hrf,c0,c1,c2,c7,x0,x1,x2,x3,x4,x5,x6⟩:=hM.opened hpq;rw[hE.kd] at x1;rw[hE.lk] at x2;rw[hE.op] at x3;simp only at x1 x2 x3;have H:=Wd hM;have HF:=Wd hF;have HE:=Wd hE;have HN:=Wd hN;have HG:=Wd hg;have HS:=Wd hS;replace hpq:=Wd hpq;replace hset:=Wd hset;replace hdel:=Wd hdel;replace hp:=Wd hp;replace hnm:=Wd hnm;have hk0:=hg.opens;have hk1:=hg.links;clear hM hF hE hN hg hat hbef;have hk2:d.kind=2:=by
    rcases HG.out.kind with e|e
    ·exfalso;apply hr0;rw[<-hr];simp[askR,HS.out,e]
    ·exact e
   have e1:r=14:=by rw[<-hr];simp[askR,HS.out,hk2]
   subst e1;rw[hk2] at x1;replace hk2:=Wd hk2;clear hr hr0;go_enter func125,ntmps125
   go_wp2_with fail
   refine cA.out.mono ?_;rintro e w1 ⟨rfl,rfl⟩;go_wp2_with fail
   go_ret2
   exact⟨rfl,rfl⟩
theorem rfile_yes (n:Int)(w:World){d:Nd}{p m:Nat}(hI:I<=4096)(hM:RM base w rg I B L z3 z4 z5 z6 v q)(hF:Fits w q (lst S I))(hp:p<(lst S I).length)(hat:(lst S I)[p]=(m,d))(hnm:n=(m:Int))(hbef:∀ j (hj:j<(lst S I).length),j<p->((lst S I)[j].1:Int)≠n)(hk:d.kind=1) :
 Calls prog 125 #[.pointer (some ⟨rg,0,none⟩),.int .i64 n] w fun e w'=>e=.returned (.tuple #[.int .i64 (p:Int),.int .i64 0])/\w=w':=by
 have hpq:p<q.length:=by rw[hF.len];exact hp
 have hE:=hF.at_ p hpq hp;rw[hat] at hE;have cA:=Wd (rat_some (n:=n) hI hp (by rw[hat];exact hnm.symm) hbef hM hF);obtain⟨g,N,cap,rfl,hN,hpN,hNc,hcm,hbg,hgr,hgl,hrl,hgf,hrf,c0,c1,c2,c7,x0,x1,x2,x3,x4,x5,x6⟩:=hM.opened hpq;rw[hE.kd] at x1;simp only[hk] at x1;clear hM hF hE hN hat hbef hp hpq x0 x2 x3 x4 x5 x6 hk hnm;go_enter func125,ntmps125
 go_wp2_with fail
 refine cA.out.mono ?_;rintro e w1 ⟨rfl,rfl⟩;go_wp2_with fail
 go_ret2
 exact⟨rfl,rfl⟩
theorem rStat_any (n:Int)(w:World)(hf:Fine I L B k S)(hI:I<=4096)(h:RS base w rg I B L (lst S I)) :
 Calls prog 88 #[.pointer (some ⟨rg,0,none⟩),.int .i64 n] w fun e w'=>e=.returned (.tuple #[.agg (stV S n).toArray,.int .i64 (opR S n)])/\Below w.heap.size w w':=by
 obtain⟨W0,hW0⟩:∃ W0,w.alloc (.cells #[.int .i64 0,.int .i64 0,.int .i64 0,.int .i64 0,.int .i64 0,.int .i64 0] 65)=W0:=⟨_,rfl⟩;have hb0:Below w.heap.size w W0:=by rw[<-hW0];exact (Below.refl _ _).alloc (Nat.le_refl _) _
 have hr0:Blk W0 w.heap.size 65 zl:=by rw[<-hW0];exact Blk.new w _ zl rfl
 obtain⟨z3,z4,z5,z6,v,q,hM,hF⟩:=h.keep hb0;have f1:=hr0.fz;have r0:=hr0.cell (j:=0) rfl;have r1:=hr0.cell (j:=1) rfl;have r2:=hr0.cell (j:=2) rfl;have r3:=hr0.cell (j:=3) rfl;have r4:=hr0.cell (j:=4) rfl;have r5:=hr0.cell (j:=5) rfl
 cases hS:S n with
 | none=>
   have e2:opR S n=11:=by simp[opR,askR,hS]
   have e3:stV S n=zl:=by simp[stV,hS]
   rw[e2,e3];have cA:=Wd (rat_none hf hI hS hM hF);clear hM hF e2 e3 hS h;replace hr0:=Wd hr0;replace hb0:=Wd hb0;go_enter func88,ntmps88
   go_wp2_with fail
   refine cA.out.mono ?_;rintro e w1 ⟨rfl,rfl⟩;replace hW0:=Wd hW0;go_wp2_with fail
   exact bodyPost_ret (res_two rfl _ _ rfl (six_blk hr0.out 0 0 0 0 0 0)) rfl ⟨rfl,six_below hb0.out (Nat.le_refl _) 0 0 0 0 0 0⟩
 | some d=>
   have e2:opR S n=0:=by simp[opR,askR,hS]
   have e3:stV S n=stl n d:=by simp[stV,hS]
   rw[e2,e3];obtain⟨p,m,hnm,hm1,hmI,hp,hat,hbef,hset,hdel⟩:=pl_some hf hS;have hpq:p<q.length:=by rw[hF.len];exact hp
   have hE:=hF.at_ p hpq hp;rw[hat hp] at hE;have cA:=Wd (rat_some (n:=n) hI hp (by rw[hat hp];exact hnm.symm) hbef hM hF);obtain⟨g,N,cap,rfl,hN,hpN,hNc,hcm,hbg,hgr,hgl,hrl,hgf,hrf,c0,c1,c2,c7,x0,x1,x2,x3,x4,x5,x6⟩:=hM.opened hpq;rw[hE.n] at x0;rw[hE.kd] at x1;rw[hE.lk] at x2;rw[hE.op] at x3;rw[hE.sz] at x4;rw[hE.st] at x5;simp only at x0 x1 x2 x3 x4 x5;rw[<-hnm] at x0;unfold stl;have hR:=Wd (range_six x0 x1 x2 x3 x4 x5);replace hr0:=Wd hr0;replace hb0:=Wd hb0;clear hM hF e2 e3 hS h hE hN hat hbef hset hdel x0 x1 x2 x3 x4 x5 x6 hnm hp hpq;go_enter func88,ntmps88
   go_wp2_with fail
   refine cA.out.mono ?_;rintro e w1 ⟨rfl,rfl⟩;replace hW0:=Wd hW0;go_wp2_with (first|(refine wpList_load_mid rfl 65 (.tmp 19) rfl g (p*7) rfl [.int .i64 n,.int .i64 d.kind,.int .i64 d.links,.int .i64 d.opens,.int .i64 d.size,.int .i64 (EM.cnt d.l:Int)] _ hR.out underlying65 rfl (by kernel_rfl) ?_))
   exact bodyPost_ret (res_two rfl _ _ rfl (six_blk hr0.out n d.kind d.links d.opens d.size (EM.cnt d.l:Int))) rfl ⟨rfl,six_below hb0.out (Nat.le_refl _) n d.kind d.links d.opens d.size (EM.cnt d.l:Int)⟩
theorem rRight_yes (a b c d e f g:Int)(w:World)(hr:Right a b c) :
 Calls prog 77 #[cap7 a b c d e f g] w fun r w'=>r=.returned (.bool true)/\Below w.heap.size w w':=by
 unfold cap7;obtain⟨h1,h2,h3,h4,h5,h6⟩:=hr;go_enter func77,ntmps77
 go_wp2_with fail
 go_ret
 exact⟨rfl,(Below.refl _ w).alloc (Nat.le_refl _) _⟩
theorem rNew_yes (a b c d e f g:Int)(w:World)(hr:Right a b c) :
 Calls prog 35 #[cap7 a b c d e f g] w fun r w'=>∃ rg,r=.returned (.tuple #[.pointer (some ⟨rg,0,none⟩),.int .i64 0])/\RS w.heap.size w' rg a b c []/\Below w.heap.size w w':=by
 have cR:=Wd (fun w=>rRight_yes a b c d e f g w hr);clear hr;unfold cap7 at cR ⊢;go_enter func35,ntmps35
 go_wp2_with fail
 refine (cR.out _).mono ?_;rintro r w1 ⟨rfl,b1⟩;have hx:=(Blk.new w 25 [.int .i64 a,.int .i64 b,.int .i64 c,.int .i64 d,.int .i64 e,.int .i64 f,.int .i64 g] rfl).keep b1;have qf:=hx.fz;have q0:=hx.cell (j:=0) rfl;have q1:=hx.cell (j:=1) rfl;have q2:=hx.cell (j:=2) rfl;have q3:=hx.cell (j:=3) rfl;have q4:=hx.cell (j:=4) rfl;have q5:=hx.cell (j:=5) rfl;have q6:=hx.cell (j:=6) rfl;have b2:=((Below.refl w.heap.size w).alloc (Nat.le_refl _) (.cells #[.int .i64 a,.int .i64 b,.int .i64 c,.int .i64 d,.int .i64 e,.int .i64 f,.int .i64 g] 25)).trans (b1.mono (by simp));have hs:=b2.size;have b2:=Wd b2;clear hx b1;go_wp2_with fail
 go_ret2
 refine⟨w1.heap.size,rfl,⟨d,e,f,g,.slice none 0 0,[],⟨Blk.new w1 122 [.int .i64 a,.int .i64 b,.int .i64 c,.int .i64 d,.int .i64 e,.int .i64 f,.int .i64 g,.slice none 0 0] rfl,World.ownsRow_nil _ _ _ _,hs⟩,trivial⟩,b2.out.alloc hs _⟩
end
end IN
end Go.Proofs.YtfffibepcdlldaaGreat

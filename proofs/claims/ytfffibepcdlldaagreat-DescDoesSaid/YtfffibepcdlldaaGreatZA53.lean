/- The law DescDoes of layer 13 (package haywardlaw13): for every input it returns true, and its arguments read as before. No further condition. -/
import Derived.Test.YtfffibepcdlldaaGreatZA01
import Derived.Test.YtfffibepcdlldaaGreatZA46
import Derived.Test.YtfffibepcdlldaaGreatZA51
import Derived.Deep.RegionHeld3
import Derived.OrdersHeld
set_option linter.unusedVariables false
set_option linter.unusedSimpArgs false
set_option maxRecDepth 100000
set_option maxHeartbeats 64000000
open Go.Proofs.Tryz

namespace Go.Proofs.YtfffibepcdlldaaGreat
open Go.ChangeShapes Go.WideShapes Go.ChangeAt Go.RowKit Go.Maps
open Go.ChangeMaps (open_string shut_string)
open IN (cap7 Keeps cellkept)
open DC (Of Ls Ps Ou Sm)
open RD
theorem RD.B13.rgc {Kp:DC.Cn}{G:Cd}{q c B0:Nat}{S S1:Sm}{D D1:NT.Ds}{P P1:Ps}{O O1:Ou}{w0 w:World}(h:B13 Kp G q c S1 D1 P1 O1 S D P O B0 w0 w):w.cell? ⟨G.d,0,none⟩=some (.pointer (some ⟨G.rg,0,none⟩)):=by
 obtain⟨vo,vp,qo,qp,h1,-⟩:=h.rt.ex;exact h1.box.cell rfl
theorem DescDoes_walk (a0 a1:Int)(o2:Option Addr)(n2 c2:Nat)(l2:List OpT13)(w:World)(w0:(Lit.int .i64 a0).wf=true)(w1:(Lit.int .i64 a1).wf=true)(w2:OS13 w o2 n2 c2 l2) :
 Calls prog 3 #[.int .i64 a0,.int .i64 a1,.slice o2 n2 c2] w fun e w'=>e=.returned (.bool true)/\Below w.heap.size w w':=by
 obtain⟨hlen,hll,hops⟩:=w2;have hlen2:(n2:Int)<=9223372036854775807:=by unfold maxLen at hlen;omega
 replace hops:=Wd hops;replace hll:=Wd hll;have cS:=Wd (DC.shown13 w);have cC:=fun w=>Wd (DC.caps13 w);unfold cap7 at cC;clear hlen w0 w1;have cM:=fun w=>Wd (right_any 8 100 3 a0 a1 0 0 w);go_enter func3,ntmps3
 go_wp2_with fail
 refine cS.out.mono ?_;rintro e w1 ⟨rfl,b1'⟩;have B1:=Wd b1';clear b1' cS;go_wp2_with fail
 refine (cC _).out.mono ?_;rintro e w2 ⟨rfl,b2⟩;have B2:=Wd (B1.out.trans (b2.mono B1.out.size));clear b2 B1;obtain⟨W2,hW2⟩:∃ W2,w2.alloc (.cells #[.int .i64 8,.int .i64 100,.int .i64 3,.int .i64 a0,.int .i64 a1,.int .i64 0,.int .i64 0] 25)=W2:=⟨_,rfl⟩;have B2':=Wd (show Below w.heap.size w W2 by rw[<-hW2];exact B2.out.alloc B2.out.size _);have hC2:Blk W2 w2.heap.size 25 [.int .i64 8,.int .i64 100,.int .i64 3,.int .i64 a0,.int .i64 a1,.int .i64 0,.int .i64 0]:=by rw[<-hW2];exact Blk.new w2 _ _ rfl
 have q0:=hC2.cell (j:=0) rfl;have q1:=hC2.cell (j:=1) rfl;have q2:=hC2.cell (j:=2) rfl;have q3:=hC2.cell (j:=3) rfl;have q4:=hC2.cell (j:=4) rfl;have q5:=hC2.cell (j:=5) rfl;have q6:=hC2.cell (j:=6) rfl;replace hC2:=Wd hC2
 by_cases hR:okC a0 a1=true
 ·rw[hR] at cM;unfold okC at hR;have hR:=of_decide_eq_true hR;obtain⟨r1,r2,r3,r4⟩:=hR;obtain⟨f,rfl⟩:∃ f:Nat,a0=f:=⟨a0.toNat,by omega⟩;obtain⟨n,rfl⟩:∃ n:Nat,a1=n:=⟨a1.toNat,by omega⟩;have cO:=fun w=>Wd (show Calls prog 12 #[cap7 8 100 3 (f:Int) (n:Int) 0 0] w _ from DC.opened13 8 100 3 f n w (by unfold IN.Right;omega) (by omega) (by omega));have cPl:=fun w=>Wd (show Calls prog 13 #[cap7 8 100 3 (f:Int) (n:Int) 0 0] w _ from plain13 8 100 3 f n w (by unfold IN.Right;omega) (by omega) (by omega) (by omega));unfold cap7 at cO cPl;clear r1 r2 r3 r4;go_wp2_with fail
  replace hW2:=Wd hW2;refine (cM _).out.mono ?_;rintro e w3 ⟨rfl,b3⟩;have B3:=Wd (B2'.out.trans (b3.mono B2'.out.size));have hC3:=hC2.out.keep b3;have p0:=hC3.cell (j:=0) rfl;have p1:=hC3.cell (j:=1) rfl;have p2:=hC3.cell (j:=2) rfl;have p3:=hC3.cell (j:=3) rfl;have p4:=hC3.cell (j:=4) rfl;have p5:=hC3.cell (j:=5) rfl;have p6:=hC3.cell (j:=6) rfl;replace hC3:=Wd hC3;clear b3 cM q0 q1 q2 q3 q4 q5 q6;go_wp2_with fail
  refine (cO _).out.mono ?_;rintro e w4 ⟨Kq,A,rfl,hbase,hK,hd,b4⟩;have B4:=Wd (B3.out.trans (b4.mono B3.out.size));have hbw:=Wd (Nat.le_trans B3.out.size hbase);have hC4:=hC3.out.keep b4;have q0:=hC4.cell (j:=0) rfl;have q1:=hC4.cell (j:=1) rfl;have q2:=hC4.cell (j:=2) rfl;have q3:=hC4.cell (j:=3) rfl;have q4:=hC4.cell (j:=4) rfl;have q5:=hC4.cell (j:=5) rfl;have q6:=hC4.cell (j:=6) rfl;replace hd:=Wd hd;replace hK:=Wd hK;clear b4 cO hbase p0 p1 p2 p3 p4 p5 p6 hC4;go_wp2_with fail
  refine (cPl _).out.mono ?_;rintro e w5 ⟨G,rfl,hgb,hG,hrt,b5⟩;have B5:=Wd (B4.out.trans (b5.mono B4.out.size));have T:=Wd (ties_of hK.out hG (by decide) (by decide) hbw.out (Nat.le_trans B4.out.size hgb));have h5:=Wd (show B13 Kq G 0 0 NT.Sn NT.D0 [] (fun _=>none) NT.Sn NT.D0 [] (fun _=>none) w.heap.size w w5 from ⟨⟨A,hd.out.keep b5⟩,hrt,B5.out⟩);clear b5 B3 B4 cPl hgb hG hrt hd hK hbw q0 q1 q2 q3 q4 q5 q6;have cA:=Wd (DC.add_s 1 w5 h5.out.ds DC.i64_one (by decide));go_wp2_with fail
  refine cA.out.mono ?_;rintro e w6 ⟨rfl,hd6⟩;have h6:=Wd (h5.out.prog T.out.b1 hd6);have cR:=Wd (add_d 1 w6 h6.out.rt (kn_of h5.out.ds T.out.e T.out.L));clear hd6 cA;go_wp2_with fail
  refine cR.out.mono ?_;rintro e w7 ⟨rfl,hr7⟩;have h7:=Wd (h6.out.doc T.out.b2 hr7);rw[<-T.out.e.2.2.2.1] at h7;obtain⟨P7,hP7⟩:∃ P7,(DC.addR Kq.files [] 1).2=P7:=⟨_,rfl⟩;rw[hP7] at h7;clear hr7 cR h6 h5 hP7;go_wp2_with fail
  go_loopw [21,22] (fun v u wr=>∃ (j:Nat) (S:Sm) (D:NT.Ds) (P:Ps) (O:Ou),j<=n2/\j<=200/\v=.int .i64 (j:Int)/\Hid (B13 Kq G (2*j+2) (2*j+2) S D P O S D P O w.heap.size w wr)) (fun v _ _=>n2-(intOf v).toNat)
  case atStart=>exact⟨0,_,_,_,_,by omega,by omega,rfl,h7⟩
  case round=>
   clear h7 B5;obtain⟨j,S,D,P,O,hj,hj2,rfl,hb⟩:=hrel
   by_cases hlt:j<n2/\j<200
   ·obtain⟨hl1,hl2⟩:=hlt;obtain⟨blk,off,rfl,hblk,hc0,hc1,hc2,hc3,hc4,hc5,z1,z2,z3,z4,z5,z6,z7,z8,z9,z10,z11⟩:=hops.out j (by rw[hll.out];exact hl1);obtain⟨⟨kd,pid,fd,s,m,ito⟩,hx⟩:∃ x,l2[j]'(by rw[hll.out];exact hl1)=x:=⟨_,rfl⟩;rw[hx] at hc0 hc1 hc2 hc3 hc4 hc5 z1 z2 z3 z4 z5 z6 z7 z8 z9 z10 z11;simp only at hc0 hc1 hc2 hc3 hc4 hc5 z1 z2 z3 z4 z5 z6 z7 z8 z9 z10 z11;have hbw:=hb.out.b;have kk:∀ {a:Nat} {u:Value},w.cell? ⟨blk,a,none⟩=some u->wr.cell? ⟨blk,a,none⟩=some u:=fun {a u} hc=>by rw[hbw.cell (p:=⟨blk,a,none⟩) hblk];exact hc
    have k0:=kk hc0;have k1:=kk hc1;have k2:=kk hc2;have k3:=kk hc3;have k4:=kk hc4;have k5:=kk hc5;have cD:=Wd (does13 T.out (by omega) (by omega) kd pid fd m ito s (I64.of z1 z2) (I64.of z3 z4) z7 (I64.of z8 z9) (I64.of z10 z11) wr hb.out);clear kk hc0 hc1 hc2 hc3 hc4 hc5 hx hbw z1 z2 z3 z4 z5 z6 z7 z8 z9 z10 z11;go_wp2_with fail
    refine cD.out.mono ?_;rintro e w8 ⟨rfl,S',D',P',O',h8⟩;have hk:=Wd (kn_of h8.ds T.out.e T.out.L);have hlenS:(IN.lst S' Kq.I).length<=100000:=by have:=IN.lst_len S' Kq.I;have:=h8.ds.fine.2;omega
    replace hlenS:=Wd hlenS;replace h8:=Wd h8;have hB2:=T.out.b2;have eI:=Wd T.out.e.1;clear cD k0 k1 k2 k3 k4 k5;go_wp2_with fail
    refine wp_region_held_drew (S:=(fun w'=>w'.cell? ⟨G.d,0,none⟩=some (.pointer (some ⟨G.rg,0,none⟩)))) (by kernel_rfl) (h8.out.keep hB2 (below_drew _)).rgc (fun hHeld=>?_);refine wt (i:=0) (v:=.bool true) hHeld ?_;refine wt (i:=1) (v:=.bool false) hHeld ?_;refine wt (i:=2) (v:=.bool false) hHeld ?_;refine wt (i:=3) (v:=.pointer (some ⟨Kq.g,0,none⟩)) hHeld ?_;refine wt (i:=4) (v:=.pointer (some ⟨G.d,0,none⟩)) hHeld ?_;refine wpAnyH_ready (rs:=[5]) (by kernel_rfl) (by simp) ?_;refine AllReadyH.cons rfl (fun K hK=>?_) AllReadyH.nil;go_simp
    refine (alike13 T.out _ (h8.out.keep hB2 (below_drew _))).mono ?_;rintro e w9 ⟨rfl,b9⟩;have hq1:=Wd (h8.out.keep hB2 ((below_drew w8).trans (b9.mono (below_drew w8).size)));refine hK.out _ _ hq1.out.rgc (fun hHeld1=>?_);clear hK K
    try simp only[Act.put,List.setIfInBounds_toArray,List.set_cons_zero,List.set_cons_succ,List.getElem_toArray,List.getElem_cons_zero,List.getElem_cons_succ]
    refine wt (i:=6) (v:=.bool false) hHeld1 ?_;refine wt (i:=7) (v:=.bool false) hHeld1 ?_;refine wt (i:=8) (v:=.bool false) hHeld1 ?_;refine wt (i:=9) (v:=.pointer (some ⟨Kq.sg,0,none⟩)) hHeld1 ?_;refine wt (i:=11) (v:=.pointer (some ⟨G.d,0,none⟩)) hHeld1 ?_;refine wt (i:=12) (v:=.pointer (some ⟨G.d,0,none⟩)) hHeld1 ?_;refine wt (i:=13) (v:=.pointer (some ⟨G.d,0,none⟩)) hHeld1 ?_;refine wt (i:=14) (v:=.pointer (some ⟨G.rg,0,none⟩)) hHeld1 ?_;refine wpAnyH_ready (rs:=[10]) (by kernel_rfl) (by simp) ?_;refine AllReadyH.cons rfl (fun K hK=>?_) AllReadyH.nil;go_simp
    refine (DC.all_s _ hq1.out.ds).mono ?_;rintro e w10 ⟨v10,rfl,o10,b10⟩;have hq2:=Wd (hq1.out.keep hB2 b10);have o10:=Wd o10;refine hK.out _ _ hq2.out.rgc (fun hHeld2=>?_);clear hK K
    try simp only[Act.put,List.setIfInBounds_toArray,List.set_cons_zero,List.set_cons_succ,List.getElem_toArray,List.getElem_cons_zero,List.getElem_cons_succ]
    refine wpAnyH_ready (rs:=[15]) (by kernel_rfl) (by simp) ?_;refine AllReadyH.cons rfl (fun K hK=>?_) AllReadyH.nil;go_simp
    refine (all_d _ hq2.out.rt hk.out).mono ?_;rintro e w11 ⟨v11,rfl,o11,b11⟩;have hq3:=Wd (hq2.out.keep hB2 b11);have o10:=Wd (Own.below o10.out b11);rw[<-eI.out] at o11;have o11:=Wd o11;refine hK.out _ _ hq3.out.rgc (fun hHeld3=>?_);clear hK K
    try simp only[Act.put,List.setIfInBounds_toArray,List.set_cons_zero,List.set_cons_succ,List.getElem_toArray,List.getElem_cons_zero,List.getElem_cons_succ]
    refine wpAnyH_ready (rs:=[16]) (by kernel_rfl) (by simp) ?_;refine AllReadyH.cons rfl (fun K hK=>?_) AllReadyH.nil;go_simp
    refine (IN.Same_yes _ _ _ _ (IN.lst S' Kq.I) _ hlenS.out o10.out o11.out).mono ?_;rintro e w12 ⟨rfl,b12⟩;have hq4:=Wd (hq3.out.keep hB2 b12);refine hK.out _ _ hq4.out.rgc (fun hHeld4=>?_);clear hK K
    try simp only[Act.put,List.setIfInBounds_toArray,List.set_cons_zero,List.set_cons_succ,List.getElem_toArray,List.getElem_cons_zero,List.getElem_cons_succ]
    refine wt (i:=17) (v:=.bool false) hHeld4 ?_;refine wt (i:=18) (v:=.bool false) hHeld4 ?_;refine wpAnyH_done (by kernel_rfl) ?_ _;go_wp2_with fail
    go_roundw
    case rel=>exact⟨j+1,S',D',P',O',by omega,by omega,by go_num,hq4⟩
    case measure=>simp[intOf];omega
   ·have hex:(¬ j<n2)∨(j<n2/\¬ j<200):=by omega
    have Bf:=Wd hb.out.b;clear hb;rcases hex with h1|⟨h1,h2⟩ <;>
    ·go_wp2_with fail
     go_ret
     exact⟨rfl,Bf.out⟩
 ·have hR2:okC a0 a1=false:=by simpa using hR
  rw[hR2] at cM;have hCR:¬ DC.CR a0 a1:=fun h=>hR (by unfold okC;unfold DC.CR at h;exact decide_eq_true (by omega));have cI:=fun w=>Wd (show Calls prog 9 #[cap7 8 100 3 4 6 0 0] w _ from IN.New_yes 8 100 3 4 6 0 0 w (by unfold IN.Right;omega));unfold cap7 at cI;clear hR hR2 hlen2 hops hll;go_wp2_with fail
  replace hW2:=Wd hW2;refine (cM _).out.mono ?_;rintro e w3 ⟨rfl,b3⟩;have B3:=Wd (B2'.out.trans (b3.mono B2'.out.size));have hC3:=Wd (hC2.out.keep b3);clear b3 cM q0 q1 q2 q3 q4 q5 q6;go_wp2_with fail
  refine (cC _).out.mono ?_;rintro e w4 ⟨rfl,b4⟩;have B4:=Wd (B3.out.trans (b4.mono B3.out.size));have hC4:=Wd (hC3.out.keep b4);clear b4;go_wp2_with fail
  refine (cI _).out.mono ?_;rintro e w5 ⟨sg,mb,M5,rfl,hP5,b5⟩;have B5:=Wd (B4.out.trans (b5.mono B4.out.size));have hC5:=Wd (hC4.out.keep b5);have hlow:=Wd B4.out.size;have cT:=Wd (NT.New_tw w5 hP5 (by decide) (by decide));clear b5 hP5 cI;go_wp2_with fail
  refine cT.out.mono ?_;rintro e w6 ⟨tg,A,rfl,hT6,hK6⟩;obtain⟨M6,hP6⟩:=hT6.ps;have hC6:Blk w6 w2.heap.size 25 [.int .i64 8,.int .i64 100,.int .i64 3,.int .i64 a0,.int .i64 a1,.int .i64 0,.int .i64 0]:=hK6.block _ _ hC5.out (by simp[IN.PT]);have B6:=Wd (B5.out.trans (hK6.below hlow.out));have p0:=hC6.cell (j:=0) rfl;have p1:=hC6.cell (j:=1) rfl;have p2:=hC6.cell (j:=2) rfl;have p3:=hC6.cell (j:=3) rfl;have p4:=hC6.cell (j:=4) rfl;have p5:=hC6.cell (j:=5) rfl;have p6:=hC6.cell (j:=6) rfl;have cN:=Wd (DC.New_caps 8 100 3 a0 a1 0 0 w6 hP6 hT6.tm hCR);unfold cap7 at cN;clear hT6 hK6 hP6 hC6 cT;go_wp2_with fail
  refine cN.out.mono ?_;rintro e w7 ⟨rfl,b7⟩;have B7:=Wd (B6.out.trans (b7.mono B6.out.size));clear b7;go_wp2_with fail
  go_ret
  exact⟨rfl,B7.out⟩
theorem DescDoes_lifted (os:Os)(started:os.Started)(H:Type)(enc:TypeId×Value->H) :
 ReturnsInHanded {} Tryz.checked os 3 .any (Rows.descDoesSpec.pre6 enc prog Tryz.f3 Rows.descDoesRow.domain false) (Rows.descDoesSpec.post enc prog Tryz.f3 false true false false):=by
 refine returnsInHanded_of_change (C:=Tryz.checked) (by kernel_rfl) started (by kernel_rfl) func3
  (ChangeSpec.witness6 (enc:=enc) (C:=Tryz.checked) false ⟨#[],#[.int .i64 0,.int .i64 0,.slice none 0 0],[]⟩ 8 (by kernel_rfl) (by kernel_rfl) (by kernel_rfl) (by kernel_rfl)) ?_
 intro W base args ds gs before hval0 hW hcnd _;have hval:∀ (j:Nat) t v,Tryz.f3.params[j]? = some t->args[j]? = some v->Value.okWide prog W .any base t v:=hval0;have hW':=hW;obtain⟨p,q,hA0,hV,rfl,hfz,hnd⟩:=hW;have hA:DataW.TrodAll enc prog W 0 (fun _=>true) true Tryz.f3.params.toList args.toList ds p:=hA0;rw[Tryz.params3] at hA hval;obtain⟨v0,vs0,d0,ds0,p0,q0,hargs,rfl,rfl,h0,r0⟩:=trodAll_cons hA;obtain⟨v1,vs1,d1,ds1,p1,q1,rfl,rfl,rfl,h1,r1⟩:=trodAll_cons r0;obtain⟨v2,vs2,d2,ds2,p2,q2,rfl,rfl,rfl,h2,r2⟩:=trodAll_cons r1;obtain⟨rfl,rfl,rfl⟩:=trodAll_nil r2;obtain rfl:args=#[v0,v1,v2]:=by cases args;simp_all
 obtain⟨rfl,rfl⟩:=trodVars_none hV;obtain⟨a0,rfl,rfl,rfl,w0⟩:=open_int underlying3 (hval 0 3 v0 rfl rfl) h0;obtain⟨a1,rfl,rfl,rfl,w1⟩:=open_int underlying3 (hval 1 3 v1 rfl rfl) h1;have k2:=h2;have lt2:∀ x∈p2,x.block<W.heap.size:=by obtain⟨m,hm⟩:=k2;exact DataW.trod_lt m _ _ _ hm
 obtain⟨o2,n2,c2,l2,rfl,w2⟩:=open_ops13 (hval 2 22 v2 rfl rfl) h2;clear hA0 hval0;refine (DescDoes_walk a0 a1 o2 n2 c2 l2 W w0 w1 w2).mono fun e W' ⟨he,bel⟩=>?_;subst he;exact⟨_,rfl,_,_,_,[],_,[],hW',trodAll_mk1 (shut_bool underlying4 _),(trodAll_cons_mk (shut_int underlying3 w0) (trodAll_cons_mk (shut_int underlying3 w1) (trodAll_cons_mk (Below.trod laidOut (by kernel_rfl) (of_decide_eq_true (by kernel_rfl)) k2 bel lt2) trodAll_mk0))),rfl,bel.frame _,fun h=>by cases h⟩
theorem DescDoes_holds:Rows.DescDoesSaid:=
 OpenClaim.holds_of_wide 3 Tryz.f3 rfl rfl rfl rfl rfl rfl rfl ⟨rfl,rfl,rfl,rfl,rfl⟩ rfl rfl rfl rfl rfl (by kernel_rfl) func3 (by kernel_rfl)
  (of_decide_eq_true (by kernel_rfl)) (by unfold Func.isWrapper;first|(rw[if_pos (by decide +kernel)];kernel_rfl)|(rw[if_neg (by decide +kernel)];exact⟨rfl,rfl⟩))
  (fun os started H enc _=>DescDoes_lifted os started H enc)
end Go.Proofs.YtfffibepcdlldaaGreat

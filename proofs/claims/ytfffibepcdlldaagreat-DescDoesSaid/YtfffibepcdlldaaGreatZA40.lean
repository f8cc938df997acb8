/- A part. -/
import Derived.Test.YtfffibepcdlldaaGreatZA01
import Derived.Test.YtfffibepcdlldaaGreatZA39
import Derived.Test.YtfffibepcdlldaaGreatZA34
import Derived.Test.YtfffibepcdlldaaGreatZA19
import Derived.Test.YtfffibepcdlldaaGreatZA30
set_option linter.unusedVariables false
set_option linter.unusedSimpArgs false
set_option maxRecDepth 100000
set_option maxHeartbeats 64000000
open Go.Proofs.Tryz

namespace Go.Proofs.YtfffibepcdlldaaGreat
open Go.ChangeShapes Go.WideShapes Go.ChangeAt Go.RowKit
namespace RD
open DC (Of Ls Ps Ou Sm lk vacP insP updO cloR incL incO)
open IN (Keeps lt_of_some cellkept)
open IS (I64)
section
variable {K:Cd}{c q:Nat}{S:Sm}{D:NT.Ds}{P:Ps}{O:Ou}{vo vp:Value}{qo:List Of}{qp:List PE}{w w':World}
theorem lcl_one (L:Ls):∀ u∈lcl L,u.oneCell'=true:=by
 intro u hu;unfold lcl at hu;obtain⟨x,-,rfl⟩:=List.mem_map.1 hu
 rfl
theorem clone_d (pid pto:Int)(w:World)(h:RT K c S D P O w)(hk:Kn K q S D P O) :
 Calls prog 92 #[.pointer (some ⟨K.d,0,none⟩),.int .i64 pid,.int .i64 pto] w fun e w'=>e=.returned (.int .i64 (cloR P O pid pto).1)/\RO K c S D (cloR P O pid pto).2.1 (cloR P O pid pto).2.2 w w':=by
 have h0:=Wd h;have href:=Wd (fun (k:Nat) (o:Of) (ho:O k=some o)=>refs_le hk ho);obtain⟨⟨vo,vp,qo,qp,h1,rfl,rfl,hol⟩,htr⟩:=h;have hlen:qp.length<=100000:=by have:=hk.few;rw[Pq_len] at this;have:=hk.lim;omega
 have cA:=at_any pid h1 hlen;have cM:=may_any pto h1 hlen;have hcap:=hk.cap;unfold cloR
 cases e1:lk (Pq qp) pid with
 | none=>
   have hat:atA (Pq qp) qp pid = -1:=by unfold atA;rw[if_pos e1]
   rw[hat] at cA;have cA:=Wd cA;clear h1 hol htr hk hcap hlen e1 cM hat;go_enter func92,ntmps92
   go_wp2_with fail
   refine cA.out.mono ?_;rintro e w1 ⟨rfl,rfl⟩;go_wp2_with fail
   go_ret
   exact⟨rfl,h0.out.same (Below.refl _ _)⟩
 | some L=>
   simp only;have hat:atA (Pq qp) qp pid=(px qp pid:Int):=by unfold atA;rw[if_neg (by rw[e1];simp)]
   rw[hat] at cA;have cA:=Wd cA;obtain⟨hi,hL⟩:=px_some e1;have hnl:decide (((px qp pid:Nat):Int)<0)=false:=decide_eq_false (by omega)
   by_cases hv:vacP (Pq qp) pto=0
   ·rw[if_pos hv];rw[hv] at cM;simp only;have cM:=Wd cM;have hl:=(hk.di.lks e1).1;obtain⟨pg,pcap,hvp,hiN,hPc,hpm,hlc,hlm,hG⟩:=h1.lo hi;rw[hL,hl] at hlc hG;have hr:=h1.rl _ (List.getElem_mem hi);have hS1:Own.Src w 1 (.slice (some ⟨qp[px qp pid].g,0,none⟩) K.files qp[px qp pid].cap) K.files (lcl L):=by
     unfold pval at hr;rw[hL,hl] at hr;have:=Own.src_take hr rfl K.files (Nat.le_refl _);rw[Nat.mul_one,List.take_of_length_le (by rw[lcl_len,hl];exact Nat.le_refl _)] at this;exact this
    obtain⟨XX,hmk,hmo⟩:=Own.make_room (t:=57) underlying57 info_int K.files (K.files:Int) rfl (by omega) (by omega);subst hvp;have hS:Hid (∀ W:World,Below w.heap.size w W->W.cell? ⟨K.d,5,none⟩=some (.int .i64 (K.files:Int))/\W.cell? ⟨K.d,10,none⟩=some (.slice (some ⟨pg,0,none⟩) qp.length pcap)/\W.cell? ⟨pg,px qp pid*2+1,none⟩=some (.slice (some ⟨qp[px qp pid].g,0,none⟩) K.files qp[px qp pid].cap)):=Wd fun W hb=>⟨(h1.keep hb).box.cell rfl,(hG W (h1.keep hb)).s10,(hG W (h1.keep hb)).p1⟩;obtain⟨f5,f10,fp⟩:=hS.out w (Below.refl _ _);have A1:Hid ((w.drew.alloc XX).ownsRow w.heap.size 3 1 (.slice (some ⟨w.heap.size,0,none⟩) 0 K.files) 0 []):=Wd (hmo w.drew w.heap.size (Nat.le_refl _));have hBX:=Wd (((Below.refl w.heap.size w).drew).alloc (Nat.le_refl _) XX);have S1:=Wd (hS1.keep hBX.out);have xa:=hS.out _ hBX.out;have hone:=Wd (lcl_one L);have hvo:Hid (∀ og,vo.ownBlock=some og->og<w.heap.size):=Wd fun og e=>(h1.ro.lt og e).2;have hfar:Hid (∀ y∈qp,y.g<w.heap.size):=Wd fun y hy=>((h1.rl y hy).lt y.g rfl).2;have hhas:Hid (∀ (j k:Nat),L[j]? = some (some k)->∃ o,Oq qo k=some o):=Wd fun j k hj=>hk.di.has e1 hj;have s0:=Wd (fun (W:World) (hb:Below w.heap.size w W)=>h1.keep hb);have s5:Hid (incL (Oq qo) (L.drop 0)=incL (Oq qo) L):=Wd rfl;have HL:=Wd hl;have HF:=Wd hcap;have hF1:=hcap.1;have hF2:=hcap.2.1;have hlow:=Wd h1.low
    have fin:Hid (∀ (w2 wr:World) (qoi:List Of) (g9 c9:Nat) (Of':Ou),Below w.heap.size w w2->QT K vo (.slice (some ⟨pg,0,none⟩) qp.length pcap) qoi qp wr->qoi.length=qo.length->wr.ownsRow w.heap.size 3 1 (.slice (some ⟨g9,0,none⟩) K.files c9) K.files (lcl L)->Keeps K.base OT w2 wr->Oq qoi=Of'->Calls prog 41 #[.pointer (some ⟨K.d,0,none⟩),.agg #[.int .i64 pto,.slice (some ⟨g9,0,none⟩) K.files c9]] wr fun e w'=>e=.returned (.tuple #[])/\RO K c S D (insP pto L (Pq qp)) Of' w w'):=Wd (by
     rintro w2 wr qoi g9 c9 _ b2 q2 hlq ho k2 rfl;have hg9:=Own.ge ho g9 rfl;have:=lay_any ⟨pto,g9,c9,L⟩ wr q2 hlen (by simp only[pval,hl];exact Own.low h1.low ho) (fun y hy e=>by have:=hfar.out y hy;have e':y.g=g9:=e;omega);simp only[hl] at this;refine this.mono ?_;rintro e w' ⟨rfl,vp',q1,k1⟩;refine⟨rfl,?_,(Keeps.new b2 h1.low).trans (ZT_own (k2.trans k1))⟩;have hi2:=Pq_ins ⟨pto,g9,c9,L⟩ qp;simp only at hi2;rw[<-hi2]
     exact (RT.of q1 (by omega) (tr_own (htr.keep b2) (k2.trans k1))).more (by omega))
    clear h1 hol htr hk hv hcap hlen h0 hL hl hat hr hS1 hmo e1 hG;generalize hfinO:incL (Oq qo) L=finO at *;clear hfinO;generalize qp[px qp pid].g=lg at *;generalize qp[px qp pid].cap=lc at *;clear hi;generalize px qp pid=i at *;obtain⟨Np,hNp⟩:∃ Np,qp.length=Np:=⟨_,rfl⟩;rw[hNp] at hiN hPc f10 fin s0 hS xa;clear hNp;generalize K.files=F at *;go_enter func92,ntmps92
    go_wp2_with fail
    refine cA.out.mono ?_;rintro e w1 ⟨rfl,rfl⟩;go_wp2_with fail
    refine cM.out.mono ?_;rintro e w1 ⟨rfl,rfl⟩;go_wp2_with fail
    refine wp_region_held_drew (S:=(fun w'=>w'.cell? ⟨K.d,5,none⟩=some (.int .i64 (F:Int))/\w'.cell? ⟨K.d,10,none⟩=some (.slice (some ⟨pg,0,none⟩) Np pcap)/\w'.cell? ⟨pg,i*2+1,none⟩=some (.slice (some ⟨lg,0,none⟩) F lc))) (by kernel_rfl) ⟨f5,f10,fp⟩ (fun hHeld=>?_);refine wt (i:=0) (v:=.pointer (some ⟨K.d,0,none⟩)) hHeld ?_;refine wt (i:=1) (v:=.pointer (some ⟨K.d,0,none⟩)) hHeld ?_;refine wt (i:=2) (v:=.pointer (some ⟨K.d,2,none⟩)) hHeld ?_;refine wt (i:=3) (v:=.pointer (some ⟨K.d,5,none⟩)) hHeld ?_;refine wt (i:=4) (v:=.int .i64 (F:Int)) hHeld ?_;refine wt (i:=6) (v:=.pointer (some ⟨K.d,0,none⟩)) hHeld ?_;refine wt (i:=7) (v:=.pointer (some ⟨K.d,0,none⟩)) hHeld ?_;refine wt (i:=8) (v:=.pointer (some ⟨K.d,10,none⟩)) hHeld ?_;refine wt (i:=9) (v:=.slice (some ⟨pg,0,none⟩) Np pcap) hHeld ?_;refine wt (i:=10) (v:=.int .i64 (i:Int)) hHeld ?_;refine wt (i:=11) (v:=.pointer (some ⟨pg,i*2,none⟩)) hHeld ?_;refine wt (i:=12) (v:=.pointer (some ⟨pg,i*2+1,none⟩)) hHeld ?_;refine wt (i:=13) (v:=.slice (some ⟨lg,0,none⟩) F lc) hHeld ?_;refine wpAnyH_ready (rs:=[5]) (by kernel_rfl) (by simp) ?_;refine AllReadyH.cons rfl (fun K hK=>?_) AllReadyH.nil;go_simp
    refine hK.out _ _ xa (fun hHeld1=>?_);clear hK K
    try simp only[Act.put,List.setIfInBounds_toArray,List.set_cons_zero,List.set_cons_succ,List.getElem_toArray,List.getElem_cons_zero,List.getElem_cons_succ]
    refine wpAnyH_ready (rs:=[14]) (by kernel_rfl) (by simp) ?_;refine AllReadyH.cons rfl (fun K hK=>?_) AllReadyH.nil;refine Own.step_app rfl (.tmp 27) (.tmp 35) 57 rfl underlying57 info_int (.slice (some ⟨w.heap.size,0,none⟩) 0 F) (.slice (some ⟨lg,0,none⟩) F lc) rfl rfl A1.out (by first|(simp;done)|(simp;omega)) S1.out hone.out (by unfold maxLen;omega) (by omega) ?_;intro v2 w2 ho2 hg2 hob2;rw[Nat.zero_add] at ho2;have B2:Below w.heap.size w w2:=hBX.out.grown hg2 (by first|(simp;done)|(simp;omega)) (fun jj hj=>Own.ge A1.out jj hj);have u3:=hS.out w2 B2;have O2:=Wd ho2;replace B2:=Wd B2;clear ho2 hg2 hob2;refine hK.out _ _ u3 (fun hHeld2=>?_);clear hK K
    try simp only[Act.put,List.setIfInBounds_toArray,List.set_cons_zero,List.set_cons_succ,List.getElem_toArray,List.getElem_cons_zero,List.getElem_cons_succ]
    refine wt (i:=15) (v:=v2) hHeld2 ?_;refine wpAnyH_done (by kernel_rfl) ?_ _;obtain⟨g9,c9,rfl,hFc,hcm9⟩:∃ g9 c9,v2=.slice (some ⟨g9,0,none⟩) F c9/\F<=c9/\c9<=maxLen:=by
     rcases O2.out.2 with ⟨-,h2⟩|⟨g,cap,cur,h2,-,-,h3,h4,-⟩
     ·omega
     ·exact⟨g,cap,h2,h3,h4⟩
    have O2':Hid (w2.ownsRow w.heap.size 3 1 (.slice (some ⟨g9,0,none⟩) F c9) F (lcl L)):=Wd O2.out;have hg9:=Own.ge O2.out g9 rfl;have q0:Hid (QT K vo (.slice (some ⟨pg,0,none⟩) Np pcap) qo qp w2/\qo.length=qo.length):=Wd (And.intro (s0.out w2 B2.out) rfl);have k0:Hid (Keeps K.base OT w2 w2):=Wd (Keeps.refl _ _ _);have r0:Hid (∀ k o,Oq qo k=some o->∃ o',Oq qo k=some o'/\1<=o'.refs/\o'.refs<=4000000+((0:Nat):Int)):=Wd fun k o ho=>⟨o,ho,(href.out k o ho).1,by have:=(href.out k o ho).2;omega⟩;clear u3 O2 xa f5 f10 fp A1 S1 hHeld hHeld1 hHeld2;go_wp2_with fail
    go_loopw [10] (fun iv wr=>∃ (j:Nat) (qoi:List Of),j<=F/\iv=.int .i64 (j:Int)/\Hid (QT K vo (.slice (some ⟨pg,0,none⟩) Np pcap) qoi qp wr/\qoi.length=qo.length)/\Hid (wr.ownsRow w.heap.size 3 1 (.slice (some ⟨g9,0,none⟩) F c9) F (lcl L))/\Hid (Keeps K.base OT w2 wr)/\Hid (incL (Oq qoi) (L.drop j)=finO)/\Hid (∀ k o,Oq qo k=some o->∃ o',Oq qoi k=some o'/\1<=o'.refs/\o'.refs<=4000000+(j:Int))) (fun iv _=>F-(intOf iv).toNat)
    case atStart=>exact⟨0,qo,Nat.zero_le _,rfl,Wd ⟨s0.out w2 B2.out,rfl⟩,O2',k0,s5,r0⟩
    case round=>
     obtain⟨j,qoi,hj,rfl,hQ,hO,hKp,hR,hB⟩:=hrel
     by_cases hlt:j<F
     ·have hjF:(j:Int)<(F:Int):=by omega
      obtain⟨x,hx⟩:∃ x,L[j]? = some x:=⟨_,List.getElem?_eq_getElem (by rw[HL.out];exact hlt)⟩;have hdr:L.drop j=x :: L.drop (j+1):=by
       obtain⟨h1,h2⟩:=List.getElem?_eq_some_iff.1 hx;rw[List.drop_eq_getElem_cons h1,h2]
      rw[hdr] at hR;have y2:wr.cell? ⟨g9,j,none⟩=some (.int .i64 (cd x)):=by
       have:=hO.out.cells (g:=g9) rfl j _ (lcl_get hx);rw[Addr.add_lit,Nat.zero_add] at this;exact this
      cases x with
      | none=>
        simp only[cd] at y2;have hR2:Hid (incL (Oq qoi) (L.drop (j+1))=finO):=Wd hR.out;have hB2:Hid (∀ k o,Oq qo k=some o->∃ o',Oq qoi k=some o'/\1<=o'.refs/\o'.refs<=4000000+((j+1:Nat):Int)):=Wd fun k o ho=>by
         obtain⟨o',h1,h2,h3⟩:=hB.out k o ho;exact⟨o',h1,h2,by omega⟩
        clear hR hdr hx hB;go_wp2_with fail
        go_roundw
        case rel=>exact⟨j+1,qoi,by omega,by go_num,hQ,hO,hKp,hR2,hB2⟩
        case measure=>simp[intOf];omega
      | some k=>
        simp only[cd] at y2;obtain⟨o0,ho0⟩:=hhas.out j k hx;obtain⟨o,ho,hr1,hr2⟩:=hB.out k o0 ho0;obtain⟨hko,he,hne⟩:=Oq_some ho;obtain⟨og,cap,hvo',-,-,hkN,hNc,hcm,hFO⟩:=hQ.out.1.fo hko;have hog:=hvo.out og (by rw[hvo'];rfl);have f:=hFO wr hQ.out.1;rw[he] at f;have y1:=f.s9;have y3:=f.o3;have fz:=f.fz;clear f hFO;subst hvo';have hw:IntKind.i64.wrap (o.refs+1)=o.refs+1:=by rw[IntKind.wrap_i64];omega
        have hk0:decide (((k:Nat):Int)≥0)=true:=decide_eq_true (by omega);have hk0':decide ((0:Int)<=((k:Nat):Int))=true:=decide_eq_true (by omega);have st:=(hQ.out.1.keep (drew1_below wr)).setO hko 3 (.int .i64 (o.refs+1)) (by decide) { o with refs:=o.refs+1 } (by rw[he];rfl);have hQ2:Hid (QT K (.slice (some ⟨og,0,none⟩) qoi.length cap) (.slice (some ⟨pg,0,none⟩) Np pcap) (qoi.set k { o with refs:=o.refs+1 }) qp (wr.drew.setCell ⟨og,k*4+3,none⟩ (.int .i64 (o.refs+1)))/\(qoi.set k { o with refs:=o.refs+1 }).length=qo.length):=Wd ⟨st.1,by rw[List.length_set];exact hQ.out.2⟩;have hO2:Hid ((wr.drew.setCell ⟨og,k*4+3,none⟩ (.int .i64 (o.refs+1))).ownsRow w.heap.size 3 1 (.slice (some ⟨g9,0,none⟩) F c9) F (lcl L)):=Wd (Own.set (Own.below hO.out (drew1_below wr)) (p:=⟨og,k*4+3,none⟩) hog _);have hK2:Hid (Keeps K.base OT w2 (wr.drew.setCell ⟨og,k*4+3,none⟩ (.int .i64 (o.refs+1)))):=Wd (hKp.out.trans ((Keeps.new (drew1_below wr) hQ.out.1.low).trans st.2));have hOq:=Oq_set hko { o with refs:=o.refs+1 };rw[if_neg (by simp only;omega)] at hOq
        have hR2:Hid (incL (Oq (qoi.set k { o with refs:=o.refs+1 })) (L.drop (j+1))=finO):=Wd (by
         have:=hR.out;rw[hOq];unfold incL incO at this;rw[ho] at this
         exact this)
        have hB2:Hid (∀ k' o',Oq qo k'=some o'->∃ o2,Oq (qoi.set k { o with refs:=o.refs+1 }) k'=some o2/\1<=o2.refs/\o2.refs<=4000000+((j+1:Nat):Int)):=Wd fun k' o' ho'=>by
         rw[hOq]
         by_cases ek:k'=k
         ·subst ek;exact⟨_,DC.updO_at _ _ _,by simp only;omega,by simp only;omega⟩
         ·obtain⟨o2,h1,h2,h3⟩:=hB.out k' o' ho';exact⟨o2,by rw[DC.updO_ne ek];exact h1,h2,by omega⟩
        clear hR hdr hx hB hQ hO hKp hOq st ho hne ho0 hog hr1 hr2;generalize o.refs=rf at *;obtain⟨N,hN⟩:∃ N,qoi.length=N:=⟨_,rfl⟩;rw[hN] at y1 hkN hNc;go_wp2_with fail
        refine UpTo.region (S:=(fun w'=>w'.cell? ⟨K.d,9,none⟩=some (.slice (some ⟨og,0,none⟩) N cap)/\w'.cell? ⟨g9,j,none⟩=some (.int .i64 (k:Int))/\w'.cell? ⟨og,k*4+3,none⟩=some (.int .i64 rf))) (m:=14) (by kernel_rfl) ⟨y1,y2,y3⟩ (fun hHeld=>?_);refine ut (i:=0) (v:=.pointer (some ⟨K.d,0,none⟩)) hHeld ?_;refine ut (i:=1) (v:=.pointer (some ⟨K.d,0,none⟩)) hHeld ?_;refine ut (i:=2) (v:=.pointer (some ⟨K.d,9,none⟩)) hHeld ?_;refine ut (i:=3) (v:=.slice (some ⟨og,0,none⟩) N cap) hHeld ?_;refine ut (i:=4) (v:=.slice (some ⟨g9,0,none⟩) F c9) hHeld ?_;refine ut (i:=5) (v:=.int .i64 (j:Int)) hHeld ?_;refine ut (i:=6) (v:=.pointer (some ⟨g9,j,none⟩)) hHeld ?_;refine ut (i:=7) (v:=.int .i64 (k:Int)) hHeld ?_;refine ut (i:=8) (v:=.pointer (some ⟨og,k*4,none⟩)) hHeld ?_;refine ut (i:=9) (v:=.pointer (some ⟨og,k*4+3,none⟩)) hHeld ?_;refine ut (i:=10) (v:=.int .i64 rf) hHeld ?_;refine ut (i:=11) (v:=.int .i64 (rf+1)) hHeld ?_;refine UpTo.one (i:=12) (by kernel_rfl) rfl rfl (fun K hK=>?_);go_simp
        refine hK.out _ _ ⟨y1,y2,y3⟩ ?_;clear hK K
        try simp only[Act.put,List.setIfInBounds_toArray,List.set_cons_zero,List.set_cons_succ,List.getElem_toArray,List.getElem_cons_zero,List.getElem_cons_succ]
        refine UpTo.one (i:=13) (by kernel_rfl) rfl rfl (fun K hK=>?_);go_simp
        refine hK.out _ _ ⟨y1,y2,y3⟩ ?_;clear hK K
        try simp only[Act.put,List.setIfInBounds_toArray,List.set_cons_zero,List.set_cons_succ,List.getElem_toArray,List.getElem_cons_zero,List.getElem_cons_succ]
        refine UpTo.last (by kernel_rfl) rfl rfl (by kernel_rfl) ?_;go_simp
        have y0:=hN;subst y0;go_wp2_with fail
        go_roundw
        case rel=>exact⟨j+1,_,by omega,by go_num,hQ2,hO2,hK2,hR2,hB2⟩
        case measure=>simp[intOf];omega
     ·obtain rfl:j=F:=by omega
      have hR2:Oq qoi=finO:=by
       have:=hR.out;rw[List.drop_of_length_le (by rw[HL.out];exact Nat.le_refl _)] at this;exact this
      have cL:=Wd (fin.out w2 wr qoi g9 c9 finO B2.out hQ.out.1 hQ.out.2 hO.out hKp.out hR2);have hge:(j:Int)<=(j:Int):=Int.le_refl _;go_wp2_with fail
      refine cL.out.mono ?_;rintro e w9 ⟨rfl,hr⟩;have hr:=Wd hr;go_wp2_with fail
      go_ret
      exact⟨rfl,hr.out⟩
   ·rw[if_neg hv];obtain⟨r,hr⟩:∃ r,vacP (Pq qp) pto=r:=⟨_,rfl⟩;rw[hr] at cM hv ⊢;have hne:(r != 0)=true:=by simpa using hv
    have cM:=Wd cM;clear h1 hol htr hk hv hcap hlen hr hL hat e1;generalize px qp pid=i at *;go_enter func92,ntmps92
    go_wp2_with fail
    refine cA.out.mono ?_;rintro e w1 ⟨rfl,rfl⟩;go_wp2_with fail
    refine cM.out.mono ?_;rintro e w1 ⟨rfl,rfl⟩;go_wp2_with fail
    go_ret
    exact⟨rfl,h0.out.same (Below.refl _ _)⟩
end
end RD
namespace RD
open DC (Of Ls Ps Ou Sm)
open IN (Keeps lt_of_some)
def okC (f o:Int):Bool:=decide (1<=f/\f<=64/\1<=o/\o<=1024)
theorem right_any (a b l f o p r:Int)(w:World) :
 Calls prog 8 #[.agg #[.int .i64 a,.int .i64 b,.int .i64 l,.int .i64 f,.int .i64 o,.int .i64 p,.int .i64 r]] w fun e w'=>e=.returned (.bool (okC f o))/\Below w.heap.size w w':=by
 have hb:=Wd ((Below.refl w.heap.size w).alloc (Nat.le_refl _) (.cells #[.int .i64 a,.int .i64 b,.int .i64 l,.int .i64 f,.int .i64 o,.int .i64 p,.int .i64 r] 25))
 by_cases h1:1<=f
 ·by_cases h2:f<=64
  ·by_cases h3:1<=o
   ·by_cases h4:o<=1024
    ·have hv:okC f o=true:=decide_eq_true ⟨h1,h2,h3,h4⟩;rw[hv];have d1:decide (f≥1)=true:=decide_eq_true h1;have d2:decide (f<=64)=true:=decide_eq_true h2;have d3:decide (o≥1)=true:=decide_eq_true h3;have d4:decide (o<=1024)=true:=decide_eq_true h4;go_enter func8,ntmps8
     go_wp2_with fail
     go_ret
     exact⟨rfl,hb.out⟩
    ·have hv:okC f o=false:=decide_eq_false fun h=>h4 h.2.2.2;rw[hv];have d1:decide (f≥1)=true:=decide_eq_true h1;have d2:decide (f<=64)=true:=decide_eq_true h2;have d3:decide (o≥1)=true:=decide_eq_true h3;have d4:decide (o<=1024)=false:=decide_eq_false h4;go_enter func8,ntmps8
     go_wp2_with fail
     go_ret
     exact⟨rfl,hb.out⟩
   ·have hv:okC f o=false:=decide_eq_false fun h=>h3 h.2.2.1;rw[hv];have d1:decide (f≥1)=true:=decide_eq_true h1;have d2:decide (f<=64)=true:=decide_eq_true h2;have d3:decide (o≥1)=false:=decide_eq_false h3;go_enter func8,ntmps8
    go_wp2_with fail
    go_ret
    exact⟨rfl,hb.out⟩
  ·have hv:okC f o=false:=decide_eq_false fun h=>h2 h.2.1;rw[hv];have d1:decide (f≥1)=true:=decide_eq_true h1;have d2:decide (f<=64)=false:=decide_eq_false h2;go_enter func8,ntmps8
   go_wp2_with fail
   go_ret
   exact⟨rfl,hb.out⟩
 ·have hv:okC f o=false:=decide_eq_false fun h=>h1 h.1;rw[hv];have d1:decide (f≥1)=false:=decide_eq_false h1;go_enter func8,ntmps8
  go_wp2_with fail
  go_ret
  exact⟨rfl,hb.out⟩
theorem new_yes (rg rt:Nat)(a b l f o p r:Int)(w:World)(h:okC f o=true) :
 Calls prog 37 #[.pointer (some ⟨rg,0,none⟩),.pointer (some ⟨rt,0,none⟩),.agg #[.int .i64 a,.int .i64 b,.int .i64 l,.int .i64 f,.int .i64 o,.int .i64 p,.int .i64 r]] w fun e w'=>∃ g,e=.returned (.tuple #[.pointer (some ⟨g,0,none⟩),.int .i64 0])/\w.heap.size<=g/\Blk w' g 55 [.pointer (some ⟨rg,0,none⟩),.pointer (some ⟨rt,0,none⟩),.int .i64 a,.int .i64 b,.int .i64 l,.int .i64 f,.int .i64 o,.int .i64 p,.int .i64 r,.slice none 0 0,.slice none 0 0]/\Below w.heap.size w w':=by
 have hb0:=(Below.refl w.heap.size w).alloc (Nat.le_refl _) (.cells #[.int .i64 a,.int .i64 b,.int .i64 l,.int .i64 f,.int .i64 o,.int .i64 p,.int .i64 r] 25);have hk0:=Blk.new w 25 [.int .i64 a,.int .i64 b,.int .i64 l,.int .i64 f,.int .i64 o,.int .i64 p,.int .i64 r] rfl;have cR:=right_any a b l f o p r (w.alloc (.cells #[.int .i64 a,.int .i64 b,.int .i64 l,.int .i64 f,.int .i64 o,.int .i64 p,.int .i64 r] 25));rw[h] at cR;have cR:=Wd cR;have hb0:=Wd hb0;have hk0:=Wd hk0;clear h;go_enter func37,ntmps37
 go_wp2_with fail
 refine cR.out.mono ?_;rintro e w1 ⟨rfl,b1⟩;have hk1:=hk0.out.keep b1;have r0:=hk1.cell (j:=0) rfl;have r1:=hk1.cell (j:=1) rfl;have r2:=hk1.cell (j:=2) rfl;have r3:=hk1.cell (j:=3) rfl;have r4:=hk1.cell (j:=4) rfl;have r5:=hk1.cell (j:=5) rfl;have r6:=hk1.cell (j:=6) rfl;have hb1:=Wd (hb0.out.trans (b1.mono hb0.out.size));clear hk1 b1;go_wp2_with fail
 go_ret2
 exact⟨_,rfl,hb1.out.size,Blk.new w1 55 [.pointer (some ⟨rg,0,none⟩),.pointer (some ⟨rt,0,none⟩),.int .i64 a,.int .i64 b,.int .i64 l,.int .i64 f,.int .i64 o,.int .i64 p,.int .i64 r,.slice none 0 0,.slice none 0 0] rfl,hb1.out.alloc hb1.out.size _⟩
end RD
namespace RD
open DC (Of Ls Ps Ou Sm)
open IN (Keeps lt_of_some cap7)
theorem plain13 (a b c:Int)(f o:Nat)(w:World)(hr:IN.Right a b c)(hI:a<=4096)(hf:1<=f/\f<=64)(ho:1<=o/\o<=1024):Calls prog 13 #[cap7 a b c (f:Int) (o:Int) 0 0] w fun e w'=>∃ K:Cd,e=.returned (.pointer (some ⟨K.d,0,none⟩))/\w.heap.size<=K.base/\(K.I=a.toNat/\K.L=c.toNat/\K.B=b.toNat/\K.files=f/\K.opens=o)/\RT K 0 NT.Sn NT.D0 [] (fun _=>none) w'/\Below w.heap.size w w':=by
 obtain⟨W0,hW0⟩:∃ W0,w.alloc (.cells #[.int .i64 a,.int .i64 b,.int .i64 c,.int .i64 f,.int .i64 o,.int .i64 0,.int .i64 0] 25)=W0:=⟨_,rfl⟩;have b0:Below w.heap.size w W0:=by rw[<-hW0];exact (Below.refl _ w).alloc (Nat.le_refl _) _
 have hC:Blk W0 w.heap.size 25 [.int .i64 a,.int .i64 b,.int .i64 c,.int .i64 f,.int .i64 o,.int .i64 0,.int .i64 0]:=by rw[<-hW0];exact Blk.new w _ _ rfl
 have cN:=Wd (IN.rNew_yes a b c f o 0 0 W0 hr);have hrI:1<=a/\0<=b/\1<=c:=by unfold IN.Right at hr;omega
 have q0:=hC.cell (j:=0) rfl;have q1:=hC.cell (j:=1) rfl;have q2:=hC.cell (j:=2) rfl;have q3:=hC.cell (j:=3) rfl;have q4:=hC.cell (j:=4) rfl;have q5:=hC.cell (j:=5) rfl;have q6:=hC.cell (j:=6) rfl;replace hC:=Wd hC;replace b0:=Wd b0;have cD:=Wd (fun (rg rt:Nat) (w:World)=>new_yes rg rt a b c f o 0 0 w (by unfold okC;exact decide_eq_true (by omega)));unfold cap7 at cN ⊢;clear hr;go_enter func13,ntmps13
 go_wp2_with fail
 replace hW0:=Wd hW0;refine cN.out.mono ?_;rintro e w1 ⟨rg,rfl,hP,b1⟩;have hlst:IN.lst (fun _=>none) a.toNat=[]:=List.eq_nil_iff_forall_not_mem.2 fun x hx=>by have:=(IN.mem_lst.1 hx).2.2;cases this
 have cT:=Wd (RN.rNewT (base:=W0.heap.size) (rg:=rg) (I:=a.toNat) (B:=b.toNat) (L:=c.toNat) w1 (by
  rw[hlst,show ((a.toNat:Nat):Int)=a by omega,show ((b.toNat:Nat):Int)=b by omega,show ((c.toNat:Nat):Int)=c by omega]
  exact hP) (by omega) (by omega))
 have hC1:=Wd (hC.out.keep b1);have B1:=Wd (b0.out.trans (b1.mono b0.out.size));have hlow:=Wd b0.out.size;have hlw1:=Wd b1.size;clear hP b1 cN q0 q1 q2 q3 q4 q5 q6 hlst;go_wp2_with fail
 refine cT.out.mono ?_;rintro e w2 ⟨rt,rfl,hT,hK⟩;have hC2:Blk w2 w.heap.size 25 [.int .i64 a,.int .i64 b,.int .i64 c,.int .i64 f,.int .i64 o,.int .i64 0,.int .i64 0]:=hK.block _ _ hC1.out (by simp[RN.UT,RN.RT,IN.DT]);have q0:=hC2.cell (j:=0) rfl;have q1:=hC2.cell (j:=1) rfl;have q2:=hC2.cell (j:=2) rfl;have q3:=hC2.cell (j:=3) rfl;have q4:=hC2.cell (j:=4) rfl;have q5:=hC2.cell (j:=5) rfl;have q6:=hC2.cell (j:=6) rfl;have cD2:=Wd (cD.out rg rt w2);have B2:=Wd (B1.out.trans ((hK.below (Nat.le_refl _)).mono hlow.out));have hs2:Hid (W0.heap.size<=w2.heap.size):=Wd (Nat.le_trans hlw1.out (hK.below (Nat.le_refl _)).size);have hT:=Wd hT;clear hK cT hC2 cD;go_wp2_with fail
 refine cD2.out.mono ?_;rintro e w3 ⟨g,rfl,hg,hdw,b3⟩;have hfin:=Wd (And.intro hg (And.intro hdw b3));clear hdw b3 hg cD2 q0 q1 q2 q3 q4 q5 q6;go_wp2_with fail
 go_ret
 obtain⟨hg,hdw,b3⟩:=hfin.out;refine⟨⟨W0.heap.size,g,rt,rg,a.toNat,b.toNat,c.toNat,f,o,0,0⟩,rfl,hlow.out,⟨rfl,rfl,rfl,rfl,rfl⟩,⟨⟨.slice none 0 0,.slice none 0 0,[],[],⟨?_,World.ownsRow_nil _ _ _ _,World.ownsRow_nil _ _ _ _,fun x hx=>(by cases hx),List.nodup_nil,Nat.le_trans hs2.out hg⟩,rfl,?_,Nat.zero_le _⟩,hT.out.keep b3⟩,B2.out.trans (b3.mono B2.out.size)⟩
 ·simp only;rw[show ((a.toNat:Nat):Int)=a by omega,show ((b.toNat:Nat):Int)=b by omega,show ((c.toNat:Nat):Int)=c by omega];exact hdw
 ·funext k
  rfl
end RD
namespace RD
open DC (Of Ls Ps Ou Sm)
open IN (Keeps)
variable {K:Cd}{c q:Nat}{S:Sm}{D:NT.Ds}{P:Ps}{O:Ou}{w w':World}
theorem RT.other (h:RT K c S D P O w){C:Nat}(hK:Keeps C DC.VT w w'):RT K c S D P O w':=by
 obtain⟨⟨vo,vp,qo,qp,h1,h2⟩,h3⟩:=h;exact⟨⟨vo,vp,qo,qp,h1.keeps hK (by rintro k c ty s (rfl|rfl|rfl|rfl) <;> simp[DC.VT]),h2⟩,⟨h3.ex.keeps hK (by simp[DC.VT]) (by simp[DC.VT]) (by simp[DC.VT]),h3.rs.keeps hK (by simp[DC.VT]) (by simp[DC.VT]) (by simp[DC.VT])⟩⟩
theorem ds_other {Kp:DC.Cn}(h:DC.DS Kp q S D P O w){C:Nat}(hK:Keeps C ZT w w'):DC.DS Kp q S D P O w':=by
 obtain⟨A,M,β,hm,hd⟩:=h;exact⟨A,M,β,DC.MB_keeps hm hK (by simp[ZT,RN.UT,RN.RT,IN.DT,OT]),⟨RN.TW_keeps hd.dp.tw hK (by simp[ZT,RN.UT,RN.RT,IN.DT,OT]) (by simp[ZT,RN.UT,RN.RT,IN.DT,OT]) (by simp[ZT,RN.UT,RN.RT,IN.DT,OT]) (by simp[ZT,RN.UT,RN.RT,IN.DT,OT]) (by simp[ZT,RN.UT,RN.RT,IN.DT,OT]) (by simp[ZT,RN.UT,RN.RT,IN.DT,OT]),hd.dp.far,DC.TB_keeps hd.dp.tb hK (by simp[ZT,RN.UT,RN.RT,IN.DT,OT]),hd.dp.fp.keeps hK (fun _ _ _ _ _=>by simp[ZT,RN.UT,RN.RT,IN.DT,OT]) (fun _ _ _=>by simp[ZT,RN.UT,RN.RT,IN.DT,OT]),hd.dp.ge⟩,hd.di,hd.cap⟩
theorem kn_of {Kp:DC.Cn}(h:DC.DS Kp q S D P O w)(e:Kp.I=K.I/\Kp.B=K.B/\Kp.L=K.L/\Kp.files=K.files/\Kp.opens=K.opens)(hL:K.L<=32768):Kn K q S D P O:=by
 obtain⟨e1,e2,e3,e4,e5⟩:=e;have hf:=h.fine;have hdi:=h.di;have hti:=h.ti;obtain⟨A,M,β,hm,hd⟩:=h;have hc:=hd.cap;rw[e1,e2,e3] at hf;rw[e4,e5] at hdi;rw[e1] at hti;rw[e3,e4,e5] at hc;exact⟨hdi,hti,hf.1,⟨hf.2,hc.2.2.2.2.1,hL,hc.2.2.2.2.2.2.1⟩,⟨hc.1,hc.2.1,hc.2.2.1,hc.2.2.2.1⟩,hc.2.2.2.2.2.1⟩
end RD
namespace RD
open DC (Of Ls Ps Ou Sm)
open IN (Keeps)
open IS (I64)
structure B13 (Kp:DC.Cn)(G:Cd)(q c:Nat)(S1:Sm)(D1:NT.Ds)(P1:Ps)(O1:Ou)(S2:Sm)(D2:NT.Ds)(P2:Ps)(O2:Ou)(B0:Nat)(w0 w:World):Prop where
 ds:DC.DS Kp q S1 D1 P1 O1 w
 rt:RT G c S2 D2 P2 O2 w
 b:Below B0 w0 w
section
variable {Kp:DC.Cn}{G:Cd}{q c B0:Nat}{S1 S2 S':Sm}{D1 D2 D':NT.Ds}{P1 P2 P':Ps}{O1 O2 O':Ou}{w0 w w':World}
theorem B13.prog {q':Nat}(h:B13 Kp G q c S1 D1 P1 O1 S2 D2 P2 O2 B0 w0 w)(hB:B0<=Kp.base)(hp:DC.DO Kp q' S' D' P' O' w w'):B13 Kp G q' c S' D' P' O' S2 D2 P2 O2 B0 w0 w':=
 ⟨hp.1,h.rt.other hp.2,h.b.trans ((hp.2.below (Nat.le_refl _)).mono hB)⟩
theorem B13.doc (h:B13 Kp G q c S1 D1 P1 O1 S2 D2 P2 O2 B0 w0 w)(hB:B0<=G.base)(hr:RO G c S' D' P' O' w w'):B13 Kp G q (c+2) S1 D1 P1 O1 S' D' P' O' B0 w0 w':=
 ⟨ds_other h.ds hr.2,hr.1,h.b.trans ((hr.2.below (Nat.le_refl _)).mono hB)⟩
theorem B13.keep (h:B13 Kp G q c S1 D1 P1 O1 S2 D2 P2 O2 B0 w0 w)(hB:B0<=G.base)(hb:Below w.heap.size w w'):B13 Kp G q c S1 D1 P1 O1 S2 D2 P2 O2 B0 w0 w':=
 ⟨h.ds.keep hb,h.rt.keep hb,h.b.trans (hb.mono (Nat.le_trans hB h.rt.low))⟩
end
end RD
end Go.Proofs.YtfffibepcdlldaaGreat

namespace Go.Proofs.YtfffibepcdlldaaGreat
namespace RD
open DC (Of Ls Ps Ou Sm relS relO relA)
open IN (Fine Good)
variable {I L B k:Nat}{S:Sm}
theorem fine_c (hf:Fine I L B k S)(n:Int):Fine I L B k (IN.clS S n):=by
 unfold IN.clS
 cases hS:S n with
 | none=>exact hf
 | some d=>
   simp only
   split
   ·rename_i h
    have hg:=hf.good n d hS;have h1:=hg.links;have h2:=hg.opens;exact (IN.fine_gone (d1:={ d with opens:=d.opens-1 }) hf hS (Nat.le_refl _) rfl rfl h1 ⟨by simp only;omega,by simp only;omega⟩ rfl).1
   ·exact hf
theorem fine_rel (hf:Fine I L B k S)(O:Ou)(j:Nat):Fine I L B k (relS S O j):=by
 unfold relS
 split
 ·exact hf
 ·split
  ·exact hf
  ·exact fine_c hf _
end RD
end Go.Proofs.YtfffibepcdlldaaGreat

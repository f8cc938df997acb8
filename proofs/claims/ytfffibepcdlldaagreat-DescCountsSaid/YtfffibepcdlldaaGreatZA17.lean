/- A part. -/
import Derived.Test.YtfffibepcdlldaaGreatZA01
import Derived.Test.YtfffibepcdlldaaGreatZA16
import Derived.Deep.RegionHeld3
import Derived.OrdersHeld
set_option linter.unusedVariables false
set_option linter.unusedSimpArgs false
set_option maxRecDepth 100000
set_option maxHeartbeats 64000000
open Go.Proofs.Tryz

namespace Go.Proofs.YtfffibepcdlldaaGreat
open Go.ChangeShapes Go.WideShapes Go.ChangeAt Go.RowKit
namespace IN
section
variable {base:Nat}{rg:Nat}{I B L k:Nat}{S:Int->Option Nd}{z3 z4 z5 z6:Int}{v:Value}{q:List RE}
theorem drew_keep {w:World}(n:Nat):Below w.heap.size w (w.drewN n):=⟨rfl,rfl,rfl,Nat.le_refl _,fun _ _=>rfl⟩
theorem cellkept {w w':World}{p:Addr}{v:Value}(hb:Below w.heap.size w w')(h:w.cell? p=some v):w'.cell? p=some v:=by rw[hb.cell (cell_lt h)];exact h
theorem rMake_no (kd:Int)(w:World)(hI:I<=4096)(h:RS base w rg I B L (lst S I))(r:Int)(hr:mkR I S kd=r)(hr0:r≠0) :
 Calls prog 78 #[.pointer (some ⟨rg,0,none⟩),.int .i64 kd] w fun e w'=>e=.returned (.tuple #[.int .i64 0,.int .i64 r])/\Below w.heap.size w w':=by
 obtain⟨z3,z4,z5,z6,v,q,hM,hF⟩:=h;unfold mkR at hr
 by_cases hkd:kd=1∨kd=2
 ·rw[if_pos hkd] at hr
  by_cases hl:(lst S I).length<I
  ·rw[if_pos hl] at hr;exact absurd hr.symm hr0
  rw[if_neg hl] at hr;subst hr;have hlen:=hF.len;obtain⟨ao,cap,hv⟩:=Own.form hM.row;subst hv;have c0:=hM.box.cell (j:=0) rfl;have c7:=hM.box.cell (j:=7) rfl;obtain⟨N,hN⟩:∃ N,q.length=N:=⟨_,rfl⟩;rw[hN] at c7 hlen;have hNI:(I:Int)<=(N:Int):=by omega
  clear hM hF hN hl hr0 hlen;rcases hkd with rfl|rfl <;>
  ·go_enter func78,ntmps78
   go_wp2_with fail
   go_quiet (fail)
   go_wp2_with fail
   go_ret2
   exact⟨rfl,drew_keep _⟩
 ·rw[if_neg hkd] at hr;subst hr;have h1:¬ kd=1:=fun e=>hkd (.inl e);have h2:¬ kd=2:=fun e=>hkd (.inr e);have h3:(kd != 1)=true:=by simp[h1]
  have h4:(kd != 2)=true:=by simp[h2]
  replace h1:=Wd h1;replace h2:=Wd h2;clear hkd hM hF hr0;go_enter func78,ntmps78
  go_wp2_with fail
  go_ret2
  exact⟨rfl,Below.refl _ _⟩
theorem rMake_yes (kd:Int)(n:Nat)(w:World)(hI:I<=4096)(h:RS base w rg I B L (lst S I))(hr:mkR I S kd=0)(hlow:Low S n)(hnI:n<=I) :
 Calls prog 78 #[.pointer (some ⟨rg,0,none⟩),.int .i64 kd] w fun e w'=>e=.returned (.tuple #[.int .i64 (n:Int),.int .i64 0])/\RS base w' rg I B L (lst (upd S (n:Int) (some (newNd kd))) I)/\Keeps base DT w w':=by
 obtain⟨z3,z4,z5,z6,v,q,hM,hF⟩:=h;have hkd:kd=1∨kd=2:=by
  unfold mkR at hr
  by_cases e:kd=1∨kd=2
  ·exact e
  ·rw[if_neg e] at hr;cases hr
 have hl:(lst S I).length<I:=by
  unfold mkR at hr;rw[if_pos hkd] at hr
  by_cases e:(lst S I).length<I
  ·exact e
  ·rw[if_neg e] at hr;cases hr
 have hlen:=hF.len;have hlo:=low_lo hlow;have hsp:=split S n I hlow.1 hnI;rw[hlow.2.1] at hsp;simp only[Option.map_none,Option.toList_none,List.append_nil] at hsp;obtain⟨P,hP⟩:∃ P,(lo S n).length=P:=⟨_,rfl⟩;have hnP:n=P+1:=by have:=hlo.1;have:=hlow.1;omega
 have hPl:P<=(lst S I).length:=by rw[hsp,List.length_append];omega
 have hnew:=pl_new (d:=newNd kd) hlow.1 hnI hlow.2.1;rw[hP] at hnew;rw[hnew];have hel:∀ j (hj:j<q.length),(j<P->q[j].n=(j:Int)+1)/\(j=P->¬ q[j].n=(j:Int)+1):=by
  intro j hj;have e:=hF.at_ j hj (by omega);have hrise:=lst_rise S I;refine⟨fun hjP=>?_,fun hjP=>?_⟩
  ·rw[e.n];obtain⟨y,hy⟩:∃ y,(lst S I)[j]'(by omega)=y:=⟨_,rfl⟩;have h3:(lst S I)[j]? = some y:=by rw[List.getElem?_eq_getElem (by omega),hy]
   rw[hsp,List.getElem?_append_left (by omega)] at h3;have h4:=hlo.2 j _ h3;rw[hy]
   omega
  ·rw[e.n];intro h3;have h4:=(mem_lst.1 (List.getElem_mem (by omega:j<(lst S I).length))).2.2;have h5:((lst S I)[j].1:Int)=(n:Int):=by omega
   rw[h5,hlow.2.1] at h4
   cases h4
 obtain⟨ao,cap,hv⟩:=Own.form hM.row;subst hv;obtain⟨N,hN⟩:∃ N,q.length=N:=⟨_,rfl⟩;have hNI:(N:Int)<(I:Int):=by omega
 have hPN:P<=N:=by omega
 have hN4:N<=4096:=by omega
 have hcaps:N<=cap/\cap<=9223372036854775807/\(ao=none∨∃ b o,ao=some ⟨b,o,none⟩)/\(ao=none->cap=0):=by
  rcases hM.row.2 with ⟨h1,h2⟩|⟨g,cap',cur,h1,h2,h3,h4,h5,h6⟩
  ·simp only[Value.slice.injEq] at h1;exact⟨by omega,by omega,.inl h1.1,fun _=>h1.2.2⟩
  ·simp only[Value.slice.injEq] at h1;obtain⟨rfl,e1,rfl⟩:=h1;exact⟨by omega,by unfold maxLen at h5;omega,.inr ⟨_,_,rfl⟩,fun e=>by cases e⟩
 obtain⟨hc1,hc2,hc3,hc4⟩:=hcaps;have c0:=hM.box.cell (j:=0) rfl;have c7:=hM.box.cell (j:=7) rfl;rw[hN] at c7;have H:=Wd hM;have hbase:=Wd hM.low;have HF:=Wd hF;have hel:=Wd hel;have hN:=Wd hN;have hnP:=Wd hnP;clear hM hF hl hlen hlo hsp hnew hr hlow hP hPl;obtain⟨X,hmk,hmo⟩:=Own.make_room (t:=120) underlying120 info_ino (N+1) ((N:Int)+1) (by omega) (by omega) (by omega);have hhi:=Own.cut_hi (t:=120) underlying120 elem_ino info_ino ao N cap P hPN hc1 hc3;have hwN:IntKind.i64.wrap ((N:Int)+1)=(N:Int)+1:=IntWalk.i64_in _ (by omega);have hwP:IntKind.i64.wrap ((P:Int)+1)=(P:Int)+1:=IntWalk.i64_in _ (by omega);have hPN':(P:Int)<=(N:Int):=by omega
 have hmo:=Wd hmo;have hc3:=Wd hc3;have hc4:=Wd hc4;have hhi:=Wd hhi;rcases hkd with rfl|rfl
 ·go_enter func78,ntmps78
  go_wp2_with fail
  go_quiet (fail)
  go_wp2_with fail
  have H1:=Wd (H.out.drewN nq);have HF1:=Wd (HF.out.drewN nq);have hb1:=Wd (drew_keep (w:=w) nq);have d0:=H1.out.box.cell (j:=0) rfl;have d7:=H1.out.box.cell (j:=7) rfl;rw[hN.out] at d7;obtain⟨w1,hw1⟩:∃ w1,w.drewN nq=w1:=⟨_,rfl⟩;rw[hw1] at H1 HF1 hb1 d0 d7 ⊢;clear hw1 c0 c7 H HF;go_loopw [6] (fun i wr=>∃ j:Nat,j<=P/\i=.int .i64 (j:Int)/\w1=wr) (fun i _=>P-(intOf i).toNat)
  case atStart=>exact⟨0,Nat.zero_le _,rfl,rfl⟩
  case round=>
   obtain⟨j,hj,rfl,hwr⟩:=hrel;subst hwr
   by_cases hjP:j<P
   ·have hjq:j<q.length:=by rw[hN.out];omega
    obtain⟨g,N',cap',hv,hN',-,-,-,-,-,-,-,-,-,-,-,-,-,e0,-⟩:=H1.out.opened hjq;rw[hN.out] at hv;simp only[Value.slice.injEq] at hv;obtain⟨rfl,-,-⟩:=hv;rw[(hel.out j hjq).1 hjP] at e0;have hjN:(j:Int)<(N:Int):=by omega
    have hwj:IntKind.i64.wrap ((j:Int)+1)=(j:Int)+1:=IntWalk.i64_in _ (by omega);clear hN' N' hjq;go_wp2_with fail
    go_roundw
    case rel=>exact⟨j+1,by omega,by go_num,by first|trivial|rfl⟩
    case measure=>simp[intOf];omega
   ·obtain rfl:j=P:=by omega
    have hcase:Hid (j=N)∨(j<N/\∃ g a,ao=some ⟨g,0,none⟩/\w1.cell? ⟨g,j*7,none⟩=some (.int .i64 a)/\¬ a=(j:Int)+1):=by
     rcases Nat.lt_or_ge j N with hlt|hge
     ·right
      have hjq:j<q.length:=by rw[hN.out];omega
      obtain⟨g,N',cap',hv,hN',-,-,-,-,-,-,-,-,-,-,-,-,-,e0,-⟩:=H1.out.opened hjq;rw[hN.out] at hv;simp only[Value.slice.injEq] at hv;exact⟨hlt,g,_,hv.1,e0,(hel.out j hjq).2 rfl⟩
     ·left;exact Wd (by omega)
    have hS1:=Wd (Own.src_take (v:=.slice ao N cap) (by have:=H1.out.row;rw[hN.out] at this;exact this) rfl j hPN);have hone1:Hid (∀ u∈(rcl q).take (j*7),u.oneCell'=true):=Wd (fun u hu=>HF1.out.one u (List.mem_of_mem_take hu));have hone3:Hid (∀ u∈(rcl q).drop (j*7),u.oneCell'=true):=Wd (fun u hu=>HF1.out.one u (List.mem_of_mem_drop hu));obtain⟨ad,hlo3,hsrc3⟩:∃ ad:Value,(∀ W:World,(Instr.slice 120 (.slice ao N cap) (some (.int .i64 (j:Int))) none none).run prog W=.ok ad W)/\Hid (Own.Src w1 7 ad (N-j) ((rcl q).drop (j*7))/\∀ aa n c,ad=.slice (some aa) n c->aa.block<w1.heap.size):=by
     rcases hc3.out with e|⟨b,ob,e⟩
     ·have e2:=hc4.out e;obtain rfl:N=0:=by omega
      subst e;subst e2;obtain rfl:j=0:=by omega
      refine⟨.slice none 0 0,Own.cut_none (t:=120) underlying120 elem_ino info_ino,Wd ⟨.inl ⟨rfl,rfl,?_⟩,fun aa n c e=>by simp at e⟩⟩;rw[Nat.zero_mul,List.drop_zero];exact List.eq_nil_of_length_eq_zero (by rw[rcl_len,hN.out])
     ·subst e;have hrow:=H1.out.row;rw[hN.out] at hrow;obtain⟨ad,hl1,hl2,hl3⟩:=Own.cut_lo (t:=120) underlying120 elem_ino info_ino b ob N cap j (j:Int) rfl hPN hc1;refine⟨_,hl1,Wd ⟨Own.src_drop hrow j hPN ad _ hl3,fun aa n c e=>?_⟩⟩;simp only[Value.slice.injEq,Option.some.injEq] at e;obtain⟨rfl,-,-⟩:=e;rw[hl2];rcases hrow.2 with ⟨e,_⟩|⟨g,cap',cur,e,_,hg,_⟩
      ·simp at e
      ·simp only[Value.slice.injEq,Option.some.injEq,Addr.mk.injEq] at e;rw[e.1.1];exact lt_of_some hg
    have xa:∀ ob,(w1.drew.alloc ob).cell? ⟨rg,7,none⟩=some (.slice ao N cap):=fun ob=>cellkept (((Below.refl w1.heap.size w1).drew).alloc (Nat.le_refl _) ob) d7;have A1:Hid ((w1.drew.alloc X).ownsRow w1.heap.size 125 7 (.slice (some ⟨w1.heap.size,0,none⟩) 0 (N+1)) 0 []):=Wd (hmo.out w1.drew w1.heap.size (Nat.le_refl _));have hrl:=Wd H1.out.box.lt;have hbS:=Wd (((Below.refl w1.heap.size w1).drew).alloc (Nat.le_refl _) X);have hhi':=hhi.out;rcases hcase with h1|⟨h1,g,a,rfl,e0,e1⟩
    ·have hge:(N:Int)<=(j:Int):=by have:=h1.out;omega
     go_wp2_with fail
     refine wp_region_held_drew (S:=(fun w'=>w'.cell? ⟨rg,7,none⟩=some (.slice ao N cap))) (by kernel_rfl) d7 (fun hHeld=>?_);refine wt (i:=0) (v:=.pointer (some ⟨rg,0,none⟩)) hHeld ?_;refine wt (i:=1) (v:=.pointer (some ⟨rg,0,none⟩)) hHeld ?_;refine wt (i:=2) (v:=.pointer (some ⟨rg,7,none⟩)) hHeld ?_;refine wt (i:=3) (v:=.slice ao N cap) hHeld ?_;refine wt (i:=4) (v:=.int .i64 (N:Int)) hHeld ?_;refine wt (i:=5) (v:=.int .i64 ((N:Int)+1)) hHeld ?_;refine wt (i:=7) (v:=.pointer (some ⟨rg,0,none⟩)) hHeld ?_;refine wt (i:=8) (v:=.pointer (some ⟨rg,0,none⟩)) hHeld ?_;refine wt (i:=9) (v:=.pointer (some ⟨rg,7,none⟩)) hHeld ?_;refine wt (i:=10) (v:=.slice ao N cap) hHeld ?_;refine wt (i:=11) (v:=.int .i64 (j:Int)) hHeld ?_;refine wt (i:=12) (v:=.slice ao j cap) hHeld ?_;refine wpAnyH_ready (rs:=[6]) (by kernel_rfl) (by simp) ?_;refine AllReadyH.cons rfl (fun K hK=>?_) AllReadyH.nil;go_simp
     refine hK.out _ _ (xa X) (fun hHeld1=>?_);clear hK K
     try simp only[Act.put,List.setIfInBounds_toArray,List.set_cons_zero,List.set_cons_succ,List.getElem_toArray,List.getElem_cons_zero,List.getElem_cons_succ]
     refine wpAnyH_ready (rs:=[13]) (by kernel_rfl) (by simp) ?_;refine AllReadyH.cons rfl (fun K hK=>?_) AllReadyH.nil;refine Own.step_app rfl (.tmp 54) (.tmp 60) 120 rfl underlying120 info_ino (.slice (some ⟨w1.heap.size,0,none⟩) 0 (N+1)) (.slice ao j cap) rfl rfl A1.out (by simp) (hS1.out.keep hbS.out) hone1.out (by unfold maxLen;omega) (by omega) ?_;intro v2 w2 ho2 hg2 hob2;rw[Nat.zero_add] at ho2;obtain⟨a2,c2,rfl⟩:=Own.form ho2;have A2:=Wd ho2;have B2:=Wd (hbS.out.grown hg2 (by simp) (fun jj hj=>Own.ge A1.out jj hj));have y2:=cellkept B2.out d7;clear ho2 hg2 hob2;refine hK.out _ _ y2 (fun hHeld2=>?_);clear hK K
     try simp only[Act.put,List.setIfInBounds_toArray,List.set_cons_zero,List.set_cons_succ,List.getElem_toArray,List.getElem_cons_zero,List.getElem_cons_succ]
     refine wt (i:=14) (v:=.slice a2 j c2) hHeld2 ?_;refine wpAnyH_done (by kernel_rfl) ?_ _;have hblk:=Blk.new w2 125 (rrow ⟨(j:Int)+1,1,1,0,0,0,.slice none 0 0⟩) rfl;have B2a:=Wd (B2.out.alloc B2.out.size (.cells #[.int .i64 ((j:Int)+1),.int .i64 1,.int .i64 1,.int .i64 0,.int .i64 0,.int .i64 0,.slice none 0 0] 125));have A2a:=Wd (Own.below A2.out ((Below.refl w2.heap.size w2).alloc (Nat.le_refl _) (.cells #[.int .i64 ((j:Int)+1),.int .i64 1,.int .i64 1,.int .i64 0,.int .i64 0,.int .i64 0,.slice none 0 0] 125)))
     have S2a:Hid (Own.Src (w2.alloc (.cells #[.int .i64 ((j:Int)+1),.int .i64 1,.int .i64 1,.int .i64 0,.int .i64 0,.int .i64 0,.slice none 0 0] 125)) 7 (.slice (some ⟨w2.heap.size,0,none⟩) 1 1) 1 (rrow ⟨(j:Int)+1,1,1,0,0,0,.slice none 0 0⟩)):=Wd (.inr ⟨_,_,rfl,rfl,fun i u hi=>by
      have:=hblk.cell hi;rw[Addr.add_lit,Nat.zero_add]
      exact this⟩)
     clear hblk
     go_wp2_with (first
      | (at_builtin;refine Own.wpList_app rfl (.tmp 62) (.tmp 68) 120 rfl underlying120 info_ino (.slice a2 j c2) (.slice (some ⟨w2.heap.size,0,none⟩) 1 1) rfl rfl A2a.out B2a.out.size S2a.out (rrow_one rfl) (by unfold maxLen;omega) (by omega) ?_;intro v3 w3 ho3 hg3 hob3;obtain⟨a3,c3,rfl⟩:=Own.form ho3;have A3:=Wd ho3;have B3:=Wd (B2a.out.grown hg3 B2a.out.size (fun k h=>Own.ge A2a.out k h));have S3:=Wd (hsrc3.out.1.keep B3.out);have y7:=cellkept B3.out d7;clear ho3 hg3 hob3)
      | (at_builtin;refine Own.wpList_app rfl (.tmp 71) (.tmp 77) 120 rfl underlying120 info_ino (.slice a3 (j+1) c3) ad rfl rfl A3.out B3.out.size S3.out hone3.out (by unfold maxLen;omega) (by omega) ?_;intro v4 w4 ho4 hg4 hob4;obtain⟨a4,c4,rfl⟩:=Own.form ho4;have B4:=Wd (B3.out.grown hg4 B3.out.size (fun k h=>Own.ge A3.out k h));have A4:=Wd ho4;have f4:=(H1.out.box.below B4.out hrl.out).fz;have z7:=(H1.out.box.below B4.out hrl.out).cell (j:=7) rfl;clear ho4 hg4 hob4))
     go_wp2_with fail
     go_ret2
     obtain⟨q1,q2⟩:=H1.out.newRow (q':=q.take j ++ (⟨(j:Int)+1,1,1,0,0,0,.slice none 0 0⟩:RE) :: q.drop j) B4.out (by
      have e1:(q.take j ++ (⟨(j:Int)+1,1,1,0,0,0,.slice none 0 0⟩:RE) :: q.drop j).length=j+1+(N-j):=by
       rw[List.length_append,List.length_take,List.length_cons,List.length_drop,hN.out];omega
      have e2:rcl (q.take j ++ (⟨(j:Int)+1,1,1,0,0,0,.slice none 0 0⟩:RE) :: q.drop j)=[] ++ (rcl q).take (j*7) ++ rrow ⟨(j:Int)+1,1,1,0,0,0,.slice none 0 0⟩ ++ (rcl q).drop (j*7):=by
       rw[rcl_take,rcl_drop,show q.take j ++ (⟨(j:Int)+1,1,1,0,0,0,.slice none 0 0⟩:RE) :: q.drop j=q.take j ++ ([⟨(j:Int)+1,1,1,0,0,0,.slice none 0 0⟩] ++ q.drop j) from rfl,rcl_app,rcl_app,rcl_one];simp only[List.nil_append,List.append_assoc]
      rw[e1,e2]
      exact A4.out)
     refine⟨by rw[hnP.out];rfl,⟨_,_,_,_,_,_,q1,?_⟩,(Keeps.new hb1.out (Nat.le_trans hbase.out (Nat.le_refl _))).trans q2⟩;exact ((HF1.out.take j).app (show Fits w1 (_ :: _) (_ :: _) from ⟨⟨by rw[hnP.out];rfl,rfl,rfl,rfl,rfl,rfl,XE.nil _⟩,HF1.out.drop j⟩)).keeps q2 (by simp[DT])
    ·have hlt:(j:Int)<(N:Int):=by omega
     go_wp2_with fail
     refine wp_region_held_drew (S:=(fun w'=>w'.cell? ⟨rg,7,none⟩=some (.slice (some ⟨g,0,none⟩) N cap))) (by kernel_rfl) d7 (fun hHeld=>?_);refine wt (i:=0) (v:=.pointer (some ⟨rg,0,none⟩)) hHeld ?_;refine wt (i:=1) (v:=.pointer (some ⟨rg,0,none⟩)) hHeld ?_;refine wt (i:=2) (v:=.pointer (some ⟨rg,7,none⟩)) hHeld ?_;refine wt (i:=3) (v:=.slice (some ⟨g,0,none⟩) N cap) hHeld ?_;refine wt (i:=4) (v:=.int .i64 (N:Int)) hHeld ?_;refine wt (i:=5) (v:=.int .i64 ((N:Int)+1)) hHeld ?_;refine wt (i:=7) (v:=.pointer (some ⟨rg,0,none⟩)) hHeld ?_;refine wt (i:=8) (v:=.pointer (some ⟨rg,0,none⟩)) hHeld ?_;refine wt (i:=9) (v:=.pointer (some ⟨rg,7,none⟩)) hHeld ?_;refine wt (i:=10) (v:=.slice (some ⟨g,0,none⟩) N cap) hHeld ?_;refine wt (i:=11) (v:=.int .i64 (j:Int)) hHeld ?_;refine wt (i:=12) (v:=.slice (some ⟨g,0,none⟩) j cap) hHeld ?_;refine wpAnyH_ready (rs:=[6]) (by kernel_rfl) (by simp) ?_;refine AllReadyH.cons rfl (fun K hK=>?_) AllReadyH.nil;go_simp
     refine hK.out _ _ (xa X) (fun hHeld1=>?_);clear hK K
     try simp only[Act.put,List.setIfInBounds_toArray,List.set_cons_zero,List.set_cons_succ,List.getElem_toArray,List.getElem_cons_zero,List.getElem_cons_succ]
     refine wpAnyH_ready (rs:=[13]) (by kernel_rfl) (by simp) ?_;refine AllReadyH.cons rfl (fun K hK=>?_) AllReadyH.nil;refine Own.step_app rfl (.tmp 54) (.tmp 60) 120 rfl underlying120 info_ino (.slice (some ⟨w1.heap.size,0,none⟩) 0 (N+1)) (.slice (some ⟨g,0,none⟩) j cap) rfl rfl A1.out (by simp) (hS1.out.keep hbS.out) hone1.out (by unfold maxLen;omega) (by omega) ?_;intro v2 w2 ho2 hg2 hob2;rw[Nat.zero_add] at ho2;obtain⟨a2,c2,rfl⟩:=Own.form ho2;have A2:=Wd ho2;have B2:=Wd (hbS.out.grown hg2 (by simp) (fun jj hj=>Own.ge A1.out jj hj));have y2:=cellkept B2.out d7;clear ho2 hg2 hob2;refine hK.out _ _ y2 (fun hHeld2=>?_);clear hK K
     try simp only[Act.put,List.setIfInBounds_toArray,List.set_cons_zero,List.set_cons_succ,List.getElem_toArray,List.getElem_cons_zero,List.getElem_cons_succ]
     refine wt (i:=14) (v:=.slice a2 j c2) hHeld2 ?_;refine wpAnyH_done (by kernel_rfl) ?_ _;have hblk:=Blk.new w2 125 (rrow ⟨(j:Int)+1,1,1,0,0,0,.slice none 0 0⟩) rfl;have B2a:=Wd (B2.out.alloc B2.out.size (.cells #[.int .i64 ((j:Int)+1),.int .i64 1,.int .i64 1,.int .i64 0,.int .i64 0,.int .i64 0,.slice none 0 0] 125));have A2a:=Wd (Own.below A2.out ((Below.refl w2.heap.size w2).alloc (Nat.le_refl _) (.cells #[.int .i64 ((j:Int)+1),.int .i64 1,.int .i64 1,.int .i64 0,.int .i64 0,.int .i64 0,.slice none 0 0] 125)))
     have S2a:Hid (Own.Src (w2.alloc (.cells #[.int .i64 ((j:Int)+1),.int .i64 1,.int .i64 1,.int .i64 0,.int .i64 0,.int .i64 0,.slice none 0 0] 125)) 7 (.slice (some ⟨w2.heap.size,0,none⟩) 1 1) 1 (rrow ⟨(j:Int)+1,1,1,0,0,0,.slice none 0 0⟩)):=Wd (.inr ⟨_,_,rfl,rfl,fun i u hi=>by
      have:=hblk.cell hi;rw[Addr.add_lit,Nat.zero_add]
      exact this⟩)
     clear hblk
     go_wp2_with (first
      | (at_builtin;refine Own.wpList_app rfl (.tmp 62) (.tmp 68) 120 rfl underlying120 info_ino (.slice a2 j c2) (.slice (some ⟨w2.heap.size,0,none⟩) 1 1) rfl rfl A2a.out B2a.out.size S2a.out (rrow_one rfl) (by unfold maxLen;omega) (by omega) ?_;intro v3 w3 ho3 hg3 hob3;obtain⟨a3,c3,rfl⟩:=Own.form ho3;have A3:=Wd ho3;have B3:=Wd (B2a.out.grown hg3 B2a.out.size (fun k h=>Own.ge A2a.out k h));have S3:=Wd (hsrc3.out.1.keep B3.out);have y7:=cellkept B3.out d7;clear ho3 hg3 hob3)
      | (at_builtin;refine Own.wpList_app rfl (.tmp 71) (.tmp 77) 120 rfl underlying120 info_ino (.slice a3 (j+1) c3) ad rfl rfl A3.out B3.out.size S3.out hone3.out (by unfold maxLen;omega) (by omega) ?_;intro v4 w4 ho4 hg4 hob4;obtain⟨a4,c4,rfl⟩:=Own.form ho4;have B4:=Wd (B3.out.grown hg4 B3.out.size (fun k h=>Own.ge A3.out k h));have A4:=Wd ho4;have f4:=(H1.out.box.below B4.out hrl.out).fz;have z7:=(H1.out.box.below B4.out hrl.out).cell (j:=7) rfl;clear ho4 hg4 hob4))
     go_wp2_with fail
     go_ret2
     obtain⟨q1,q2⟩:=H1.out.newRow (q':=q.take j ++ (⟨(j:Int)+1,1,1,0,0,0,.slice none 0 0⟩:RE) :: q.drop j) B4.out (by
      have e1:(q.take j ++ (⟨(j:Int)+1,1,1,0,0,0,.slice none 0 0⟩:RE) :: q.drop j).length=j+1+(N-j):=by
       rw[List.length_append,List.length_take,List.length_cons,List.length_drop,hN.out];omega
      have e2:rcl (q.take j ++ (⟨(j:Int)+1,1,1,0,0,0,.slice none 0 0⟩:RE) :: q.drop j)=[] ++ (rcl q).take (j*7) ++ rrow ⟨(j:Int)+1,1,1,0,0,0,.slice none 0 0⟩ ++ (rcl q).drop (j*7):=by
       rw[rcl_take,rcl_drop,show q.take j ++ (⟨(j:Int)+1,1,1,0,0,0,.slice none 0 0⟩:RE) :: q.drop j=q.take j ++ ([⟨(j:Int)+1,1,1,0,0,0,.slice none 0 0⟩] ++ q.drop j) from rfl,rcl_app,rcl_app,rcl_one];simp only[List.nil_append,List.append_assoc]
      rw[e1,e2]
      exact A4.out)
     refine⟨by rw[hnP.out];rfl,⟨_,_,_,_,_,_,q1,?_⟩,(Keeps.new hb1.out (Nat.le_trans hbase.out (Nat.le_refl _))).trans q2⟩;exact ((HF1.out.take j).app (show Fits w1 (_ :: _) (_ :: _) from ⟨⟨by rw[hnP.out];rfl,rfl,rfl,rfl,rfl,rfl,XE.nil _⟩,HF1.out.drop j⟩)).keeps q2 (by simp[DT])
 ·go_enter func78,ntmps78
  go_wp2_with fail
  go_quiet (fail)
  go_wp2_with fail
  have H1:=Wd (H.out.drewN nq);have HF1:=Wd (HF.out.drewN nq);have hb1:=Wd (drew_keep (w:=w) nq);have d0:=H1.out.box.cell (j:=0) rfl;have d7:=H1.out.box.cell (j:=7) rfl;rw[hN.out] at d7;obtain⟨w1,hw1⟩:∃ w1,w.drewN nq=w1:=⟨_,rfl⟩;rw[hw1] at H1 HF1 hb1 d0 d7 ⊢;clear hw1 c0 c7 H HF;go_loopw [6] (fun i wr=>∃ j:Nat,j<=P/\i=.int .i64 (j:Int)/\w1=wr) (fun i _=>P-(intOf i).toNat)
  case atStart=>exact⟨0,Nat.zero_le _,rfl,rfl⟩
  case round=>
   obtain⟨j,hj,rfl,hwr⟩:=hrel;subst hwr
   by_cases hjP:j<P
   ·have hjq:j<q.length:=by rw[hN.out];omega
    obtain⟨g,N',cap',hv,hN',-,-,-,-,-,-,-,-,-,-,-,-,-,e0,-⟩:=H1.out.opened hjq;rw[hN.out] at hv;simp only[Value.slice.injEq] at hv;obtain⟨rfl,-,-⟩:=hv;rw[(hel.out j hjq).1 hjP] at e0;have hjN:(j:Int)<(N:Int):=by omega
    have hwj:IntKind.i64.wrap ((j:Int)+1)=(j:Int)+1:=IntWalk.i64_in _ (by omega);clear hN' N' hjq;go_wp2_with fail
    go_roundw
    case rel=>exact⟨j+1,by omega,by go_num,by first|trivial|rfl⟩
    case measure=>simp[intOf];omega
   ·obtain rfl:j=P:=by omega
    have hcase:Hid (j=N)∨(j<N/\∃ g a,ao=some ⟨g,0,none⟩/\w1.cell? ⟨g,j*7,none⟩=some (.int .i64 a)/\¬ a=(j:Int)+1):=by
     rcases Nat.lt_or_ge j N with hlt|hge
     ·right
      have hjq:j<q.length:=by rw[hN.out];omega
      obtain⟨g,N',cap',hv,hN',-,-,-,-,-,-,-,-,-,-,-,-,-,e0,-⟩:=H1.out.opened hjq;rw[hN.out] at hv;simp only[Value.slice.injEq] at hv;exact⟨hlt,g,_,hv.1,e0,(hel.out j hjq).2 rfl⟩
     ·left;exact Wd (by omega)
    have hS1:=Wd (Own.src_take (v:=.slice ao N cap) (by have:=H1.out.row;rw[hN.out] at this;exact this) rfl j hPN);have hone1:Hid (∀ u∈(rcl q).take (j*7),u.oneCell'=true):=Wd (fun u hu=>HF1.out.one u (List.mem_of_mem_take hu));have hone3:Hid (∀ u∈(rcl q).drop (j*7),u.oneCell'=true):=Wd (fun u hu=>HF1.out.one u (List.mem_of_mem_drop hu));obtain⟨ad,hlo3,hsrc3⟩:∃ ad:Value,(∀ W:World,(Instr.slice 120 (.slice ao N cap) (some (.int .i64 (j:Int))) none none).run prog W=.ok ad W)/\Hid (Own.Src w1 7 ad (N-j) ((rcl q).drop (j*7))/\∀ aa n c,ad=.slice (some aa) n c->aa.block<w1.heap.size):=by
     rcases hc3.out with e|⟨b,ob,e⟩
     ·have e2:=hc4.out e;obtain rfl:N=0:=by omega
      subst e;subst e2;obtain rfl:j=0:=by omega
      refine⟨.slice none 0 0,Own.cut_none (t:=120) underlying120 elem_ino info_ino,Wd ⟨.inl ⟨rfl,rfl,?_⟩,fun aa n c e=>by simp at e⟩⟩;rw[Nat.zero_mul,List.drop_zero];exact List.eq_nil_of_length_eq_zero (by rw[rcl_len,hN.out])
     ·subst e;have hrow:=H1.out.row;rw[hN.out] at hrow;obtain⟨ad,hl1,hl2,hl3⟩:=Own.cut_lo (t:=120) underlying120 elem_ino info_ino b ob N cap j (j:Int) rfl hPN hc1;refine⟨_,hl1,Wd ⟨Own.src_drop hrow j hPN ad _ hl3,fun aa n c e=>?_⟩⟩;simp only[Value.slice.injEq,Option.some.injEq] at e;obtain⟨rfl,-,-⟩:=e;rw[hl2];rcases hrow.2 with ⟨e,_⟩|⟨g,cap',cur,e,_,hg,_⟩
      ·simp at e
      ·simp only[Value.slice.injEq,Option.some.injEq,Addr.mk.injEq] at e;rw[e.1.1];exact lt_of_some hg
    have xa:∀ ob,(w1.drew.alloc ob).cell? ⟨rg,7,none⟩=some (.slice ao N cap):=fun ob=>cellkept (((Below.refl w1.heap.size w1).drew).alloc (Nat.le_refl _) ob) d7;have A1:Hid ((w1.drew.alloc X).ownsRow w1.heap.size 125 7 (.slice (some ⟨w1.heap.size,0,none⟩) 0 (N+1)) 0 []):=Wd (hmo.out w1.drew w1.heap.size (Nat.le_refl _));have hrl:=Wd H1.out.box.lt;have hbS:=Wd (((Below.refl w1.heap.size w1).drew).alloc (Nat.le_refl _) X);have hhi':=hhi.out;rcases hcase with h1|⟨h1,g,a,rfl,e0,e1⟩
    ·have hge:(N:Int)<=(j:Int):=by have:=h1.out;omega
     go_wp2_with fail
     refine wp_region_held_drew (S:=(fun w'=>w'.cell? ⟨rg,7,none⟩=some (.slice ao N cap))) (by kernel_rfl) d7 (fun hHeld=>?_);refine wt (i:=0) (v:=.pointer (some ⟨rg,0,none⟩)) hHeld ?_;refine wt (i:=1) (v:=.pointer (some ⟨rg,0,none⟩)) hHeld ?_;refine wt (i:=2) (v:=.pointer (some ⟨rg,7,none⟩)) hHeld ?_;refine wt (i:=3) (v:=.slice ao N cap) hHeld ?_;refine wt (i:=4) (v:=.int .i64 (N:Int)) hHeld ?_;refine wt (i:=5) (v:=.int .i64 ((N:Int)+1)) hHeld ?_;refine wt (i:=7) (v:=.pointer (some ⟨rg,0,none⟩)) hHeld ?_;refine wt (i:=8) (v:=.pointer (some ⟨rg,0,none⟩)) hHeld ?_;refine wt (i:=9) (v:=.pointer (some ⟨rg,7,none⟩)) hHeld ?_;refine wt (i:=10) (v:=.slice ao N cap) hHeld ?_;refine wt (i:=11) (v:=.int .i64 (j:Int)) hHeld ?_;refine wt (i:=12) (v:=.slice ao j cap) hHeld ?_;refine wpAnyH_ready (rs:=[6]) (by kernel_rfl) (by simp) ?_;refine AllReadyH.cons rfl (fun K hK=>?_) AllReadyH.nil;go_simp
     refine hK.out _ _ (xa X) (fun hHeld1=>?_);clear hK K
     try simp only[Act.put,List.setIfInBounds_toArray,List.set_cons_zero,List.set_cons_succ,List.getElem_toArray,List.getElem_cons_zero,List.getElem_cons_succ]
     refine wpAnyH_ready (rs:=[13]) (by kernel_rfl) (by simp) ?_;refine AllReadyH.cons rfl (fun K hK=>?_) AllReadyH.nil;refine Own.step_app rfl (.tmp 54) (.tmp 60) 120 rfl underlying120 info_ino (.slice (some ⟨w1.heap.size,0,none⟩) 0 (N+1)) (.slice ao j cap) rfl rfl A1.out (by simp) (hS1.out.keep hbS.out) hone1.out (by unfold maxLen;omega) (by omega) ?_;intro v2 w2 ho2 hg2 hob2;rw[Nat.zero_add] at ho2;obtain⟨a2,c2,rfl⟩:=Own.form ho2;have A2:=Wd ho2;have B2:=Wd (hbS.out.grown hg2 (by simp) (fun jj hj=>Own.ge A1.out jj hj));have y2:=cellkept B2.out d7;clear ho2 hg2 hob2;refine hK.out _ _ y2 (fun hHeld2=>?_);clear hK K
     try simp only[Act.put,List.setIfInBounds_toArray,List.set_cons_zero,List.set_cons_succ,List.getElem_toArray,List.getElem_cons_zero,List.getElem_cons_succ]
     refine wt (i:=14) (v:=.slice a2 j c2) hHeld2 ?_;refine wpAnyH_done (by kernel_rfl) ?_ _;have hblk:=Blk.new w2 125 (rrow ⟨(j:Int)+1,2,1,0,0,0,.slice none 0 0⟩) rfl;have B2a:=Wd (B2.out.alloc B2.out.size (.cells #[.int .i64 ((j:Int)+1),.int .i64 2,.int .i64 1,.int .i64 0,.int .i64 0,.int .i64 0,.slice none 0 0] 125));have A2a:=Wd (Own.below A2.out ((Below.refl w2.heap.size w2).alloc (Nat.le_refl _) (.cells #[.int .i64 ((j:Int)+1),.int .i64 2,.int .i64 1,.int .i64 0,.int .i64 0,.int .i64 0,.slice none 0 0] 125)))
     have S2a:Hid (Own.Src (w2.alloc (.cells #[.int .i64 ((j:Int)+1),.int .i64 2,.int .i64 1,.int .i64 0,.int .i64 0,.int .i64 0,.slice none 0 0] 125)) 7 (.slice (some ⟨w2.heap.size,0,none⟩) 1 1) 1 (rrow ⟨(j:Int)+1,2,1,0,0,0,.slice none 0 0⟩)):=Wd (.inr ⟨_,_,rfl,rfl,fun i u hi=>by
      have:=hblk.cell hi;rw[Addr.add_lit,Nat.zero_add]
      exact this⟩)
     clear hblk
     go_wp2_with (first
      | (at_builtin;refine Own.wpList_app rfl (.tmp 62) (.tmp 68) 120 rfl underlying120 info_ino (.slice a2 j c2) (.slice (some ⟨w2.heap.size,0,none⟩) 1 1) rfl rfl A2a.out B2a.out.size S2a.out (rrow_one rfl) (by unfold maxLen;omega) (by omega) ?_;intro v3 w3 ho3 hg3 hob3;obtain⟨a3,c3,rfl⟩:=Own.form ho3;have A3:=Wd ho3;have B3:=Wd (B2a.out.grown hg3 B2a.out.size (fun k h=>Own.ge A2a.out k h));have S3:=Wd (hsrc3.out.1.keep B3.out);have y7:=cellkept B3.out d7;clear ho3 hg3 hob3)
      | (at_builtin;refine Own.wpList_app rfl (.tmp 71) (.tmp 77) 120 rfl underlying120 info_ino (.slice a3 (j+1) c3) ad rfl rfl A3.out B3.out.size S3.out hone3.out (by unfold maxLen;omega) (by omega) ?_;intro v4 w4 ho4 hg4 hob4;obtain⟨a4,c4,rfl⟩:=Own.form ho4;have B4:=Wd (B3.out.grown hg4 B3.out.size (fun k h=>Own.ge A3.out k h));have A4:=Wd ho4;have f4:=(H1.out.box.below B4.out hrl.out).fz;have z7:=(H1.out.box.below B4.out hrl.out).cell (j:=7) rfl;clear ho4 hg4 hob4))
     go_wp2_with fail
     go_ret2
     obtain⟨q1,q2⟩:=H1.out.newRow (q':=q.take j ++ (⟨(j:Int)+1,2,1,0,0,0,.slice none 0 0⟩:RE) :: q.drop j) B4.out (by
      have e1:(q.take j ++ (⟨(j:Int)+1,2,1,0,0,0,.slice none 0 0⟩:RE) :: q.drop j).length=j+1+(N-j):=by
       rw[List.length_append,List.length_take,List.length_cons,List.length_drop,hN.out];omega
      have e2:rcl (q.take j ++ (⟨(j:Int)+1,2,1,0,0,0,.slice none 0 0⟩:RE) :: q.drop j)=[] ++ (rcl q).take (j*7) ++ rrow ⟨(j:Int)+1,2,1,0,0,0,.slice none 0 0⟩ ++ (rcl q).drop (j*7):=by
       rw[rcl_take,rcl_drop,show q.take j ++ (⟨(j:Int)+1,2,1,0,0,0,.slice none 0 0⟩:RE) :: q.drop j=q.take j ++ ([⟨(j:Int)+1,2,1,0,0,0,.slice none 0 0⟩] ++ q.drop j) from rfl,rcl_app,rcl_app,rcl_one];simp only[List.nil_append,List.append_assoc]
      rw[e1,e2]
      exact A4.out)
     refine⟨by rw[hnP.out];rfl,⟨_,_,_,_,_,_,q1,?_⟩,(Keeps.new hb1.out (Nat.le_trans hbase.out (Nat.le_refl _))).trans q2⟩;exact ((HF1.out.take j).app (show Fits w1 (_ :: _) (_ :: _) from ⟨⟨by rw[hnP.out];rfl,rfl,rfl,rfl,rfl,rfl,XE.nil _⟩,HF1.out.drop j⟩)).keeps q2 (by simp[DT])
    ·have hlt:(j:Int)<(N:Int):=by omega
     go_wp2_with fail
     refine wp_region_held_drew (S:=(fun w'=>w'.cell? ⟨rg,7,none⟩=some (.slice (some ⟨g,0,none⟩) N cap))) (by kernel_rfl) d7 (fun hHeld=>?_);refine wt (i:=0) (v:=.pointer (some ⟨rg,0,none⟩)) hHeld ?_;refine wt (i:=1) (v:=.pointer (some ⟨rg,0,none⟩)) hHeld ?_;refine wt (i:=2) (v:=.pointer (some ⟨rg,7,none⟩)) hHeld ?_;refine wt (i:=3) (v:=.slice (some ⟨g,0,none⟩) N cap) hHeld ?_;refine wt (i:=4) (v:=.int .i64 (N:Int)) hHeld ?_;refine wt (i:=5) (v:=.int .i64 ((N:Int)+1)) hHeld ?_;refine wt (i:=7) (v:=.pointer (some ⟨rg,0,none⟩)) hHeld ?_;refine wt (i:=8) (v:=.pointer (some ⟨rg,0,none⟩)) hHeld ?_;refine wt (i:=9) (v:=.pointer (some ⟨rg,7,none⟩)) hHeld ?_;refine wt (i:=10) (v:=.slice (some ⟨g,0,none⟩) N cap) hHeld ?_;refine wt (i:=11) (v:=.int .i64 (j:Int)) hHeld ?_;refine wt (i:=12) (v:=.slice (some ⟨g,0,none⟩) j cap) hHeld ?_;refine wpAnyH_ready (rs:=[6]) (by kernel_rfl) (by simp) ?_;refine AllReadyH.cons rfl (fun K hK=>?_) AllReadyH.nil;go_simp
     refine hK.out _ _ (xa X) (fun hHeld1=>?_);clear hK K
     try simp only[Act.put,List.setIfInBounds_toArray,List.set_cons_zero,List.set_cons_succ,List.getElem_toArray,List.getElem_cons_zero,List.getElem_cons_succ]
     refine wpAnyH_ready (rs:=[13]) (by kernel_rfl) (by simp) ?_;refine AllReadyH.cons rfl (fun K hK=>?_) AllReadyH.nil;refine Own.step_app rfl (.tmp 54) (.tmp 60) 120 rfl underlying120 info_ino (.slice (some ⟨w1.heap.size,0,none⟩) 0 (N+1)) (.slice (some ⟨g,0,none⟩) j cap) rfl rfl A1.out (by simp) (hS1.out.keep hbS.out) hone1.out (by unfold maxLen;omega) (by omega) ?_;intro v2 w2 ho2 hg2 hob2;rw[Nat.zero_add] at ho2;obtain⟨a2,c2,rfl⟩:=Own.form ho2;have A2:=Wd ho2;have B2:=Wd (hbS.out.grown hg2 (by simp) (fun jj hj=>Own.ge A1.out jj hj));have y2:=cellkept B2.out d7;clear ho2 hg2 hob2;refine hK.out _ _ y2 (fun hHeld2=>?_);clear hK K
     try simp only[Act.put,List.setIfInBounds_toArray,List.set_cons_zero,List.set_cons_succ,List.getElem_toArray,List.getElem_cons_zero,List.getElem_cons_succ]
     refine wt (i:=14) (v:=.slice a2 j c2) hHeld2 ?_;refine wpAnyH_done (by kernel_rfl) ?_ _;have hblk:=Blk.new w2 125 (rrow ⟨(j:Int)+1,2,1,0,0,0,.slice none 0 0⟩) rfl;have B2a:=Wd (B2.out.alloc B2.out.size (.cells #[.int .i64 ((j:Int)+1),.int .i64 2,.int .i64 1,.int .i64 0,.int .i64 0,.int .i64 0,.slice none 0 0] 125));have A2a:=Wd (Own.below A2.out ((Below.refl w2.heap.size w2).alloc (Nat.le_refl _) (.cells #[.int .i64 ((j:Int)+1),.int .i64 2,.int .i64 1,.int .i64 0,.int .i64 0,.int .i64 0,.slice none 0 0] 125)))
     have S2a:Hid (Own.Src (w2.alloc (.cells #[.int .i64 ((j:Int)+1),.int .i64 2,.int .i64 1,.int .i64 0,.int .i64 0,.int .i64 0,.slice none 0 0] 125)) 7 (.slice (some ⟨w2.heap.size,0,none⟩) 1 1) 1 (rrow ⟨(j:Int)+1,2,1,0,0,0,.slice none 0 0⟩)):=Wd (.inr ⟨_,_,rfl,rfl,fun i u hi=>by
      have:=hblk.cell hi;rw[Addr.add_lit,Nat.zero_add]
      exact this⟩)
     clear hblk
     go_wp2_with (first
      | (at_builtin;refine Own.wpList_app rfl (.tmp 62) (.tmp 68) 120 rfl underlying120 info_ino (.slice a2 j c2) (.slice (some ⟨w2.heap.size,0,none⟩) 1 1) rfl rfl A2a.out B2a.out.size S2a.out (rrow_one rfl) (by unfold maxLen;omega) (by omega) ?_;intro v3 w3 ho3 hg3 hob3;obtain⟨a3,c3,rfl⟩:=Own.form ho3;have A3:=Wd ho3;have B3:=Wd (B2a.out.grown hg3 B2a.out.size (fun k h=>Own.ge A2a.out k h));have S3:=Wd (hsrc3.out.1.keep B3.out);have y7:=cellkept B3.out d7;clear ho3 hg3 hob3)
      | (at_builtin;refine Own.wpList_app rfl (.tmp 71) (.tmp 77) 120 rfl underlying120 info_ino (.slice a3 (j+1) c3) ad rfl rfl A3.out B3.out.size S3.out hone3.out (by unfold maxLen;omega) (by omega) ?_;intro v4 w4 ho4 hg4 hob4;obtain⟨a4,c4,rfl⟩:=Own.form ho4;have B4:=Wd (B3.out.grown hg4 B3.out.size (fun k h=>Own.ge A3.out k h));have A4:=Wd ho4;have f4:=(H1.out.box.below B4.out hrl.out).fz;have z7:=(H1.out.box.below B4.out hrl.out).cell (j:=7) rfl;clear ho4 hg4 hob4))
     go_wp2_with fail
     go_ret2
     obtain⟨q1,q2⟩:=H1.out.newRow (q':=q.take j ++ (⟨(j:Int)+1,2,1,0,0,0,.slice none 0 0⟩:RE) :: q.drop j) B4.out (by
      have e1:(q.take j ++ (⟨(j:Int)+1,2,1,0,0,0,.slice none 0 0⟩:RE) :: q.drop j).length=j+1+(N-j):=by
       rw[List.length_append,List.length_take,List.length_cons,List.length_drop,hN.out];omega
      have e2:rcl (q.take j ++ (⟨(j:Int)+1,2,1,0,0,0,.slice none 0 0⟩:RE) :: q.drop j)=[] ++ (rcl q).take (j*7) ++ rrow ⟨(j:Int)+1,2,1,0,0,0,.slice none 0 0⟩ ++ (rcl q).drop (j*7):=by
       rw[rcl_take,rcl_drop,show q.take j ++ (⟨(j:Int)+1,2,1,0,0,0,.slice none 0 0⟩:RE) :: q.drop j=q.take j ++ ([⟨(j:Int)+1,2,1,0,0,0,.slice none 0 0⟩] ++ q.drop j) from rfl,rcl_app,rcl_app,rcl_one];simp only[List.nil_append,List.append_assoc]
      rw[e1,e2]
      exact A4.out)
     refine⟨by rw[hnP.out];rfl,⟨_,_,_,_,_,_,q1,?_⟩,(Keeps.new hb1.out (Nat.le_trans hbase.out (Nat.le_refl _))).trans q2⟩;exact ((HF1.out.take j).app (show Fits w1 (_ :: _) (_ :: _) from ⟨⟨by rw[hnP.out];rfl,rfl,rfl,rfl,rfl,rfl,XE.nil _⟩,HF1.out.drop j⟩)).keeps q2 (by simp[DT])
end
end IN
end Go.Proofs.YtfffibepcdlldaaGreat

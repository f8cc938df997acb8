/- A part. -/
import Derived.Test.YtfffibepcdlldaaGreatZA01
import Derived.Test.YtfffibepcdlldaaGreatZA27
import Derived.Test.YtfffibepcdlldaaGreatZA17
import Derived.Deep.RegionHeld3
import Derived.OrdersHeld
import Derived.Test.YtfffibepcdlldaaGreatZA28
set_option linter.unusedVariables false
set_option linter.unusedSimpArgs false
set_option maxRecDepth 100000
set_option maxHeartbeats 64000000
open Go.Proofs.Tryz

namespace Go.Proofs.YtfffibepcdlldaaGreat
open Go.ChangeShapes Go.WideShapes Go.ChangeAt Go.RowKit
namespace RN
open IN (Keeps)
open NT (Dr Ds er nu findR)
section
variable {base:Nat}{w w':World}{rt rg:Nat}
theorem rput_any (n:Int)(k:ByteArray)(a b:Int){l:List DD}(w:World)(h:DT base w rt rg l)(hn:ix l n<l.length)(hln:l[ix l n].l.length<100000)(ha:a≠0) :
 Calls prog 146 #[.pointer (some ⟨rt,0,none⟩),.int .i64 n,.agg #[.string k,.int .i64 a,.int .i64 b]] w fun e w'=>e=.returned (.tuple #[])/\DT base w' rt rg (l.set (ix l n) (setL l[ix l n] (putL l[ix l n].l (k,a,b))))/\Keeps base RT w w':=by
 have b0:=(Below.refl w.heap.size w).alloc (Nat.le_refl _) (.cells #[.string k,.int .i64 a,.int .i64 b] 201);have p0:Blk (w.alloc (.cells #[.string k,.int .i64 a,.int .i64 b] 201)) w.heap.size 201 [.string k,.int .i64 a,.int .i64 b]:=Blk.new _ _ _ rfl;have hda:dirA l n=(ix l n:Int):=by unfold dirA;rw[if_pos hn]
 have cD:=dir_t n (h.keep b0);rw[hda] at cD;obtain⟨g,cap,v,c1,hcap,c2,hNE⟩:=h.at_l hn;obtain⟨g',cap',c1',-,hbg,hgl,hfz,hset⟩:=h.names hn;rw[c1] at c1';simp only[Option.some.injEq,Value.slice.injEq,Addr.mk.injEq,and_true,true_and] at c1';obtain⟨rfl,rfl⟩:=c1';have hgr:rt≠g:=by
  obtain⟨v0,q0,d1,d2⟩:=h.ex;have hl:=d2.len;obtain⟨g0,cap0,rfl,-,-,hne,-⟩:=d1.el (i:=ix l n) (by omega);have h7:=d1.box.cell (j:=1) rfl;rw[c1] at h7;simp only[Option.some.injEq,Value.slice.injEq,Addr.mk.injEq,and_true,true_and] at h7;rw[h7.1];exact hne.symm
 have HF:=Wd (fun (W:World) (hb:Below w.heap.size w W)=>show ∀ j,W.frozen? ⟨g,j,none⟩=false from by
  obtain⟨g2,cap2,c2',-,-,-,hf2,-⟩:=(h.keep hb).names hn;have:=(hb.cell (World.block_lt_of_cell? w _ c1)).trans c1;rw[this] at c2';simp only[Option.some.injEq,Value.slice.injEq,Addr.mk.injEq,and_true,true_and] at c2';rw[c2'.1]
  exact hf2)
 have hnos:=h.few.nos _ (List.getElem_mem hn);generalize l[ix l n]=X at *;obtain⟨xi,xu,nl⟩:=X;simp only[setL] at *;have hset:=Wd hset;have hnos:=Wd hnos;generalize l.set (ix l n)=Y at *;have hK:((ix l n:Nat):Int)<(l.length:Int):=by omega
 generalize ix l n=Kd at *;generalize hL:l.length=LL at *;obtain⟨ao,cc,rfl⟩:=hNE.form;obtain⟨N,hN⟩:∃ N,nl.length=N:=⟨_,rfl⟩;rw[hN] at c2 hNE hln;have hple:=px_le nl k;have hplt:=px_lt nl k;have hpat:=px_at nl k;have hput:putL nl (k,a,b)=nl.take (px nl k) ++ [(k,a,b)] ++ nl.drop (px nl k):=rfl;rw[hput];generalize px nl k=P at *;have hplt:=Wd hplt;have hpat:=Wd hpat;have hNE:=Wd hNE;have hPN:P<=N:=by omega
 have hcN:N<=cc/\cc<=9223372036854775807:=by
  obtain⟨bb,hr⟩:=hNE.out;rcases hr.2 with ⟨e,h0⟩|⟨g9,cap9,cur,e,hb9,hg9,h19,h29,-⟩
  ·simp only[Value.slice.injEq] at e
   omega
  ·simp only[Value.slice.injEq] at e;unfold maxLen at h29
   omega
 have hao:ao=none/\cc=0∨∃ b o,ao=some ⟨b,o,none⟩:=by
  obtain⟨bb,hr⟩:=hNE.out;rcases hr.2 with ⟨e,h0⟩|⟨g9,cap9,cur,e,-⟩
  ·simp only[Value.slice.injEq] at e;exact .inl ⟨e.1,e.2.2⟩
  ·simp only[Value.slice.injEq] at e;exact .inr ⟨_,_,e.1⟩
 have hS1:Own.Src w 3 (.slice ao P cc) P ((kcl nl).take (P*3)):=by
  obtain⟨bb,hr⟩:=hNE.out;rw[hN] at hr;exact Own.src_take hr rfl P hPN
 have hhi:=Own.cut_hi (t:=151) underlying151 (by kernel_rfl) NT.info_name ao N cc P hPN hcN.1 (hao.imp (·.1) id);obtain⟨ad,hlo,hS3⟩:∃ ad:Value,(∀ W:World,(Instr.slice 151 (.slice ao N cc) (some (.int .i64 (P:Int))) none none).run prog W=.ok ad W)/\Own.Src w 3 ad (N-P) ((kcl nl).drop (P*3)):=by
  obtain⟨bb,hr⟩:=hNE.out;rw[hN] at hr;rcases hao with ⟨e1,e2⟩|⟨b1,o1,e1⟩
  ·subst e1;subst e2;obtain rfl:N=0:=by omega
   obtain rfl:P=0:=by omega
   refine⟨.slice none 0 0,Own.cut_none (t:=151) underlying151 (by kernel_rfl) NT.info_name,.inl ⟨rfl,rfl,?_⟩⟩;rw[Nat.zero_mul,List.drop_zero];exact List.eq_nil_of_length_eq_zero (by rw[kcl_len,hN])
  ·subst e1;obtain⟨ad,hl1,hl2,hl3⟩:=Own.cut_lo (t:=151) underlying151 (by kernel_rfl) NT.info_name b1 o1 N cc P (P:Int) rfl hPN hcN.1;exact⟨_,hl1,Own.src_drop hr P hPN ad _ hl3⟩
 obtain⟨XX,hmk,hmo⟩:=Own.make_room (t:=151) underlying151 NT.info_name (N+1) ((N:Int)+1) (by omega) (by omega) (by omega);have honek:∀ (r:List (ByteArray×Int×Int)),∀ u∈kcl r,u.oneCell'=true:=fun r=>by
  induction r with
  | nil=>intro u hu;cases hu
  | cons x r ih=>
    intro u hu;rw[show x :: r=[x] ++ r from rfl,kcl_app] at hu;rcases List.mem_append.1 hu with hu|hu
    ·exact krow_one x u hu
    ·exact ih u hu
 have HS:=Wd (And.intro hS1 (And.intro hS3 (And.intro hmo honek)));have hwN:IntKind.i64.wrap ((N:Int)+1)=(N:Int)+1:=IntWalk.i64_in _ (by omega);clear hS1 hS3 hmo honek hao;replace hN:=Wd hN;replace cD:=Wd cD;have hgl1:=World.block_lt_of_cell? w _ c1;clear h hn hda hL hput hple;have HC:=Wd (And.intro c1 (And.intro c2 (And.intro hgl hgl1)));have c1:=(b0.cell hgl1).trans c1;have c2:=(b0.cell hgl).trans c2;have d0:=p0.cell (j:=0) rfl;have p0:=Wd p0;have b0:=Wd b0;clear hfz hgl hgl1;go_enter func146,ntmps146
 go_wp2_with fail
 refine cD.out.mono ?_;rintro e w1 ⟨rfl,rfl⟩;go_wp2_with fail
 obtain⟨w1,hw1⟩:∃ w1,w.alloc (.cells #[.string k,.int .i64 a,.int .i64 b] 201)=w1:=⟨_,rfl⟩;rw[hw1] at p0 b0 ⊢;clear c1 c2 d0 cD hw1;go_loopw [8] (fun i wr=>∃ (j:Nat),j<=P/\i=.int .i64 (j:Int)/\Hid (Below w1.heap.size w1 wr)) (fun i _=>N+1-(intOf i).toNat)
 case atStart=>exact⟨0,Nat.zero_le _,rfl,Wd (Below.refl _ _)⟩
 case round=>
  obtain⟨j,hj,rfl,hb1⟩:=hrel;have hb:=Wd (b0.out.trans (hb1.out.mono b0.out.size));have d0:=(p0.out.keep hb1.out).cell (j:=0) rfl
  by_cases hlt:j<N
  ·have hjn:j<nl.length:=by rw[hN.out];exact hlt
   have hjN:(j:Int)<(N:Int):=by omega
   have hNr:=(show NE w (.slice ao nl.length cc) nl by rw[hN.out];exact hNE.out).move (w':=wr) fun b cur hc=>hb.out.block b (IN.lt_of_some hc);obtain⟨g2,cc2,hv,hg2,-,-,s0,-,-⟩:=hNr.el hjn;simp only[Value.slice.injEq] at hv;obtain⟨rfl,-,-⟩:=hv
   by_cases hjP:j<P
   ·have hx:=hplt.out j hjn hjP;obtain⟨y,hy⟩:∃ y,nl[j].1=y:=⟨_,rfl⟩;rw[hy] at s0 hx;have hx:Op.bytesLess y.toList k.toList=true:=hx;clear hNr hjn hy;go_wp2_with fail
    go_quiet (fail)
    go_wp2_with fail
    go_roundw
    case rel=>exact⟨j+1,by omega,by go_num,Wd ⟨hb1.out.os,hb1.out.tape,hb1.out.output,hb1.out.size,hb1.out.block⟩⟩
    case measure=>simp[intOf];omega
   ·obtain rfl:j=P:=by omega
    have hx:=hpat.out hjn;obtain⟨y,hy⟩:∃ y,nl[j].1=y:=⟨_,rfl⟩;rw[hy] at s0 hx;have hx:Op.bytesLess y.toList k.toList=false:=hx;clear hNr hjn hy;go_wp2_with fail
    go_quiet (fail)
    go_wp2_with fail
    obtain⟨W0,hW0⟩:∃ W0,wr.drewN nq=W0:=⟨_,rfl⟩;rw[hW0];have hbW:Below w.heap.size w W0:=by rw[<-hW0];exact⟨hb.out.os,hb.out.tape,hb.out.output,hb.out.size,hb.out.block⟩
    have hbW1:Below w1.heap.size w1 W0:=by rw[<-hW0];exact⟨hb1.out.os,hb1.out.tape,hb1.out.output,hb1.out.size,hb1.out.block⟩
    have hbX:=(Below.refl W0.heap.size W0).drew.alloc (Nat.le_refl _) XX;have A1:Hid ((W0.drew.alloc XX).ownsRow w1.heap.size 201 3 (.slice (some ⟨W0.heap.size,0,none⟩) 0 (N+1)) 0 []):=Wd (HS.out.2.2.1 W0.drew w1.heap.size hbW1.size);have S1:=Wd (HS.out.1.keep (hbW.trans (hbX.mono hbW.size)));have hone1:Hid (∀ u∈(kcl nl).take (j*3),u.oneCell'=true):=Wd (fun u hu=>HS.out.2.2.2 nl u (List.mem_of_mem_take hu));have hLow:=Wd hbW;have hX2:=Wd (hbW.trans (hbX.mono hbW.size));have hbX:=Wd hbX;replace hbW1:=Wd hbW1;have hws0:=hbW.size;have hws1:=hbW1.out.size;have hB0:=Wd (hbW1.out.trans (hbX.out.mono hws1));have hjN2:=hPN;clear d0 hW0 hbW s0 hx;go_wp2_with fail
    go_region_law (first
     | (refine Own.step_app rfl (.tmp 40) (.tmp 43) 151 rfl underlying151 NT.info_name _ _ rfl rfl A1.out (by simp;omega) S1.out hone1.out (by unfold maxLen;omega) (by omega) ?_
        intro v2 w2 ho2 hg2 hob2))
    all_goals
     have B2:Below w1.heap.size w1 w2:=hB0.out.grown (show (W0.drew.alloc XX).grownBy w2 _ from hg2) hB0.out.size (fun q hq=>Own.ge A1.out q hq);have p2:=p0.out.keep B2;have q0:=p2.cell (j:=0) rfl;have q1:=p2.cell (j:=1) rfl;have q2:=p2.cell (j:=2) rfl;have own2:=Wd (Own.below ho2 ((Below.refl w2.heap.size w2).alloc (Nat.le_refl _) (.cells #[.string k,.int .i64 a,.int .i64 b] 201)));have B2a:=Wd (B2.alloc B2.size (.cells #[.string k,.int .i64 a,.int .i64 b] 201));have hw2:=B2.size;have hsk:=Wd (krow_src w2 (k,a,b));clear p2 B2 ho2 hg2 hob2 A1 S1;go_wp2_with (first|(at_builtin;refine Own.wpList_app rfl (.tmp 45) (.tmp 47) 151 rfl underlying151 NT.info_name _ (.slice (some ⟨w2.heap.size,0,none⟩) 1 1) rfl rfl own2.out (by simp;omega) hsk.out (krow_one _) (by unfold maxLen;omega) (by omega) ?_;intro v3 w3 ho3 hg3 hob3))
     have B3:Below w1.heap.size w1 w3:=B2a.out.grown hg3 B2a.out.size (fun q hq=>Own.ge own2.out q hq);have C3:=b0.out.trans (B3.mono b0.out.size);have c31:w3.cell? ⟨rt,1,none⟩=_:=(C3.cell HC.out.2.2.2).trans HC.out.1;have own3:=Wd (Own.below ho3 ((Below.refl w3.heap.size w3).drew));have S3:=Wd (HS.out.2.1.keep C3.drew);have hone3:Hid (∀ u∈(kcl nl).drop (j*3),u.oneCell'=true):=Wd (fun u hu=>HS.out.2.2.2 nl u (List.mem_of_mem_drop hu));have hw3:=B3.size;obtain⟨a3,k3,hv3⟩:=Own.form own3.out;subst hv3;have c31d:w3.drew.cell? ⟨rt,1,none⟩=some (.slice (some ⟨g,0,none⟩) LL cap):=c31;have B3h:=Wd B3;clear B3 C3 ho3 hg3 hob3 own2 B2a hsk q0 q1 q2;go_wp2_with fail
     refine wp_region_held_drew (S:=(fun w'=>w'.cell? ⟨rt,1,none⟩=some (.slice (some ⟨g,0,none⟩) LL cap))) (by kernel_rfl) c31d (fun hHeld=>?_);refine wt (i:=0) (v:=.pointer (some ⟨rt,0,none⟩)) hHeld ?_;refine wt (i:=1) (v:=.pointer (some ⟨rt,0,none⟩)) hHeld ?_;refine wt (i:=2) (v:=.pointer (some ⟨rt,1,none⟩)) hHeld ?_;refine wt (i:=3) (v:=.slice (some ⟨g,0,none⟩) LL cap) hHeld ?_;refine wt (i:=4) (v:=.int .i64 (Kd:Int)) hHeld ?_;refine wt (i:=5) (v:=.slice a3 (0+j+1) k3) hHeld ?_;refine wt (i:=6) (v:=.slice (some ⟨g2,0,none⟩) N cc) hHeld ?_;refine wt (i:=7) (v:=.int .i64 (j:Int)) hHeld ?_;refine wt (i:=8) (v:=ad) hHeld ?_ (hv:=fun w0 s1=>by (have hl:=hlo w0;go_simp));refine wpAnyH_ready (rs:=[9]) (by kernel_rfl) (by simp) ?_;refine AllReadyH.cons rfl (fun K hK=>?_) AllReadyH.nil;refine Own.step_app rfl (.tmp 54) (.tmp 57) 151 rfl underlying151 NT.info_name _ _ rfl rfl own3.out (by simp;omega) S3.out hone3.out (by unfold maxLen;omega) (by omega) ?_;intro v4 w4 ho4 hg4 hob4;obtain⟨a4,k4,rfl⟩:=Own.form ho4;have B4:Below w.heap.size w w4:=b0.out.trans ((B3h.out.drew.grown hg4 B3h.out.size (fun q hq=>Own.ge own3.out q hq)).mono b0.out.size);have c41:w4.cell? ⟨rt,1,none⟩=some (.slice (some ⟨g,0,none⟩) LL cap):=(B4.cell HC.out.2.2.2).trans HC.out.1;have c42:w4.cell? ⟨g,Kd*3+2,none⟩=_:=(B4.cell HC.out.2.2.1).trans HC.out.2.1;have f4:=HF.out w4 B4;have O4:=Wd ho4;replace B4:=Wd B4;clear ho4 hg4 hob4;refine hK.out _ _ c41 (fun hHeld1=>?_);clear hK K
     try simp only[Act.put,List.setIfInBounds_toArray,List.set_cons_zero,List.set_cons_succ,List.getElem_toArray,List.getElem_cons_zero,List.getElem_cons_succ]
     refine wt (i:=10) (v:=.pointer (some ⟨g,Kd*3,none⟩)) hHeld1 ?_;refine wt (i:=11) (v:=.pointer (some ⟨g,Kd*3+2,none⟩)) hHeld1 ?_;refine wpAnyH_ready (rs:=[12]) (by kernel_rfl) (by simp) ?_;refine AllReadyH.cons rfl (fun K hK=>?_) AllReadyH.nil;go_simp
     refine hK.out _ _ (by show _=_;rw[World.cell?_of_block (Below.heap_setCell w4 ⟨g,Kd*3+2,none⟩ _ rt hgr)];exact c41) (fun hHeld2=>?_);clear hK K
     try simp only[Act.put,List.setIfInBounds_toArray,List.set_cons_zero,List.set_cons_succ,List.getElem_toArray,List.getElem_cons_zero,List.getElem_cons_succ]
     refine wpAnyH_done (by kernel_rfl) ?_ _;go_end0
     have ho4:=O4.out;simp only[Nat.zero_add] at ho4;have hLN:(nl.take j ++ [(k,a,b)] ++ nl.drop j).length=j+1+(N-j):=by
      have:=hN.out;rw[List.length_append,List.length_append,List.length_take,List.length_drop,List.length_singleton];omega
     have hfin:=hset.out w4 B4.out (.slice a4 _ k4) (nl.take j ++ [(k,a,b)] ++ nl.drop j) ⟨w1.heap.size,by
      rw[hLN];have e:kcl (nl.take j ++ [(k,a,b)] ++ nl.drop j)=[] ++ (kcl nl).take (j*3) ++ kcl [(k,a,b)] ++ (kcl nl).drop (j*3):=by
       rw[kcl_take,kcl_drop,kcl_app,kcl_app];rfl
      rw[e];exact ho4⟩ (by rw[hLN];omega) (fun y hy=>by
      rcases List.mem_append.1 hy with hy|hy
      ·rcases List.mem_append.1 hy with hy|hy
       ·exact hnos.out y (List.mem_of_mem_take hy)
       ·rw[List.mem_singleton.1 hy];exact ha
      ·exact hnos.out y (List.mem_of_mem_drop hy))
     exact⟨rfl,hfin⟩
  ·obtain rfl:j=P:=by omega
   have hjN:=Wd (show j=N by omega);have hge:(N:Int)<=(j:Int):=by have:=hjN.out;omega
   go_wp2_with fail
   go_quiet (fail)
   go_wp2_with fail
   obtain⟨W0,hW0⟩:∃ W0,wr.drewN nq=W0:=⟨_,rfl⟩;rw[hW0];have hbW:Below w.heap.size w W0:=by rw[<-hW0];exact⟨hb.out.os,hb.out.tape,hb.out.output,hb.out.size,hb.out.block⟩
   have hbW1:Below w1.heap.size w1 W0:=by rw[<-hW0];exact⟨hb1.out.os,hb1.out.tape,hb1.out.output,hb1.out.size,hb1.out.block⟩
   have hbX:=((Below.refl W0.heap.size W0).alloc (Nat.le_refl _) XX).drew;have A1:Hid ((W0.alloc XX).drew.ownsRow w1.heap.size 201 3 (.slice (some ⟨W0.heap.size,0,none⟩) 0 (N+1)) 0 []):=Wd (HS.out.2.2.1 W0 w1.heap.size hbW1.size);have S1:=Wd (HS.out.1.keep (hbW.trans (hbX.mono hbW.size)));have hone1:Hid (∀ u∈(kcl nl).take (j*3),u.oneCell'=true):=Wd (fun u hu=>HS.out.2.2.2 nl u (List.mem_of_mem_take hu));have hLow:=Wd hbW;have hX2:=Wd (hbW.trans (hbX.mono hbW.size));have hbX:=Wd hbX;replace hbW1:=Wd hbW1;have hws0:=hbW.size;have hws1:=hbW1.out.size;have hB0:=Wd (hbW1.out.trans (hbX.out.mono hws1));have hjN2:=hPN;clear d0 hW0 hbW;go_wp2_with fail
   go_region_law (first
    | (refine Own.step_app rfl (.tmp 40) (.tmp 43) 151 rfl underlying151 NT.info_name _ _ rfl rfl A1.out (by simp;omega) S1.out hone1.out (by unfold maxLen;omega) (by omega) ?_
       intro v2 w2 ho2 hg2 hob2))
   all_goals
    have B2:Below w1.heap.size w1 w2:=hB0.out.grown (show (W0.alloc XX).drew.grownBy w2 _ from hg2) hB0.out.size (fun q hq=>Own.ge A1.out q hq);have p2:=p0.out.keep B2;have q0:=p2.cell (j:=0) rfl;have q1:=p2.cell (j:=1) rfl;have q2:=p2.cell (j:=2) rfl;have own2:=Wd (Own.below ho2 ((Below.refl w2.heap.size w2).alloc (Nat.le_refl _) (.cells #[.string k,.int .i64 a,.int .i64 b] 201)));have B2a:=Wd (B2.alloc B2.size (.cells #[.string k,.int .i64 a,.int .i64 b] 201));have hw2:=B2.size;have hsk:=Wd (krow_src w2 (k,a,b));clear p2 B2 ho2 hg2 hob2 A1 S1;go_wp2_with (first|(at_builtin;refine Own.wpList_app rfl (.tmp 45) (.tmp 47) 151 rfl underlying151 NT.info_name _ (.slice (some ⟨w2.heap.size,0,none⟩) 1 1) rfl rfl own2.out (by simp;omega) hsk.out (krow_one _) (by unfold maxLen;omega) (by omega) ?_;intro v3 w3 ho3 hg3 hob3))
    have B3:Below w1.heap.size w1 w3:=B2a.out.grown hg3 B2a.out.size (fun q hq=>Own.ge own2.out q hq);have C3:=b0.out.trans (B3.mono b0.out.size);have c31:w3.cell? ⟨rt,1,none⟩=_:=(C3.cell HC.out.2.2.2).trans HC.out.1;have own3:=Wd (Own.below ho3 ((Below.refl w3.heap.size w3).drew));have S3:=Wd (HS.out.2.1.keep C3.drew);have hone3:Hid (∀ u∈(kcl nl).drop (j*3),u.oneCell'=true):=Wd (fun u hu=>HS.out.2.2.2 nl u (List.mem_of_mem_drop hu));have hw3:=B3.size;obtain⟨a3,k3,hv3⟩:=Own.form own3.out;subst hv3;have c31d:w3.drew.cell? ⟨rt,1,none⟩=some (.slice (some ⟨g,0,none⟩) LL cap):=c31;have B3h:=Wd B3;clear B3 C3 ho3 hg3 hob3 own2 B2a hsk q0 q1 q2;go_wp2_with fail
    refine wp_region_held_drew (S:=(fun w'=>w'.cell? ⟨rt,1,none⟩=some (.slice (some ⟨g,0,none⟩) LL cap))) (by kernel_rfl) c31d (fun hHeld=>?_);refine wt (i:=0) (v:=.pointer (some ⟨rt,0,none⟩)) hHeld ?_;refine wt (i:=1) (v:=.pointer (some ⟨rt,0,none⟩)) hHeld ?_;refine wt (i:=2) (v:=.pointer (some ⟨rt,1,none⟩)) hHeld ?_;refine wt (i:=3) (v:=.slice (some ⟨g,0,none⟩) LL cap) hHeld ?_;refine wt (i:=4) (v:=.int .i64 (Kd:Int)) hHeld ?_;refine wt (i:=5) (v:=.slice a3 (0+j+1) k3) hHeld ?_;refine wt (i:=6) (v:=.slice ao N cc) hHeld ?_;refine wt (i:=7) (v:=.int .i64 (j:Int)) hHeld ?_;refine wt (i:=8) (v:=ad) hHeld ?_ (hv:=fun w0 s1=>by (have hl:=hlo w0;go_simp));refine wpAnyH_ready (rs:=[9]) (by kernel_rfl) (by simp) ?_;refine AllReadyH.cons rfl (fun K hK=>?_) AllReadyH.nil;refine Own.step_app rfl (.tmp 54) (.tmp 57) 151 rfl underlying151 NT.info_name _ _ rfl rfl own3.out (by simp;omega) S3.out hone3.out (by unfold maxLen;omega) (by omega) ?_;intro v4 w4 ho4 hg4 hob4;obtain⟨a4,k4,rfl⟩:=Own.form ho4;have B4:Below w.heap.size w w4:=b0.out.trans ((B3h.out.drew.grown hg4 B3h.out.size (fun q hq=>Own.ge own3.out q hq)).mono b0.out.size);have c41:w4.cell? ⟨rt,1,none⟩=some (.slice (some ⟨g,0,none⟩) LL cap):=(B4.cell HC.out.2.2.2).trans HC.out.1;have c42:w4.cell? ⟨g,Kd*3+2,none⟩=_:=(B4.cell HC.out.2.2.1).trans HC.out.2.1;have f4:=HF.out w4 B4;have O4:=Wd ho4;replace B4:=Wd B4;clear ho4 hg4 hob4;refine hK.out _ _ c41 (fun hHeld1=>?_);clear hK K
    try simp only[Act.put,List.setIfInBounds_toArray,List.set_cons_zero,List.set_cons_succ,List.getElem_toArray,List.getElem_cons_zero,List.getElem_cons_succ]
    refine wt (i:=10) (v:=.pointer (some ⟨g,Kd*3,none⟩)) hHeld1 ?_;refine wt (i:=11) (v:=.pointer (some ⟨g,Kd*3+2,none⟩)) hHeld1 ?_;refine wpAnyH_ready (rs:=[12]) (by kernel_rfl) (by simp) ?_;refine AllReadyH.cons rfl (fun K hK=>?_) AllReadyH.nil;go_simp
    refine hK.out _ _ (by show _=_;rw[World.cell?_of_block (Below.heap_setCell w4 ⟨g,Kd*3+2,none⟩ _ rt hgr)];exact c41) (fun hHeld2=>?_);clear hK K
    try simp only[Act.put,List.setIfInBounds_toArray,List.set_cons_zero,List.set_cons_succ,List.getElem_toArray,List.getElem_cons_zero,List.getElem_cons_succ]
    refine wpAnyH_done (by kernel_rfl) ?_ _;go_end0
    have ho4:=O4.out;simp only[Nat.zero_add] at ho4;have hLN:(nl.take j ++ [(k,a,b)] ++ nl.drop j).length=j+1+(N-j):=by
     have:=hN.out;rw[List.length_append,List.length_append,List.length_take,List.length_drop,List.length_singleton];omega
    have hfin:=hset.out w4 B4.out (.slice a4 _ k4) (nl.take j ++ [(k,a,b)] ++ nl.drop j) ⟨w1.heap.size,by
     rw[hLN];have e:kcl (nl.take j ++ [(k,a,b)] ++ nl.drop j)=[] ++ (kcl nl).take (j*3) ++ kcl [(k,a,b)] ++ (kcl nl).drop (j*3):=by
      rw[kcl_take,kcl_drop,kcl_app,kcl_app];rfl
     rw[e];exact ho4⟩ (by rw[hLN];omega) (fun y hy=>by
     rcases List.mem_append.1 hy with hy|hy
     ·rcases List.mem_append.1 hy with hy|hy
      ·exact hnos.out y (List.mem_of_mem_take hy)
      ·rw[List.mem_singleton.1 hy];exact ha
     ·exact hnos.out y (List.mem_of_mem_drop hy))
    exact⟨rfl,hfin⟩
end
end RN
namespace RN
open IN (Keeps)
open NT (Dr Ds er nu findR)
def kap (D:Ds)(j:Int):Int:=if D j=none then 1 else 2
def RA (base rt rg c:Nat)(D:Ds)(κ:Int->Int)(w:World):Prop:=∃ l,DT base w rt rg l/\RK l D κ/\l.length<=c+1/\∀ x∈l,x.l.length<=c
structure RW (base rt rg I B L c:Nat)(S:Int->Option IN.Nd)(D:Ds)(κ:Int->Int)(w:World):Prop where
 ex:RA base rt rg c D κ w
 rs:IN.RS base w rg (I:Int) (B:Int) (L:Int) (IN.lst S I)
section
variable {base rt rg I B L c k:Nat}{S:Int->Option IN.Nd}{D:Ds}{κ:Int->Int}{w w':World}
theorem RA.keep (h:RA base rt rg c D κ w)(hb:Below w.heap.size w w'):RA base rt rg c D κ w':=by
 obtain⟨l,h1,h2⟩:=h;exact⟨l,h1.keep hb,h2⟩
theorem RA.keeps (h:RA base rt rg c D κ w){C:Nat}{T:Nat->Obj->Prop}(hK:Keeps C T w w')(h1:∀ k c s,¬ T k (.cells c 156 s))(h2:∀ k c s,¬ T k (.cells c 153 s))(h3:∀ k c,¬ T k (.cells c 201 (0,0))):RA base rt rg c D κ w':=by
 obtain⟨l,h4,h5⟩:=h;exact⟨l,h4.keeps hK h1 h2 h3,h5⟩
theorem RA.low (h:RA base rt rg c D κ w):base<=w.heap.size:=by
 obtain⟨l,h1,-⟩:=h;exact h1.low
theorem RA.more (h:RA base rt rg c D κ w){c':Nat}(hc:c<=c'):RA base rt rg c' D κ w:=by
 obtain⟨l,h1,h2,h3,h4⟩:=h;exact⟨l,h1,h2,by omega,fun x hx=>Nat.le_trans (h4 x hx) hc⟩
theorem RW.keep (h:RW base rt rg I B L c S D κ w)(hb:Below w.heap.size w w'):RW base rt rg I B L c S D κ w':=⟨h.ex.keep hb,h.rs.keep hb⟩
theorem RW.more (h:RW base rt rg I B L c S D κ w){c':Nat}(hc:c<=c'):RW base rt rg I B L c' S D κ w:=⟨h.ex.more hc,h.rs⟩
theorem RW.low (h:RW base rt rg I B L c S D κ w):base<=w.heap.size:=h.ex.low
theorem RW.ptr (h:RW base rt rg I B L c S D κ w):w.cell? ⟨rt,0,none⟩=some (.pointer (some ⟨rg,0,none⟩))/\rt<w.heap.size:=by
 obtain⟨l,h1,-⟩:=h.ex;exact⟨h1.ptr,World.block_lt_of_cell? w _ h1.ptr⟩
theorem RW.kinds (h:RW base rt rg I B L c S D κ w){κ':Int->Int}(he:∀ n d k j,D n=some d->(k,j)∈d.l->κ j=κ' j):RW base rt rg I B L c S D κ' w:=by
 obtain⟨l,h1,h2,h3⟩:=h.ex;exact⟨⟨l,h1,h2.kap he,h3⟩,h.rs⟩
theorem find_d (s:ByteArray)(hs:s.size<=maxLen)(w:World)(h:RA base rt rg c D κ w) :
 Calls prog 120 #[.pointer (some ⟨rt,0,none⟩),.string s] w fun e w'=>e=.returned (.tuple #[.int .i64 (nu (findR D s)),.int .i64 (er (findR D s))])/\Below w.heap.size w w':=by
 obtain⟨l,h1,h2,-⟩:=h;have:=rFind_any s hs w h1;rw[h2.eq] at this;exact this
theorem dir_no {n:Int}(w:World)(h:RA base rt rg c D κ w)(hD:D n=none) :
 Calls prog 137 #[.pointer (some ⟨rt,0,none⟩),.int .i64 n] w fun e w'=>e=.returned (.int .i64 (-1))/\w=w':=by
 obtain⟨l,h1,h2,-⟩:=h;have:=dir_t n h1;rw[dir_none (by rw[h2.eq];exact hD)] at this;exact this
theorem dir_yes {n:Int}{d:Dr}(w:World)(h:RA base rt rg c D κ w)(hD:D n=some d):∃ K:Nat,∀ W,Below w.heap.size w W ->
 Calls prog 137 #[.pointer (some ⟨rt,0,none⟩),.int .i64 n] W fun e w'=>e=.returned (.int .i64 (K:Int))/\W=w':=by
 obtain⟨l,h1,h2,-⟩:=h;refine⟨ix l n,fun W hb=>?_⟩;have:=dir_t n (h1.keep hb);obtain⟨-,h3,-⟩:=dir_some (show toD l n=some d by rw[h2.eq];exact hD);rw[h3] at this;exact this
theorem has_d (n:Int)(k:ByteArray){d:Dr}(w:World)(h:RA base rt rg c D κ w)(hD:D n=some d) :
 Calls prog 136 #[.pointer (some ⟨rt,0,none⟩),.int .i64 n,.string k] w fun e w'=>e=.returned (.int .i64 ((NT.look k d.l).getD 0))/\Below w.heap.size w w':=by
 obtain⟨l,h1,h2,-⟩:=h;exact has_t n k h1 (by rw[h2.eq];exact hD)
theorem look_ne (h:RA base rt rg c D κ w){n j:Int}{d:Dr}{k:ByteArray}(hD:D n=some d)(hj:NT.look k d.l=some j):j≠0:=by
 obtain⟨l,h1,h2,-⟩:=h;exact h1.few.look (by rw[h2.eq];exact hD) hj
theorem place_d (a d:Bool)(ns:List ByteArray)(ao:Option Addr)(N cap:Nat)(w:World)(h:RA base rt rg c D κ w)(hl:SS w ao N cap ns)(h0:0<N)(hN:N<=100000) :
 Calls prog 134 #[.pointer (some ⟨rt,0,none⟩),.agg #[.bool a,.slice ao N cap,.bool d]] w fun e w'=>e=.returned (.tuple #[.int .i64 (plA D ns).1.1,.string (plA D ns).1.2,.int .i64 (plA D ns).2])/\Below w.heap.size w w':=by
 obtain⟨l,h1,h2,-⟩:=h;have:=rplace_any a d ns ao N cap w h1 hl h0 hN;rw[h2.eq] at this;exact this
theorem free_d (a d:Bool)(kind:Int)(ns:List ByteArray)(ao:Option Addr)(N cap:Nat)(w:World)(h:RA base rt rg c D κ w)(hl:SS w ao N cap ns)(hN:N<=100000)(hcomp:∀ k∈ns,PM.comp k=true) :
 Calls prog 144 #[.pointer (some ⟨rt,0,none⟩),.agg #[.bool a,.slice ao N cap,.bool d],.int .i64 kind] w fun e w'=>e=.returned (.tuple #[.int .i64 (frA D ns kind d).1.1,.string (frA D ns kind d).1.2,.int .i64 (frA D ns kind d).2])/\Below w.heap.size w w':=by
 obtain⟨l,h1,h2,-⟩:=h;have:=rfree_any a d kind ns ao N cap w h1 hl hN hcomp;rw[h2.eq] at this;exact this
theorem put_d (n:Int)(k:ByteArray)(a kd:Int){d:Dr}(w:World)(h:RW base rt rg I B L c S D κ w)(hc:c<70000)(hD:D n=some d)(hl:NT.look k d.l=none)(ha:a≠0)(hk:kd=κ a) :
 Calls prog 146 #[.pointer (some ⟨rt,0,none⟩),.int .i64 n,.agg #[.string k,.int .i64 a,.int .i64 kd]] w fun e w'=>e=.returned (.tuple #[])/\RW base rt rg I B L (c+1) S (NT.putD D n k a) κ w'/\Keeps base UT w w':=by
 obtain⟨l,h1,h2,h3,h4⟩:=h.ex;obtain⟨hn,h5,h6,h7⟩:=h2.at_ hD;have hx:=h4 _ (List.getElem_mem hn);refine (rput_any n k a kd w h1 hn (by omega) ha).mono ?_;rintro e w' ⟨rfl,hT,hK⟩;refine⟨rfl,⟨⟨_,hT,h2.put hD hn hl hk,by rw[List.length_set];omega,fun x hx2=>?_⟩,RS.tree h.rs hK⟩,keeps_rt hK⟩;rcases List.mem_or_eq_of_mem_set hx2 with hx2|rfl
 ·have:=h4 x hx2;omega
 ·show (putL _ _).length<=_
  rw[put_len];omega
theorem drop_d (n:Int)(k:ByteArray){d:Dr}(w:World)(h:RW base rt rg I B L c S D κ w)(hD:D n=some d) :
 Calls prog 138 #[.pointer (some ⟨rt,0,none⟩),.int .i64 n,.string k] w fun e w'=>e=.returned (.tuple #[])/\RW base rt rg I B L c S (NT.cutD D n k) κ w'/\Keeps base UT w w':=by
 obtain⟨l,h1,h2,h3,h4⟩:=h.ex;obtain⟨hn,h5,h6,h7⟩:=h2.at_ hD;have hx:=h4 _ (List.getElem_mem hn);refine (rdrop_any n k w h1 hn).mono ?_;rintro e w' ⟨rfl,hT,hK⟩;refine⟨rfl,⟨⟨_,hT,h2.cut hD hn k,by rw[List.length_set];omega,fun x hx2=>?_⟩,RS.tree h.rs hK⟩,keeps_rt hK⟩;rcases List.mem_or_eq_of_mem_set hx2 with hx2|rfl
 ·exact h4 x hx2
 ·exact Nat.le_trans (List.length_filter_le _ _) hx
theorem away_d (n:Int)(w:World)(h:RW base rt rg I B L c S D κ w)(hf:IN.Fine I L B k S)(hI:I<=4096)(hL:L<=32768)(hk:k<1000000) :
 Calls prog 139 #[.pointer (some ⟨rt,0,none⟩),.int .i64 n] w fun e w'=>e=.returned (.tuple #[])/\RW base rt rg I B L c (IN.ulS S n) (NT.upd D n none) κ w'/\Keeps base UT w w':=by
 obtain⟨l,h1,h2,h3,h4⟩:=h.ex;refine (raway_any n w h1 hf hI hL hk h.rs).mono ?_;rintro e w' ⟨rfl,hT,hr,hK⟩;refine⟨rfl,⟨⟨_,hT,h2.gone n,?_,fun x hx=>h4 x (List.mem_of_mem_eraseIdx hx)⟩,hr⟩,hK⟩;have:=(List.eraseIdx_sublist l (ix l n)).length_le
 omega
theorem RW.out {S':Int->Option IN.Nd}{r:Int}{e:Ending}(h:RW base rt rg I B L c S D κ w)(ho:IN.ROut base rg I B L w r (IN.lst S' I) e w'):e=.returned (.int .i64 r)/\RW base rt rg I B L c S' D κ w'/\Keeps base UT w w':=by
 obtain⟨h1,h2,h3⟩:=ho;exact⟨h1,⟨h.ex.keeps h3 (by simp[IN.DT]) (by simp[IN.DT]) (by simp[IN.DT]),h2⟩,keeps_dt h3⟩
theorem make_d (kd:Int)(n:Nat)(w:World)(h:RW base rt rg I B L c S D κ w)(hI:I<=4096)(hr:IN.mkR I S kd=0)(hlow:IN.Low S n)(hnI:n<=I) :
 Calls prog 78 #[.pointer (some ⟨rg,0,none⟩),.int .i64 kd] w fun e w'=>e=.returned (.tuple #[.int .i64 (n:Int),.int .i64 0])/\RW base rt rg I B L c (IN.upd S (n:Int) (some (IN.newNd kd))) D κ w'/\Keeps base UT w w':=by
 refine (IN.rMake_yes kd n w hI h.rs hr hlow hnI).mono ?_;rintro e w' ⟨rfl,h2,h3⟩;exact⟨rfl,⟨h.ex.keeps h3 (by simp[IN.DT]) (by simp[IN.DT]) (by simp[IN.DT]),h2⟩,keeps_dt h3⟩
theorem DM.app {v:Value}{q:List QE}(h:DM base w rt rg v q)(h0:0<q.length){w1 w3:World}(hb:Below w.heap.size w w1){v3:Value}{x:QE}(hg:w1.grownBy w3 v.ownBlock)(ho:w3.ownsRow base 153 3 v3 (q.length+1) (qcl q ++ qrow x)) :
 DM base (w3.setCell ⟨rt,1,none⟩ v3) rt rg v3 (q ++ [x])/\Keeps base RT w (w3.setCell ⟨rt,1,none⟩ v3):=by
 obtain⟨g,cap,rfl,hbg,hgl,hgr,-⟩:=h.el h0;have h1:=h.keep hb;have hrl:=h1.box.lt;have hbox:Blk w3 rt 156 [.pointer (some ⟨rg,0,none⟩),.slice (some ⟨g,0,none⟩) q.length cap]:=(hg.block rt hrl (by simp[Value.ownBlock];exact fun e=>hgr e.symm)).trans h1.box;have hK1:Keeps base RT w1 w3:=by
  obtain⟨cur,hc⟩:∃ cur,w1.heap[g]? = some (.cells cur 153 (0,0)):=by
   rcases h1.row.2 with ⟨e,_⟩|⟨g',cap',cur,e,_,hg',_⟩
   ·simp at e
   ·simp only[Value.slice.injEq,Option.some.injEq,Addr.mk.injEq,and_true] at e;exact⟨cur,by rw[e.1];exact hg'⟩
  exact (Keeps.refl base RT w1).grown hc (.inr ⟨_,_,rfl⟩) hbg (by simpa[Value.ownBlock] using hg)
 refine⟨⟨hbox.set 1 v3,?_,h.ge⟩,((Keeps.new hb h.low).trans hK1).trans ((Keeps.refl base RT w3).setCell (p:=⟨rt,1,none⟩) hbox (.inl ⟨_,_,rfl⟩) h.ge v3)⟩;rw[List.length_append,List.length_singleton,qcl_app,qcl_one];rcases ho.2 with h0|⟨g',cap',cur',e1,e2,e3,e4⟩
 ·exact⟨ho.1,.inl h0⟩
 ·refine⟨ho.1,.inr ⟨g',cap',cur',e1,e2,?_,e4⟩⟩;refine (Below.heap_setCell w3 ⟨rt,1,none⟩ v3 g' (fun e=>?_)).trans e3;simp only at e;subst e;unfold Blk at hbox;rw[hbox] at e3;simp only[Option.some.injEq,Obj.cells.injEq] at e3;exact absurd e3.2.1 (by decide)
theorem RW.room {n p:Int}(h:RW base rt rg I B L c S D κ w)(hc:c<70000)(hD:D n=none)(h1:D 1≠none):∃ g N cap xs,w.cell? ⟨rt,1,none⟩=some (.slice (some ⟨g,0,none⟩) N cap)/\N<=cap/\N<=80000/\base<=g/\w.ownsRow base 153 3 (.slice (some ⟨g,0,none⟩) N cap) N xs /\
 (∀ w1 w3,Below w.heap.size w w1->w1.grownBy w3 (some g)->Blk w3 rt 156 [.pointer (some ⟨rg,0,none⟩),.slice (some ⟨g,0,none⟩) N cap]) /\
 ∀ w1 w3 v3,Below w.heap.size w w1->w1.grownBy w3 (some g)->w3.ownsRow base 153 3 v3 (N+1) (xs ++ [.int .i64 n,.int .i64 p,.slice none 0 0]) ->
   RW base rt rg I B L (c+1) S (NT.upd D n (some ⟨p,[]⟩)) κ (w3.setCell ⟨rt,1,none⟩ v3)/\Keeps base UT w (w3.setCell ⟨rt,1,none⟩ v3):=by
 obtain⟨l,h2,h3,h4,h5⟩:=h.ex;have hl0:0<l.length:=by
  obtain⟨d1,e1⟩:=Option.ne_none_iff_exists'.1 h1;obtain⟨hn,-⟩:=h3.at_ e1
  omega
 have hfew:=h2.few;obtain⟨v,q,hM,hF⟩:=h2.ex;have hlen:=hF.len;obtain⟨g,cap,rfl,hbg,hgl,hgr,hcap,-⟩:=hM.el (i:=0) (by omega);refine⟨g,q.length,cap,qcl q,hM.box.cell (j:=1) rfl,hcap,by omega,hbg,hM.row,fun w1 w3 hb hg=>(hg.block rt (hM.box.keep hb).lt (by simp;exact fun e=>hgr e.symm)).trans (hM.box.keep hb),fun w1 w3 v3 hb hg ho=>?_⟩;obtain⟨m1,m2⟩:=hM.app (by omega) hb (x:=⟨n,p,.slice none 0 0⟩) (by simpa[Value.ownBlock] using hg) ho;refine⟨⟨⟨l ++ [⟨n,p,[]⟩],⟨⟨_,_,m1,?_⟩,⟨?_,fun x hx=>?_,fun x hx=>?_⟩⟩,h3.new hD p,?_,fun x hx=>?_⟩,RS.tree h.rs m2⟩,keeps_rt m2⟩
 ·exact (hF.keeps m2 (by simp[RT])).app ⟨⟨rfl,rfl,NE.nil _⟩,trivial⟩
 ·rw[List.length_append,List.length_singleton];omega
 ·rcases List.mem_append.1 hx with hx|hx
  ·exact hfew.names x hx
  ·rw[List.mem_singleton.1 hx];exact Nat.zero_le _
 ·rcases List.mem_append.1 hx with hx|hx
  ·exact hfew.nos x hx
  ·rw[List.mem_singleton.1 hx];intro y hy;cases hy
 ·rw[List.length_append,List.length_singleton];omega
 ·rcases List.mem_append.1 hx with hx|hx
  ·have:=h5 x hx;omega
  ·rw[List.mem_singleton.1 hx];exact Nat.zero_le _
end
end RN
namespace RN
open IN (Keeps)
open NT (Dr Ds er nu findR)
section
variable {base rt rg I B L c k:Nat}{S:Int->Option IN.Nd}{D:Ds}{κ:Int->Int}{w w':World}
def RP (base rt rg I B L c:Nat)(S:Int->Option IN.Nd)(D:Ds)(w w':World):Prop:=RW base rt rg I B L c S D (kap D) w'/\Keeps base UT w w'
theorem RW.same (h:RW base rt rg I B L c S D (kap D) w)(hb:Below w.heap.size w w'):RP base rt rg I B L (c+2) S D w w':=⟨(h.keep hb).more (by omega),Keeps.new hb h.low⟩
theorem pN_comp (s:ByteArray):∀ k∈PM.pN s,PM.comp k=true:=fun k hk=>by
 by_cases h:PM.perr s=0
 ·exact PM.valid_comp (PM.parse_valid h).1 k hk
 ·have:PM.pN s=[]:=by unfold PM.pN;rw[if_neg h]
  rw[this] at hk;cases hk
theorem fr_vac (D:Ds)(kind:Int)(s:ByteArray):frA D (PM.pN s) kind (PM.pD s)=(match NT.vacant D kind s with
 | .error e=>((0,⟨#[]⟩),e)
 | .ok p=>((p,NT.last (PM.pN s)),0)):=rfl
theorem rMake_kind (s:ByteArray)(kind:Int)(w:World)(hk:¬ (kind=1∨kind=2)) :
 Calls prog 121 #[.pointer (some ⟨rt,0,none⟩),.string s,.int .i64 kind] w fun e w'=>e=.returned (.tuple #[.int .i64 0,.int .i64 2])/\Below w.heap.size w w':=by
 have h1:¬ kind=1:=fun e=>hk (.inl e);have h2:¬ kind=2:=fun e=>hk (.inr e);have h3:(kind != 1)=true:=by simp[h1]
 have h4:(kind != 2)=true:=by simp[h2]
 replace h1:=Wd h1;replace h2:=Wd h2;clear hk;go_enter func121,ntmps121
 go_wp2_with fail
 go_ret2
 exact⟨rfl,Below.refl _ _⟩
theorem rMake_parse (s:ByteArray)(hs:s.size<=maxLen)(kind:Int)(w:World)(hk:kind=1∨kind=2)(hp:PM.perr s≠0) :
 Calls prog 121 #[.pointer (some ⟨rt,0,none⟩),.string s,.int .i64 kind] w fun e w'=>e=.returned (.tuple #[.int .i64 0,.int .i64 (PM.perr s)])/\Below w.heap.size w w':=by
 have cP:=fun w=>Wd (rparsed (w:=w) hs);generalize PM.perr s=pe at cP hp ⊢;generalize PM.pN s=ns at cP;generalize PM.pD s=d at cP;generalize PM.pA s=a at cP;have hne:(pe != 0)=true:=by simpa using hp
 replace hp:=Wd hp;rcases hk with rfl|rfl <;>
 ·go_enter func121,ntmps121
  go_wp2_with fail
  refine (cP _).out.mono ?_;rintro e w2 ⟨ao,n,cap,rfl,hS,b2⟩;have b3:=Wd (b2.alloc b2.size (.cells #[.bool a,.slice ao n cap,.bool d] 146));clear b2 hS;go_wp2_with fail
  go_ret2
  exact⟨rfl,b3.out⟩
theorem rMake_vac (s:ByteArray)(hs:s.size<=maxLen)(kind:Int)(w:World)(h:RA base rt rg c D κ w)(hk:kind=1∨kind=2)(hp:PM.perr s=0)(e0:Int)(hv:NT.vacant D kind s=.error e0)(he:e0≠0) :
 Calls prog 121 #[.pointer (some ⟨rt,0,none⟩),.string s,.int .i64 kind] w fun e w'=>e=.returned (.tuple #[.int .i64 0,.int .i64 e0])/\Below w.heap.size w w':=by
 have cP:=fun w=>Wd (rparsed (w:=w) hs);rw[hp] at cP;have cF:=Wd (fun (ao:Option Addr) (n cap:Nat) (W:World) (hb:Below w.heap.size w W) (hl:SS W ao n cap (PM.pN s))=>free_d (PM.pA s) (PM.pD s) kind (PM.pN s) ao n cap W (h.keep hb) hl (by have:=hl.1;have:=pN_len s;omega) (pN_comp s));simp only[fr_vac,hv] at cF;generalize PM.pN s=ns at cP cF;generalize PM.pD s=d at cP cF;generalize PM.pA s=a at cP cF;have hne:(e0 != 0)=true:=by simpa using he
 replace he:=Wd he;clear h hv;rcases hk with rfl|rfl <;>
 ·go_enter func121,ntmps121
  go_wp2_with fail
  refine (cP _).out.mono ?_;rintro e w2 ⟨ao,n,cap,rfl,hS,b2⟩;have p2:Blk (w2.alloc (.cells #[.bool a,.slice ao n cap,.bool d] 146)) w2.heap.size 146 [.bool a,.slice ao n cap,.bool d]:=Blk.new _ _ _ rfl;have b3:=b2.alloc b2.size (.cells #[.bool a,.slice ao n cap,.bool d] 146);have cF1:=Wd (cF.out ao n cap _ b3 (hS.alloc _));have hR:=Wd (range_three (p2.cell (j:=0) rfl) (p2.cell (j:=1) rfl) (p2.cell (j:=2) rfl));have B3:=Wd b3;clear b2 b3 p2 hS cF;go_wp2_with fail
  refine cF1.out.mono ?_;rintro e w3 ⟨rfl,b4⟩;have B4:=Wd (B3.out.trans (b4.mono B3.out.size));clear b4 hR;go_wp2_with fail
  go_ret2
  exact⟨rfl,B4.out⟩
theorem rMake_full (s:ByteArray)(hs:s.size<=maxLen)(kind:Int)(w:World)(h:RW base rt rg I B L c S D (kap D) w)(hI:I<=4096)(hk:kind=1∨kind=2)(hp:PM.perr s=0)(p:Int)(hv:NT.vacant D kind s=.ok p)(r:Int)(hr:IN.mkR I S kind=r)(hr0:r≠0) :
 Calls prog 121 #[.pointer (some ⟨rt,0,none⟩),.string s,.int .i64 kind] w fun e w'=>e=.returned (.tuple #[.int .i64 0,.int .i64 r])/\Below w.heap.size w w':=by
 have cP:=fun w=>Wd (rparsed (w:=w) hs);rw[hp] at cP;have cF:=Wd (fun (ao:Option Addr) (n cap:Nat) (W:World) (hb:Below w.heap.size w W) (hl:SS W ao n cap (PM.pN s))=>free_d (PM.pA s) (PM.pD s) kind (PM.pN s) ao n cap W (h.ex.keep hb) hl (by have:=hl.1;have:=pN_len s;omega) (pN_comp s));simp only[fr_vac,hv] at cF;have cM:=Wd (fun (W:World) (hb:Below w.heap.size w W)=>IN.rMake_no kind W hI (h.keep hb).rs r hr hr0);have hpt:=Wd (fun (W:World) (hb:Below w.heap.size w W)=>(h.keep hb).ptr.1);generalize NT.last (PM.pN s)=z at cF;generalize PM.pN s=ns at cP cF;generalize PM.pD s=d at cP cF;generalize PM.pA s=a at cP cF;have hne:(r != 0)=true:=by simpa using hr0
 replace hr0:=Wd hr0;clear h hv hr;rcases hk with rfl|rfl <;>
 ·go_enter func121,ntmps121
  go_wp2_with fail
  refine (cP _).out.mono ?_;rintro e w2 ⟨ao,n,cap,rfl,hS,b2⟩;have p2:Blk (w2.alloc (.cells #[.bool a,.slice ao n cap,.bool d] 146)) w2.heap.size 146 [.bool a,.slice ao n cap,.bool d]:=Blk.new _ _ _ rfl;have b3:=b2.alloc b2.size (.cells #[.bool a,.slice ao n cap,.bool d] 146);have cF1:=Wd (cF.out ao n cap _ b3 (hS.alloc _));have hR:=Wd (range_three (p2.cell (j:=0) rfl) (p2.cell (j:=1) rfl) (p2.cell (j:=2) rfl));have B3:=Wd b3;clear b2 b3 p2 hS cF;go_wp2_with fail
  refine cF1.out.mono ?_;rintro e w3 ⟨rfl,b4⟩;have B4:=Wd (B3.out.trans (b4.mono B3.out.size));have cM1:=Wd (cM.out _ B4.out);have t0:=hpt.out _ B4.out;clear b4 hR;go_wp2_with fail
  refine cM1.out.mono ?_;rintro e w4 ⟨rfl,b5⟩;have B5:=Wd (B4.out.trans (b5.mono B4.out.size));clear b5 t0;go_wp2_with fail
  go_ret2
  exact⟨rfl,B5.out⟩
theorem rMake_file (s:ByteArray)(hs:s.size<=maxLen)(w:World)(h:RW base rt rg I B L c S D (kap D) w)(hI:I<=4096)(hc:c<65000)(hp:PM.perr s=0)(p:Int)(hv:NT.vacant D 1 s=.ok p)(n:Nat)(hr:IN.mkR I S 1=0)(hlow:IN.Low S n)(hnI:n<=I)(hn:D (n:Int)=none) :
 Calls prog 121 #[.pointer (some ⟨rt,0,none⟩),.string s,.int .i64 1] w fun e w'=>e=.returned (.tuple #[.int .i64 (n:Int),.int .i64 0])/\RP base rt rg I B L (c+2) (IN.upd S (n:Int) (some (IN.newNd 1))) (NT.mkD D p (NT.last (PM.pN s)) (n:Int) 1) w w':=by
 obtain⟨⟨dp,hdp⟩,hat,-⟩:=NT.vac_ok hv;have cP:=fun w=>Wd (rparsed (w:=w) hs);rw[hp] at cP;have cF:=Wd (fun (ao:Option Addr) (n cap:Nat) (W:World) (hb:Below w.heap.size w W) (hl:SS W ao n cap (PM.pN s))=>free_d (PM.pA s) (PM.pD s) 1 (PM.pN s) ao n cap W (h.ex.keep hb) hl (by have:=hl.1;have:=pN_len s;omega) (pN_comp s));simp only[fr_vac,hv] at cF;have hn1:=hlow.1;have cM:=Wd (fun (W:World) (hb:Below w.heap.size w W)=>make_d 1 n W (h.keep hb) hI hr hlow hnI);have cU:=Wd (fun (W:World) (h2:RW base rt rg I B L c (IN.upd S (n:Int) (some (IN.newNd 1))) D (kap D) W)=>put_d p (NT.last (PM.pN s)) (n:Int) 1 W h2 (by omega) hdp (NT.at_none hdp hat) (by omega) (by unfold kap;rw[if_pos hn]));have hkp:kap (NT.putD D p (NT.last (PM.pN s)) (n:Int))=kap D:=by
  funext j
  unfold kap NT.putD
  by_cases e:j=p
  ·rw[if_pos e,hdp,e,hdp];rfl
  ·rw[if_neg e]
 rw[NT.mkD_file];have hfin:=Wd (fun (W:World) (h2:RW base rt rg I B L (c+1) (IN.upd S (n:Int) (some (IN.newNd 1))) (NT.putD D p (NT.last (PM.pN s)) (n:Int)) (kap D) W) (hK:Keeps base UT w W)=>show RP base rt rg I B L (c+2) (IN.upd S (n:Int) (some (IN.newNd 1))) (NT.putD D p (NT.last (PM.pN s)) (n:Int)) w W from ⟨by rw[hkp];exact h2.more (by omega),hK⟩);have hpt:=Wd (fun (W:World) (hb:Below w.heap.size w W)=>(h.keep hb).ptr.1);have hlw:=Wd h.low;generalize NT.last (PM.pN s)=z at *;generalize PM.pN s=ns at cP cF;generalize PM.pD s=d at cP cF;generalize PM.pA s=a at cP cF;clear h hv hr hkp;go_enter func121,ntmps121
 go_wp2_with fail
 refine (cP _).out.mono ?_;rintro e w2 ⟨ao,N,cap,rfl,hS,b2⟩;have p2:Blk (w2.alloc (.cells #[.bool a,.slice ao N cap,.bool d] 146)) w2.heap.size 146 [.bool a,.slice ao N cap,.bool d]:=Blk.new _ _ _ rfl;have b3:=b2.alloc b2.size (.cells #[.bool a,.slice ao N cap,.bool d] 146);have cF1:=Wd (cF.out ao N cap _ b3 (hS.alloc _));have hR:=Wd (range_three (p2.cell (j:=0) rfl) (p2.cell (j:=1) rfl) (p2.cell (j:=2) rfl));have B3:=Wd b3;clear b2 b3 p2 hS cF;go_wp2_with fail
 refine cF1.out.mono ?_;rintro e w3 ⟨rfl,b4⟩;have B4:=Wd (B3.out.trans (b4.mono B3.out.size));have cM1:=Wd (cM.out _ B4.out);have t0:=hpt.out _ B4.out;clear b4 hR;go_wp2_with fail
 refine cM1.out.mono ?_;rintro e w4 ⟨rfl,hR5,hK5⟩;have cU1:=Wd (cU.out _ hR5);have hK5:=Wd ((Keeps.new B4.out hlw.out).trans hK5);clear hR5 t0;go_wp2_with fail
 refine cU1.out.mono ?_;rintro e w5 ⟨rfl,hR6,hK6⟩;have hF:=Wd (hfin.out _ hR6 (hK5.out.trans hK6));clear hR6 hK6;go_wp2_with fail
 go_ret2
 exact⟨rfl,hF.out⟩
theorem drow_src (w:World)(a b:Int):Own.Src (w.alloc (.cells #[.int .i64 a,.int .i64 b,.slice none 0 0] 153)) 3 (.slice (some ⟨w.heap.size,0,none⟩) 1 1) 1 [.int .i64 a,.int .i64 b,.slice none 0 0]:=
 .inr ⟨_,_,rfl,rfl,fun i u hi=>by
  have:=(Blk.new w 153 [.int .i64 a,.int .i64 b,.slice none 0 0] rfl).cell hi;rw[Addr.add_lit,Nat.zero_add]
  exact this⟩
theorem drow_one (a b:Int):∀ u∈[Value.int .i64 a,.int .i64 b,.slice none 0 0],u.oneCell'=true:=by
 intro u hu;simp only[List.mem_cons,List.not_mem_nil,or_false] at hu;rcases hu with rfl|rfl|rfl <;> rfl
theorem rMake_dir (s:ByteArray) (hs:s.size<=maxLen) (w:World) (h:RW base rt rg I B L c S D (kap D) w) (hI:I<=4096) (hc:c<65000) (hp:PM.perr s=0) (p:Int) (hv:NT.vacant D 2 s=.ok p) (n:Nat) (hr:IN.mkR I S 2=0) (hlow:IN.Low S n) (hnI:n<=I) (hn:D (n:Int)=none) (h1:D 1≠none)
 (hfree:∀ m d k j,D m=some d->(k,j)∈d.l->j≠(n:Int)) :
 Calls prog 121 #[.pointer (some ⟨rt,0,none⟩),.string s,.int .i64 2] w fun e w'=>e=.returned (.tuple #[.int .i64 (n:Int),.int .i64 0])/\RP base rt rg I B L (c+2) (IN.upd S (n:Int) (some (IN.newNd 2))) (NT.mkD D p (NT.last (PM.pN s)) (n:Int) 2) w w':=by
 obtain⟨⟨dp,hdp⟩,hat,-⟩:=NT.vac_ok hv;have hpn:p≠(n:Int):=fun e=>by rw[e,hn] at hdp;cases hdp
 have cP:=fun w=>Wd (rparsed (w:=w) hs);rw[hp] at cP;have cF:=Wd (fun (ao:Option Addr) (n cap:Nat) (W:World) (hb:Below w.heap.size w W) (hl:SS W ao n cap (PM.pN s))=>free_d (PM.pA s) (PM.pD s) 2 (PM.pN s) ao n cap W (h.ex.keep hb) hl (by have:=hl.1;have:=pN_len s;omega) (pN_comp s));simp only[fr_vac,hv] at cF;have hn1:=hlow.1;have hnz:(n:Int)≠0:=by omega
 obtain⟨D',hD'⟩:∃ D',NT.mkD D p (NT.last (PM.pN s)) (n:Int) 2=D':=⟨_,rfl⟩;have hfinD:NT.upd (NT.putD D p (NT.last (PM.pN s)) (n:Int)) (n:Int) (some ⟨p,[]⟩)=D':=by
  rw[<-hD',NT.mkD_dir hpn]
  funext x
  by_cases e:x=(n:Int)
  ·rw[e,NT.upd_at,NT.putD_ne (fun e2=>hpn e2.symm),NT.upd_at]
  ·rw[NT.upd_ne e]
   by_cases e2:x=p
   ·rw[e2,NT.putD_at hdp,NT.putD_at (d:=dp) (by rw[NT.upd_ne hpn];exact hdp)]
   ·rw[NT.putD_ne e2,NT.putD_ne e2,NT.upd_ne e]
 have hk1:kap D' (n:Int)=2:=by
  unfold kap;rw[<-hfinD,NT.upd_at,if_neg (by simp)]
 have hk2:∀ j,j≠(n:Int)->kap D j=kap D' j:=fun j hj=>by
  unfold kap;rw[<-hfinD,NT.upd_ne hj];unfold NT.putD
  by_cases e:j=p
  ·rw[if_pos e,hdp,e,hdp];rfl
  ·rw[if_neg e]
 have h':=h.kinds (κ':=kap D') (fun m d k j hm hx=>hk2 j (hfree m d k j hm hx));have cM:=Wd (fun (W:World) (hb:Below w.heap.size w W)=>make_d 2 n W (h'.keep hb) hI hr hlow hnI);have cU:=Wd (fun (W:World) (h2:RW base rt rg I B L c (IN.upd S (n:Int) (some (IN.newNd 2))) D (kap D') W)=>put_d p (NT.last (PM.pN s)) (n:Int) 2 W h2 (by omega) hdp (NT.at_none hdp hat) hnz hk1.symm)
 have cR:=Wd (fun (W:World) (h2:RW base rt rg I B L (c+1) (IN.upd S (n:Int) (some (IN.newNd 2))) (NT.putD D p (NT.last (PM.pN s)) (n:Int)) (kap D') W)=>h2.room (p:=p) (by omega) (show NT.putD D p (NT.last (PM.pN s)) (n:Int) (n:Int)=none by rw[NT.putD_ne (fun e=>hpn e.symm)];exact hn) (show NT.putD D p (NT.last (PM.pN s)) (n:Int) 1≠none by
  by_cases e:(1:Int)=p
  ·rw[e,NT.putD_at hdp];simp
  ·rw[NT.putD_ne e];exact h1))
 simp only[hfinD] at cR;have hpt:=Wd (fun (W:World) (hb:Below w.heap.size w W)=>(h.keep hb).ptr.1);have hlw:=Wd h.low;generalize NT.last (PM.pN s)=z at *;generalize PM.pN s=ns at cP cF;generalize PM.pD s=d at cP cF;generalize PM.pA s=a at cP cF;clear h h' hv hr hk1 hk2 hfinD hfree;go_enter func121,ntmps121
 go_wp2_with fail
 refine (cP _).out.mono ?_;rintro e w2 ⟨ao,N,cap,rfl,hS,b2⟩;have p2:Blk (w2.alloc (.cells #[.bool a,.slice ao N cap,.bool d] 146)) w2.heap.size 146 [.bool a,.slice ao N cap,.bool d]:=Blk.new _ _ _ rfl;have b3:=b2.alloc b2.size (.cells #[.bool a,.slice ao N cap,.bool d] 146);have cF1:=Wd (cF.out ao N cap _ b3 (hS.alloc _));have hR:=Wd (range_three (p2.cell (j:=0) rfl) (p2.cell (j:=1) rfl) (p2.cell (j:=2) rfl));have B3:=Wd b3;clear b2 b3 p2 hS cF;go_wp2_with fail
 refine cF1.out.mono ?_;rintro e w3 ⟨rfl,b4⟩;have B4:=Wd (B3.out.trans (b4.mono B3.out.size));have cM1:=Wd (cM.out _ B4.out);have t0:=hpt.out _ B4.out;clear b4 hR;go_wp2_with fail
 refine cM1.out.mono ?_;rintro e w4 ⟨rfl,hR5,hK5⟩;have cU1:=Wd (cU.out _ hR5);have hK5:=Wd ((Keeps.new B4.out hlw.out).trans hK5);clear hR5 t0;go_wp2_with fail
 refine cU1.out.mono ?_;rintro e w5 ⟨rfl,hR6,hK6⟩;obtain⟨g,N1,cap1,xs,c1,hN1,hN2,hbg,hown,hbx,hfin⟩:=cR.out _ hR6;have ball:=(Below.refl w5.heap.size w5).alloc (Nat.le_refl _) (.cells #[.int .i64 (n:Int),.int .i64 p,.slice none 0 0] 153);have own5:=Wd (Own.below hown ball);have src5:=Wd (drow_src w5 (n:Int) p);have ball:=Wd ball;have hlow5:=hR6.low;have hK6:=Wd (hK5.out.trans hK6);have hfin:=Wd hfin;replace hbx:=Wd hbx;clear hR6 hown;go_wp2_with (at_builtin;refine Own.wpList_app rfl (.tmp 63) (.tmp 67) 154 rfl underlying154 info_dir (.slice (some ⟨g,0,none⟩) N1 cap1) (.slice (some ⟨w5.heap.size,0,none⟩) 1 1) rfl rfl own5.out (by simp;omega) src5.out (drow_one _ _) (by unfold maxLen;omega) (by omega) ?_;intro v3 w6 ho6 hg6 hob6;obtain⟨a6,k6,rfl⟩:=Own.form ho6;have hB6:=hbx.out _ _ ball.out hg6;have c6:=hB6.cell (j:=1) rfl;have f6:=hB6.fz;have hF:=Wd (hfin.out _ _ _ ball.out hg6 ho6);clear ho6 hg6 hob6 hB6)
 go_wp2_with fail
 go_ret2
 exact⟨rfl,by rw[hD'];exact hF.out.1,hK6.out.trans hF.out.2⟩
theorem TI_free {I c:Nat}{S:Int->Option IN.Nd}{D:Ds}(h:NT.TI I c NT.e0 S D){n:Int}(hn:S n=none):∀ m d k j,D m=some d->(k,j)∈d.l->j≠n:=fun m d k j hm hx e=>by
 subst e;refine h.has (n:=m) (k:=k) (j:=j) ?_ hn;unfold NT.at_;rw[hm];exact NT.look_asc (h.asc m d hm).1 (k,j) hx
theorem rMake_all (s:ByteArray)(hs:s.size<=maxLen)(kind:Int)(w:World)(h:RW base rt rg I B L c S D (kap D) w){ct:Nat}(hti:NT.TI I ct NT.e0 S D)(hI:I<=4096)(hc:c<65000) :
 Calls prog 121 #[.pointer (some ⟨rt,0,none⟩),.string s,.int .i64 kind] w fun e w'=>e=.returned (.tuple #[.int .i64 (NT.mk I S D s kind).1.1,.int .i64 (NT.mk I S D s kind).1.2])/\RP base rt rg I B L (c+2) (NT.mk I S D s kind).2.1 (NT.mk I S D s kind).2.2 w w':=by
 unfold NT.mk
 by_cases hk:kind=1∨kind=2
 ·rw[if_pos hk]
  by_cases h0:PM.perr s=0
  ·rw[if_neg (fun e=>e h0)]
   cases hv:NT.vacant D kind s with
   | error e1=>
     refine (rMake_vac s hs kind w h.ex hk h0 e1 hv (NT.vacant_er hv)).mono ?_;rintro e w' ⟨rfl,hb⟩;exact⟨rfl,h.same hb⟩
   | ok p=>
     simp only
     by_cases hr:IN.mkR I S kind=0
     ·rw[if_neg (fun e=>e hr)];obtain⟨n,hnI,hlow⟩:=NT.mkR_low hk hr;rw[NT.lowN_eq hlow];have hno:=hti.noD hlow.2.1;rcases hk with rfl|rfl
      ·exact rMake_file s hs w h hI hc h0 p hv n hr hlow hnI hno
      ·obtain⟨d1,h1,-⟩:=hti.root;exact rMake_dir s hs w h hI hc h0 p hv n hr hlow hnI hno (by rw[h1];simp) (TI_free hti hlow.2.1)
     ·rw[if_pos hr];refine (rMake_full s hs kind w h hI hk h0 p hv _ rfl hr).mono ?_;rintro e w' ⟨rfl,hb⟩;exact⟨rfl,h.same hb⟩
  ·rw[if_pos h0];refine (rMake_parse s hs kind w hk h0).mono ?_;rintro e w' ⟨rfl,hb⟩;exact⟨rfl,h.same hb⟩
 ·rw[if_neg hk];refine (rMake_kind s kind w hk).mono ?_;rintro e w' ⟨rfl,hb⟩;exact⟨rfl,h.same hb⟩
end
end RN
namespace RN
open IN (Keeps)
open NT (Dr Ds er nu findR)
section
variable {base rt rg I B L c k:Nat}{S:Int->Option IN.Nd}{D:Ds}{κ:Int->Int}{w w':World}
theorem rLink_A (s t:ByteArray)(hs:s.size<=maxLen)(ht:t.size<=maxLen)(w:World)(h0:PM.perr s≠0) :
 Calls prog 100 #[.pointer (some ⟨rt,0,none⟩),.string s,.string t] w fun e w'=>e=.returned (.int .i64 (PM.perr s))/\Below w.heap.size w w':=by
 have cP:=fun w=>Wd (rparsed (w:=w) hs);have cQ:=fun w=>Wd (rparsed (w:=w) ht);generalize PM.perr s=pe at *;have hne:(pe != 0)=true:=by simpa using h0
 replace h0:=Wd h0;generalize PM.pN s=n1 at cP;generalize PM.pD s=d1 at cP;generalize PM.pA s=a1 at cP;generalize PM.pN t=n2 at *;generalize PM.pD t=d2 at *;generalize PM.pA t=a2 at *;go_enter func100,ntmps100
 go_wp2_with fail
 refine (cP _).out.mono ?_;rintro e w1 ⟨ao1,N1,cap1,rfl,hS,b⟩;have bb:=b.alloc b.size (.cells #[.bool a1,.slice ao1 N1 cap1,.bool d1] 146);have B1:=Wd (bb);clear b bb hS;go_wp2_with fail
 go_ret
 exact⟨rfl,B1.out⟩
theorem rLink_B (s t:ByteArray)(hs:s.size<=maxLen)(ht:t.size<=maxLen)(w:World)(h0:PM.perr s=0)(h1:PM.perr t≠0) :
 Calls prog 100 #[.pointer (some ⟨rt,0,none⟩),.string s,.string t] w fun e w'=>e=.returned (.int .i64 (PM.perr t))/\Below w.heap.size w w':=by
 have cP:=fun w=>Wd (rparsed (w:=w) hs);have cQ:=fun w=>Wd (rparsed (w:=w) ht);rw[h0] at cP;generalize PM.perr t=pe at *;have hne:(pe != 0)=true:=by simpa using h1
 replace h1:=Wd h1;clear h0;generalize PM.pN s=n1 at cP;generalize PM.pD s=d1 at cP;generalize PM.pA s=a1 at cP;generalize PM.pN t=n2 at *;generalize PM.pD t=d2 at *;generalize PM.pA t=a2 at *;go_enter func100,ntmps100
 go_wp2_with fail
 refine (cP _).out.mono ?_;rintro e w1 ⟨ao1,N1,cap1,rfl,hS,b⟩;have bb:=b.alloc b.size (.cells #[.bool a1,.slice ao1 N1 cap1,.bool d1] 146);have B1:=Wd (bb);clear b bb hS;go_wp2_with fail
 refine (cQ _).out.mono ?_;rintro e w2 ⟨ao2,N2,cap2,rfl,hS,b⟩;have bb:=b.alloc b.size (.cells #[.bool a2,.slice ao2 N2 cap2,.bool d2] 146);have P22:Hid (Blk (w2.alloc (.cells #[.bool a2,.slice ao2 N2 cap2,.bool d2] 146)) w2.heap.size 146 [.bool a2,.slice ao2 N2 cap2,.bool d2]):=Wd (Blk.new _ _ _ rfl);have T22:Hid (SS (w2.alloc (.cells #[.bool a2,.slice ao2 N2 cap2,.bool d2] 146)) ao2 N2 cap2 n2):=Wd (hS.alloc _);have L2:=Wd hS.1;have B2:=Wd (B1.out.trans (bb.mono B1.out.size));clear b bb hS;go_wp2_with fail
 go_ret
 exact⟨rfl,B2.out⟩
theorem rLink_C (s t:ByteArray)(hs:s.size<=maxLen)(ht:t.size<=maxLen)(w:World)(h:RW base rt rg I B L c S D (kap D) w)(h0:PM.perr s=0)(h1:PM.perr t=0)(r:Int)(hf:findR D s=.error r) :
 Calls prog 100 #[.pointer (some ⟨rt,0,none⟩),.string s,.string t] w fun e w'=>e=.returned (.int .i64 r)/\Below w.heap.size w w':=by
 have cP:=fun w=>Wd (rparsed (w:=w) hs);have cQ:=fun w=>Wd (rparsed (w:=w) ht);rw[h0] at cP;rw[h1] at cQ;have cF:=Wd (fun (W:World) (hb:Below w.heap.size w W)=>find_d s hs W (h.ex.keep hb));have hr0:=findR_er hf;simp only[hf,nu,er] at cF;have hne:(r != 0)=true:=by simpa using hr0
 replace hr0:=Wd hr0;clear h h0 h1 hf;generalize PM.pN s=n1 at cP;generalize PM.pD s=d1 at cP;generalize PM.pA s=a1 at cP;generalize PM.pN t=n2 at *;generalize PM.pD t=d2 at *;generalize PM.pA t=a2 at *;go_enter func100,ntmps100
 go_wp2_with fail
 refine (cP _).out.mono ?_;rintro e w1 ⟨ao1,N1,cap1,rfl,hS,b⟩;have bb:=b.alloc b.size (.cells #[.bool a1,.slice ao1 N1 cap1,.bool d1] 146);have B1:=Wd (bb);clear b bb hS;go_wp2_with fail
 refine (cQ _).out.mono ?_;rintro e w2 ⟨ao2,N2,cap2,rfl,hS,b⟩;have bb:=b.alloc b.size (.cells #[.bool a2,.slice ao2 N2 cap2,.bool d2] 146);have P22:Hid (Blk (w2.alloc (.cells #[.bool a2,.slice ao2 N2 cap2,.bool d2] 146)) w2.heap.size 146 [.bool a2,.slice ao2 N2 cap2,.bool d2]):=Wd (Blk.new _ _ _ rfl);have T22:Hid (SS (w2.alloc (.cells #[.bool a2,.slice ao2 N2 cap2,.bool d2] 146)) ao2 N2 cap2 n2):=Wd (hS.alloc _);have L2:=Wd hS.1;have B2:=Wd (B1.out.trans (bb.mono B1.out.size));clear b bb hS;go_wp2_with fail
 refine (cF.out _ B2.out).mono ?_;rintro e w3 ⟨rfl,b⟩;have P23:=Wd (P22.out.keep b);have T23:=Wd (T22.out.below b (Nat.le_refl _));clear P22 T22;have B3:=Wd (B2.out.trans (b.mono B2.out.size));clear b;go_wp2_with fail
 go_ret
 exact⟨rfl,B3.out⟩
theorem rLink_D (s t:ByteArray)(hs:s.size<=maxLen)(ht:t.size<=maxLen)(w:World)(h:RW base rt rg I B L c S D (kap D) w)(h0:PM.perr s=0)(h1:PM.perr t=0)(n:Int)(hf:findR D s=.ok n)(d:Dr)(hD:D n=some d) :
 Calls prog 100 #[.pointer (some ⟨rt,0,none⟩),.string s,.string t] w fun e w'=>e=.returned (.int .i64 27)/\Below w.heap.size w w':=by
 have cP:=fun w=>Wd (rparsed (w:=w) hs);have cQ:=fun w=>Wd (rparsed (w:=w) ht);rw[h0] at cP;rw[h1] at cQ;have cF:=Wd (fun (W:World) (hb:Below w.heap.size w W)=>find_d s hs W (h.ex.keep hb));simp only[hf,nu,er] at cF;obtain⟨K,cD⟩:=dir_yes w h.ex hD;replace cD:=Wd cD;have hK:(0:Int)<=(K:Int):=by omega
 clear h h0 h1 hf hD;generalize PM.pN s=n1 at cP;generalize PM.pD s=d1 at cP;generalize PM.pA s=a1 at cP;generalize PM.pN t=n2 at *;generalize PM.pD t=d2 at *;generalize PM.pA t=a2 at *;go_enter func100,ntmps100
 go_wp2_with fail
 refine (cP _).out.mono ?_;rintro e w1 ⟨ao1,N1,cap1,rfl,hS,b⟩;have bb:=b.alloc b.size (.cells #[.bool a1,.slice ao1 N1 cap1,.bool d1] 146);have B1:=Wd (bb);clear b bb hS;go_wp2_with fail
 refine (cQ _).out.mono ?_;rintro e w2 ⟨ao2,N2,cap2,rfl,hS,b⟩;have bb:=b.alloc b.size (.cells #[.bool a2,.slice ao2 N2 cap2,.bool d2] 146);have P22:Hid (Blk (w2.alloc (.cells #[.bool a2,.slice ao2 N2 cap2,.bool d2] 146)) w2.heap.size 146 [.bool a2,.slice ao2 N2 cap2,.bool d2]):=Wd (Blk.new _ _ _ rfl);have T22:Hid (SS (w2.alloc (.cells #[.bool a2,.slice ao2 N2 cap2,.bool d2] 146)) ao2 N2 cap2 n2):=Wd (hS.alloc _);have L2:=Wd hS.1;have B2:=Wd (B1.out.trans (bb.mono B1.out.size));clear b bb hS;go_wp2_with fail
 refine (cF.out _ B2.out).mono ?_;rintro e w3 ⟨rfl,b⟩;have P23:=Wd (P22.out.keep b);have T23:=Wd (T22.out.below b (Nat.le_refl _));clear P22 T22;have B3:=Wd (B2.out.trans (b.mono B2.out.size));clear b;go_wp2_with fail
 refine (cD.out _ B3.out).mono ?_;rintro e w0 ⟨rfl,rfl⟩;go_wp2_with fail
 go_ret
 exact⟨rfl,B3.out⟩
theorem rLink_E (s t:ByteArray)(hs:s.size<=maxLen)(ht:t.size<=maxLen)(w:World)(h:RW base rt rg I B L c S D (kap D) w)(h0:PM.perr s=0)(h1:PM.perr t=0)(n:Int)(hf:findR D s=.ok n)(hD:D n=none)(r:Int)(hv:NT.vacant D 1 t=.error r) :
 Calls prog 100 #[.pointer (some ⟨rt,0,none⟩),.string s,.string t] w fun e w'=>e=.returned (.int .i64 r)/\Below w.heap.size w w':=by
 have cP:=fun w=>Wd (rparsed (w:=w) hs);have cQ:=fun w=>Wd (rparsed (w:=w) ht);rw[h0] at cP;rw[h1] at cQ;have cF:=Wd (fun (W:World) (hb:Below w.heap.size w W)=>find_d s hs W (h.ex.keep hb));simp only[hf,nu,er] at cF;have cD:=Wd (fun (W:World) (hb:Below w.heap.size w W)=>dir_no W (h.ex.keep hb) hD);have cV:=Wd (fun (ao:Option Addr) (n cap:Nat) (W:World) (hb:Below w.heap.size w W) (hl:SS W ao n cap (PM.pN t))=>free_d (PM.pA t) (PM.pD t) 1 (PM.pN t) ao n cap W (h.ex.keep hb) hl (by have:=hl.1;have:=pN_len t;omega) (pN_comp t));have hr0:=NT.vacant_er hv;simp only[fr_vac,hv] at cV;have hne:(r != 0)=true:=by simpa using hr0
 replace hr0:=Wd hr0;clear h h0 h1 hf hD hv;generalize PM.pN s=n1 at cP;generalize PM.pD s=d1 at cP;generalize PM.pA s=a1 at cP;generalize PM.pN t=n2 at *;generalize PM.pD t=d2 at *;generalize PM.pA t=a2 at *;go_enter func100,ntmps100
 go_wp2_with fail
 refine (cP _).out.mono ?_;rintro e w1 ⟨ao1,N1,cap1,rfl,hS,b⟩;have bb:=b.alloc b.size (.cells #[.bool a1,.slice ao1 N1 cap1,.bool d1] 146);have B1:=Wd (bb);clear b bb hS;go_wp2_with fail
 refine (cQ _).out.mono ?_;rintro e w2 ⟨ao2,N2,cap2,rfl,hS,b⟩;have bb:=b.alloc b.size (.cells #[.bool a2,.slice ao2 N2 cap2,.bool d2] 146);have P22:Hid (Blk (w2.alloc (.cells #[.bool a2,.slice ao2 N2 cap2,.bool d2] 146)) w2.heap.size 146 [.bool a2,.slice ao2 N2 cap2,.bool d2]):=Wd (Blk.new _ _ _ rfl);have T22:Hid (SS (w2.alloc (.cells #[.bool a2,.slice ao2 N2 cap2,.bool d2] 146)) ao2 N2 cap2 n2):=Wd (hS.alloc _);have L2:=Wd hS.1;have B2:=Wd (B1.out.trans (bb.mono B1.out.size));clear b bb hS;go_wp2_with fail
 refine (cF.out _ B2.out).mono ?_;rintro e w3 ⟨rfl,b⟩;have P23:=Wd (P22.out.keep b);have T23:=Wd (T22.out.below b (Nat.le_refl _));clear P22 T22;have B3:=Wd (B2.out.trans (b.mono B2.out.size));clear b;go_wp2_with fail
 refine (cD.out _ B3.out).mono ?_;rintro e w0 ⟨rfl,rfl⟩;have e20:=P23.out.cell (j:=0) rfl;have e21:=P23.out.cell (j:=1) rfl;have e22:=P23.out.cell (j:=2) rfl;go_wp2_with fail
 refine (cV.out ao2 N2 cap2 _ B3.out T23.out).mono ?_;rintro e w4 ⟨rfl,b⟩;have P24:=Wd (P23.out.keep b);have T24:=Wd (T23.out.below b (Nat.le_refl _));clear P23 T23;have B4:=Wd (B3.out.trans (b.mono B3.out.size));clear b;clear e20 e21 e22;go_wp2_with fail
 go_ret
 exact⟨rfl,B4.out⟩
theorem rLink_F (s t:ByteArray)(hs:s.size<=maxLen)(ht:t.size<=maxLen)(w:World)(h:RW base rt rg I B L c S D (kap D) w)(h0:PM.perr s=0)(h1:PM.perr t=0)(n:Int)(hf:findR D s=.ok n)(hD:D n=none)(p:Int)(hv:NT.vacant D 1 t=.ok p)(hfi:IN.Fine I L B k S)(hI:I<=4096)(hL:L<=32768)(r:Int)(hr:IN.lkR L S n=r)(hr0:r≠0) :
 Calls prog 100 #[.pointer (some ⟨rt,0,none⟩),.string s,.string t] w fun e w'=>e=.returned (.int .i64 r)/\RP base rt rg I B L (c+2) S D w w':=by
 have cP:=fun w=>Wd (rparsed (w:=w) hs);have cQ:=fun w=>Wd (rparsed (w:=w) ht);rw[h0] at cP;rw[h1] at cQ;have cF:=Wd (fun (W:World) (hb:Below w.heap.size w W)=>find_d s hs W (h.ex.keep hb));simp only[hf,nu,er] at cF;have cD:=Wd (fun (W:World) (hb:Below w.heap.size w W)=>dir_no W (h.ex.keep hb) hD);have cV:=Wd (fun (ao:Option Addr) (n cap:Nat) (W:World) (hb:Below w.heap.size w W) (hl:SS W ao n cap (PM.pN t))=>free_d (PM.pA t) (PM.pD t) 1 (PM.pN t) ao n cap W (h.ex.keep hb) hl (by have:=hl.1;have:=pN_len t;omega) (pN_comp t));simp only[fr_vac,hv] at cV;have hpt:=Wd (fun (W:World) (hb:Below w.heap.size w W)=>(h.keep hb).ptr.1);have hlw:=Wd h.low;have cL:=Wd (fun (W:World) (hb:Below w.heap.size w W)=>(IN.rLink_any n W hfi hI hL (h.keep hb).rs).mono fun e w' ho=>(h.keep hb).out ho);simp only[NT.lkS_no (show IN.lkR L S n≠0 by rw[hr];exact hr0),hr] at cL;have hne:(r == 0)=false:=by simpa using hr0
 replace hr0:=Wd hr0;generalize NT.last (PM.pN t)=z at *;clear h h0 h1 hf hD hv hr hfi;generalize PM.pN s=n1 at cP;generalize PM.pD s=d1 at cP;generalize PM.pA s=a1 at cP;generalize PM.pN t=n2 at *;generalize PM.pD t=d2 at *;generalize PM.pA t=a2 at *;go_enter func100,ntmps100
 go_wp2_with fail
 refine (cP _).out.mono ?_;rintro e w1 ⟨ao1,N1,cap1,rfl,hS,b⟩;have bb:=b.alloc b.size (.cells #[.bool a1,.slice ao1 N1 cap1,.bool d1] 146);have B1:=Wd (bb);clear b bb hS;go_wp2_with fail
 refine (cQ _).out.mono ?_;rintro e w2 ⟨ao2,N2,cap2,rfl,hS,b⟩;have bb:=b.alloc b.size (.cells #[.bool a2,.slice ao2 N2 cap2,.bool d2] 146);have P22:Hid (Blk (w2.alloc (.cells #[.bool a2,.slice ao2 N2 cap2,.bool d2] 146)) w2.heap.size 146 [.bool a2,.slice ao2 N2 cap2,.bool d2]):=Wd (Blk.new _ _ _ rfl);have T22:Hid (SS (w2.alloc (.cells #[.bool a2,.slice ao2 N2 cap2,.bool d2] 146)) ao2 N2 cap2 n2):=Wd (hS.alloc _);have L2:=Wd hS.1;have B2:=Wd (B1.out.trans (bb.mono B1.out.size));clear b bb hS;go_wp2_with fail
 refine (cF.out _ B2.out).mono ?_;rintro e w3 ⟨rfl,b⟩;have P23:=Wd (P22.out.keep b);have T23:=Wd (T22.out.below b (Nat.le_refl _));clear P22 T22;have B3:=Wd (B2.out.trans (b.mono B2.out.size));clear b;go_wp2_with fail
 refine (cD.out _ B3.out).mono ?_;rintro e w0 ⟨rfl,rfl⟩;have e20:=P23.out.cell (j:=0) rfl;have e21:=P23.out.cell (j:=1) rfl;have e22:=P23.out.cell (j:=2) rfl;go_wp2_with fail
 refine (cV.out ao2 N2 cap2 _ B3.out T23.out).mono ?_;rintro e w4 ⟨rfl,b⟩;have P24:=Wd (P23.out.keep b);have T24:=Wd (T23.out.below b (Nat.le_refl _));clear P23 T23;have B4:=Wd (B3.out.trans (b.mono B3.out.size));clear b;clear e20 e21 e22;have t0:=hpt.out _ B4.out;go_wp2_with fail
 refine (cL.out _ B4.out).mono ?_;rintro e w5 ⟨rfl,h5,k5⟩;have k5:=Wd ((Keeps.new B4.out hlw.out).trans k5);have h5:=Wd h5;clear t0;go_wp2_with fail
 go_ret
 exact⟨rfl,h5.out.more (by omega),k5.out⟩
theorem rLink_G (s t:ByteArray)(hs:s.size<=maxLen)(ht:t.size<=maxLen)(w:World)(h:RW base rt rg I B L c S D (kap D) w)(h0:PM.perr s=0)(h1:PM.perr t=0)(n:Int)(hf:findR D s=.ok n)(hD:D n=none)(p:Int)(hv:NT.vacant D 1 t=.ok p)(hfi:IN.Fine I L B k S)(hI:I<=4096)(hL:L<=32768)(hr:IN.lkR L S n=0)(hn0:n≠0)(hc:c<65000) :
 Calls prog 100 #[.pointer (some ⟨rt,0,none⟩),.string s,.string t] w fun e w'=>e=.returned (.int .i64 0)/\RP base rt rg I B L (c+2) (IN.lkS L S n) (NT.putD D p (NT.last (PM.pN t)) n) w w':=by
 have cP:=fun w=>Wd (rparsed (w:=w) hs);have cQ:=fun w=>Wd (rparsed (w:=w) ht);rw[h0] at cP;rw[h1] at cQ;have cF:=Wd (fun (W:World) (hb:Below w.heap.size w W)=>find_d s hs W (h.ex.keep hb));simp only[hf,nu,er] at cF;have cD:=Wd (fun (W:World) (hb:Below w.heap.size w W)=>dir_no W (h.ex.keep hb) hD);have cV:=Wd (fun (ao:Option Addr) (n cap:Nat) (W:World) (hb:Below w.heap.size w W) (hl:SS W ao n cap (PM.pN t))=>free_d (PM.pA t) (PM.pD t) 1 (PM.pN t) ao n cap W (h.ex.keep hb) hl (by have:=hl.1;have:=pN_len t;omega) (pN_comp t));simp only[fr_vac,hv] at cV;have hpt:=Wd (fun (W:World) (hb:Below w.heap.size w W)=>(h.keep hb).ptr.1);have hlw:=Wd h.low;obtain⟨⟨dp,hdp⟩,hat,-⟩:=NT.vac_ok hv;have hkp:kap (NT.putD D p (NT.last (PM.pN t)) n)=kap D:=by
  funext j
  unfold kap NT.putD
  by_cases e:j=p
  ·rw[if_pos e,hdp,e,hdp];rfl
  ·rw[if_neg e]
 have cL:=Wd (fun (W:World) (hb:Below w.heap.size w W)=>(IN.rLink_any n W hfi hI hL (h.keep hb).rs).mono fun e w' ho=>(h.keep hb).out ho);simp only[hr] at cL;have cU:=Wd (fun (W:World) (h2:RW base rt rg I B L c (IN.lkS L S n) D (kap D) W)=>put_d p (NT.last (PM.pN t)) n 1 W h2 (by omega) hdp (NT.at_none hdp hat) hn0 (by unfold kap;rw[if_pos hD]));have hfin:=Wd (fun (W:World) (h2:RW base rt rg I B L (c+1) (IN.lkS L S n) (NT.putD D p (NT.last (PM.pN t)) n) (kap D) W) (hK:Keeps base UT w W)=>show RP base rt rg I B L (c+2) (IN.lkS L S n) (NT.putD D p (NT.last (PM.pN t)) n) w W from ⟨by rw[hkp];exact h2.more (by omega),hK⟩);generalize NT.last (PM.pN t)=z at *;clear h h0 h1 hf hD hv hr hfi hkp hat hdp;generalize PM.pN s=n1 at cP;generalize PM.pD s=d1 at cP;generalize PM.pA s=a1 at cP;generalize PM.pN t=n2 at *;generalize PM.pD t=d2 at *;generalize PM.pA t=a2 at *;go_enter func100,ntmps100
 go_wp2_with fail
 refine (cP _).out.mono ?_;rintro e w1 ⟨ao1,N1,cap1,rfl,hS,b⟩;have bb:=b.alloc b.size (.cells #[.bool a1,.slice ao1 N1 cap1,.bool d1] 146);have B1:=Wd (bb);clear b bb hS;go_wp2_with fail
 refine (cQ _).out.mono ?_;rintro e w2 ⟨ao2,N2,cap2,rfl,hS,b⟩;have bb:=b.alloc b.size (.cells #[.bool a2,.slice ao2 N2 cap2,.bool d2] 146);have P22:Hid (Blk (w2.alloc (.cells #[.bool a2,.slice ao2 N2 cap2,.bool d2] 146)) w2.heap.size 146 [.bool a2,.slice ao2 N2 cap2,.bool d2]):=Wd (Blk.new _ _ _ rfl);have T22:Hid (SS (w2.alloc (.cells #[.bool a2,.slice ao2 N2 cap2,.bool d2] 146)) ao2 N2 cap2 n2):=Wd (hS.alloc _);have L2:=Wd hS.1;have B2:=Wd (B1.out.trans (bb.mono B1.out.size));clear b bb hS;go_wp2_with fail
 refine (cF.out _ B2.out).mono ?_;rintro e w3 ⟨rfl,b⟩;have P23:=Wd (P22.out.keep b);have T23:=Wd (T22.out.below b (Nat.le_refl _));clear P22 T22;have B3:=Wd (B2.out.trans (b.mono B2.out.size));clear b;go_wp2_with fail
 refine (cD.out _ B3.out).mono ?_;rintro e w0 ⟨rfl,rfl⟩;have e20:=P23.out.cell (j:=0) rfl;have e21:=P23.out.cell (j:=1) rfl;have e22:=P23.out.cell (j:=2) rfl;go_wp2_with fail
 refine (cV.out ao2 N2 cap2 _ B3.out T23.out).mono ?_;rintro e w4 ⟨rfl,b⟩;have P24:=Wd (P23.out.keep b);have T24:=Wd (T23.out.below b (Nat.le_refl _));clear P23 T23;have B4:=Wd (B3.out.trans (b.mono B3.out.size));clear b;clear e20 e21 e22;have t0:=hpt.out _ B4.out;go_wp2_with fail
 refine (cL.out _ B4.out).mono ?_;rintro e w5 ⟨rfl,h5,k5⟩;have k5:=Wd ((Keeps.new B4.out hlw.out).trans k5);have cU1:=Wd (cU.out _ h5);clear h5 t0;go_wp2_with fail
 refine cU1.out.mono ?_;rintro e w6 ⟨rfl,h6,k6⟩;have hF:=Wd (hfin.out _ h6 (k5.out.trans k6));clear h6 k6;go_wp2_with fail
 go_ret
 exact⟨rfl,hF.out⟩
theorem findR_ok {D:Ds}{s:ByteArray}(h:PM.perr s=0):findR D s=NT.find D (PM.pN s) (PM.pD s):=by unfold findR;rw[if_pos h]
theorem rLink_all (s t:ByteArray)(hs:s.size<=maxLen)(ht:t.size<=maxLen)(w:World)(h:RW base rt rg I B L c S D (kap D) w){ct:Nat}(hti:NT.TI I ct NT.e0 S D)(hfi:IN.Fine I L B k S)(hI:I<=4096)(hL:L<=32768)(hc:c<65000) :
 Calls prog 100 #[.pointer (some ⟨rt,0,none⟩),.string s,.string t] w fun e w'=>e=.returned (.int .i64 (NT.lnk L S D s t).1)/\RP base rt rg I B L (c+2) (NT.lnk L S D s t).2.1 (NT.lnk L S D s t).2.2 w w':=by
 unfold NT.lnk
 by_cases h0:PM.perr s=0
 ·rw[if_neg (fun e=>e h0)]
  by_cases h1:PM.perr t=0
  ·rw[if_neg (fun e=>e h1)];have hfr:=findR_ok (D:=D) h0
   cases hf:NT.find D (PM.pN s) (PM.pD s) with
   | error r=>
     refine (rLink_C s t hs ht w h h0 h1 r (hfr.trans hf)).mono ?_;rintro e w' ⟨rfl,hb⟩;exact⟨rfl,h.same hb⟩
   | ok n=>
     simp only
     cases hD:D n with
     | some d=>
       rw[if_pos (by simp)];refine (rLink_D s t hs ht w h h0 h1 n (hfr.trans hf) d hD).mono ?_;rintro e w' ⟨rfl,hb⟩;exact⟨rfl,h.same hb⟩
     | none=>
       rw[if_neg (fun e=>e rfl)]
       cases hv:NT.vacant D 1 t with
       | error r=>
         refine (rLink_E s t hs ht w h h0 h1 n (hfr.trans hf) hD r hv).mono ?_;rintro e w' ⟨rfl,hb⟩;exact⟨rfl,h.same hb⟩
       | ok p=>
         simp only
         by_cases hr:IN.lkR L S n=0
         ·rw[if_pos hr];have hn0:n≠0:=fun e=>by have:=hti.num n (hti.find_in hf);omega
          exact rLink_G s t hs ht w h h0 h1 n (hfr.trans hf) hD p hv hfi hI hL hr hn0 hc
         ·rw[if_neg hr];exact rLink_F s t hs ht w h h0 h1 n (hfr.trans hf) hD p hv hfi hI hL _ rfl hr
  ·rw[if_pos h1];refine (rLink_B (rt:=rt) s t hs ht w h0 h1).mono ?_;rintro e w' ⟨rfl,hb⟩;exact⟨rfl,h.same hb⟩
 ·rw[if_pos h0];refine (rLink_A (rt:=rt) s t hs ht w h0).mono ?_;rintro e w' ⟨rfl,hb⟩;exact⟨rfl,h.same hb⟩
end
end RN
end Go.Proofs.YtfffibepcdlldaaGreat

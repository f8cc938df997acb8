/- A part. -/
import Derived.Test.YtfffibepcdlldaaGreatZA40
set_option linter.unusedVariables false
set_option linter.unusedSimpArgs false
set_option maxRecDepth 100000
set_option maxHeartbeats 64000000
open Go.Proofs.Tryz

namespace Go.Proofs.YtfffibepcdlldaaGreat
open Go.ChangeShapes Go.WideShapes Go.ChangeAt Go.RowKit
namespace RD
open DC (Of Ls Ps Ou Sm lk delP setP relS relO relA drpR DI cntL cntP)
open IN (Keeps lt_of_some cellkept)
open IS (I64)
theorem di_rel {f o:Nat}{S:Sm}{P:Ps}{O:Ou}{k:Nat}{R:Ls}(h:DI f o S P O (some k :: R)):DI f o (relS S O k) P (relO O k) R:=by
 obtain⟨x,hx⟩:=h.hasR (k:=k) (by rw[DC.cntL_cons,if_pos rfl];omega);unfold relS relO;rw[hx];simp only
 by_cases h1:1<x.refs
 ·rw[if_pos h1,if_pos h1];exact h.less hx h1
 ·rw[if_neg h1,if_neg h1];exact h.closed hx (by have:=(h.refs k x hx).1;omega)
theorem none_next (j:Nat)(t:Ls):List.replicate j none ++ (none :: t)=List.replicate (j+1) none ++ t:=by
 rw[List.replicate_succ',List.append_assoc];rfl
theorem none_set (j:Nat)(x:Option Nat)(t:Ls):(List.replicate j none ++ x :: t).set j none=List.replicate (j+1) none ++ t:=by
 rw[List.set_append_right _ _ (by simp),List.length_replicate,Nat.sub_self,List.set_cons_zero,none_next]
theorem del_set (pid:Int)(L:Ls):∀ P:Ps,delP (setP P pid L) pid=delP P pid
 | []=>rfl
 | x :: P=>by
   have ih:=del_set pid L P;unfold setP delP at *;rw[List.map_cons]
   by_cases e:x.1=pid
   ·rw[if_pos e,List.filter_cons,List.filter_cons,if_neg (by simp[e]),if_neg (by simp[e])];exact ih
   ·rw[if_neg e,List.filter_cons,List.filter_cons,if_pos (by simp[e]),if_pos (by simp[e]),ih]
section
variable {K:Cd}{c q:Nat}{S:Sm}{D:NT.Ds}{P:Ps}{O:Ou}{vo vp:Value}{qo:List Of}{qp:List PE}{w w':World}
structure DrI (K:Cd)(c q:Nat)(D:NT.Ds)(pid:Int)(L:Ls)(P0:Ps)(fin:Sm×Ou)(vo vp:Value)(N Np i:Nat)(w:World)(j:Nat)(S:Sm)(qo:List Of)(qp:List PE)(wr:World):Prop where
 qt:QT K vo vp qo qp wr
 lo:qo.length=N
 lp:qp.length=Np
 ix:px qp pid=i
 tr:RN.RW K.base K.rt K.rg K.I K.B K.L c S D (RN.kap D) wr
 di:DI K.files K.opens S (delP P0 pid) (Oq qo) (L.drop j)
 fine:IN.Fine K.I K.L K.B q S
 asc:DC.Asc (Pq qp)
 at_:lk (Pq qp) pid=some (List.replicate j none ++ L.drop j)
 del:delP (Pq qp) pid=delP P0 pid
 kp:Keeps K.base ZT w wr
 rel:relA S (Oq qo) (L.drop j)=fin
theorem DrI.skip {pid:Int}{L:Ls}{P0:Ps}{fin:Sm×Ou}{N Np i j:Nat}{wr:World}(h:DrI K c q D pid L P0 fin vo vp N Np i w j S qo qp wr)(hj:L.drop j=none :: L.drop (j+1)):DrI K c q D pid L P0 fin vo vp N Np i w (j+1) S qo qp wr:=by
 refine⟨h.qt,h.lo,h.lp,h.ix,h.tr,?_,h.fine,h.asc,?_,h.del,h.kp,?_⟩
 ·have:=h.di;rw[hj] at this;exact this.skip
 ·have:=h.at_;rw[hj,none_next] at this;exact this
 ·have:=h.rel;rw[hj] at this;exact this
theorem drop_d (pid:Int)(w:World)(h:RT K c S D P O w)(hk:Kn K q S D P O) :
 Calls prog 94 #[.pointer (some ⟨K.d,0,none⟩),.int .i64 pid] w fun e w'=>e=.returned (.int .i64 (drpR S P O pid).1)/\RO K c (drpR S P O pid).2.1 D (drpR S P O pid).2.2.1 (drpR S P O pid).2.2.2 w w':=by
 have h0:=Wd h;obtain⟨⟨vo,vp,qo,qp,h1,rfl,rfl,hol⟩,htr⟩:=h;have hlen:qp.length<=100000:=by have:=hk.few;rw[Pq_len] at this;have:=hk.lim;omega
 have cA:=at_any pid h1 hlen;have hcap:=hk.cap;unfold drpR
 cases e1:lk (Pq qp) pid with
 | none=>
   have hat:atA (Pq qp) qp pid = -1:=by unfold atA;rw[if_pos e1]
   rw[hat] at cA;have cA:=Wd cA;clear h1 hol htr hk hcap hlen e1 hat;go_enter func94,ntmps94
   go_wp2_with fail
   refine cA.out.mono ?_;rintro e w1 ⟨rfl,rfl⟩;go_wp2_with fail
   go_ret
   exact⟨rfl,h0.out.same (Below.refl _ _)⟩
 | some L=>
   simp only;have hat:atA (Pq qp) qp pid=(px qp pid:Int):=by unfold atA;rw[if_neg (by rw[e1];simp)]
   rw[hat] at cA;have cA:=Wd cA;have hnl:decide (((px qp pid:Nat):Int)<0)=false:=decide_eq_false (by omega);have hl:=(hk.di.lks e1).1;have hlim:=hk.lim;obtain⟨pg0,Np0,pcap0,hvp0⟩:∃ pg n cp,vp=.slice (some ⟨pg,0,none⟩) n cp:=by
    obtain⟨hi,-⟩:=px_some e1;obtain⟨pg,cp,e,-⟩:=h1.atP hi;exact⟨pg,_,cp,e⟩
   have i0:Hid (DrI K c q D pid L (Pq qp) (relA S (Oq qo) L) vo vp qo.length qp.length (px qp pid) w 0 S qo qp w):=Wd ⟨h1,rfl,rfl,rfl,htr,by
    have:=hk.di.del e1;rw[List.append_nil] at this
    exact this,hk.fine,hk.di.asc,e1,rfl,Keeps.refl _ _ _,rfl⟩
   have hbd:Hid (∀ (j:Nat) (Si:Sm) (Oi:Ou),DI K.files K.opens Si (delP (Pq qp) pid) Oi (L.drop j)->∀ k o,Oi k=some o->1<=o.refs/\o.refs<=4000000):=Wd (by
    intro j Si Oi hd k o ho;have hrf:=hd.refs k o ho;have h7:=DC.cntP_le (f:=K.files) k hd.len;have h8:=hk.few;have h9:=DC.del_len (Pq qp) pid;have h10:=DC.cntL_le k (L.drop j);rw[List.length_drop] at h10;have:(delP (Pq qp) pid).length*K.files<=60000*64:=Nat.mul_le_mul (by omega) (by omega)
    omega)
   have fin:Hid (∀ (Si:Sm) (qoi:List Of) (qpi:List PE) (wr:World),DrI K c q D pid L (Pq qp) (relA S (Oq qo) L) vo vp qo.length qp.length (px qp pid) w K.files Si qoi qpi wr->∀ (w3:World) (v3:Value),Below wr.heap.size wr w3->w3.ownsRow wr.heap.size 108 2 v3 (qpi.take (px qp pid) ++ qpi.drop (px qp pid+1)).length (pcl (qpi.take (px qp pid) ++ qpi.drop (px qp pid+1)))->RO K c (relA S (Oq qo) L).1 D (delP (Pq qp) pid) (relA S (Oq qo) L).2 w (w3.setCell ⟨K.d,10,none⟩ v3)):=Wd (by
    intro Si qoi qpi wr hI w3 v3 b3 ho;have hrel:=hI.rel;have hd0:L.drop K.files=[]:=List.drop_of_length_le (by omega);rw[hd0] at hrel;have hd:=Pq_del (q:=qpi) (pid:=pid) hI.asc (px_some hI.at_).1;rw[hI.ix,hI.del] at hd;obtain⟨q1,k1⟩:=hI.qt.lessP b3 (px qp pid) ho;rw[<-hrel,<-hd]
    exact⟨(RT.of q1 (by rw[hI.lo];exact hol) (tr_own hI.tr k1)).more (by omega),hI.kp.trans (ZT_own k1)⟩)
   have hF2:=hcap.2.1;have hol:=Wd hol;clear h1 htr hk h0 hat e1;generalize relA S (Oq qo) L=finO at *;generalize px qp pid=i at *;generalize qp.length=Np at *;generalize qo.length=N at *;generalize Pq qp=P0 at *;subst hvp0;obtain⟨F,hFF⟩:∃ F,K.files=F:=⟨_,rfl⟩;rw[hFF] at hl hF2;have hFF:=Wd hFF;have hl:=Wd hl;go_enter func94,ntmps94
   go_wp2_with fail
   refine cA.out.mono ?_;rintro e w1 ⟨rfl,rfl⟩;go_wp2_with fail
   go_loopw [6] (fun iv wr=>∃ (j:Nat) (Si:Sm) (qoi:List Of) (qpi:List PE),j<=F/\iv=.int .i64 (j:Int)/\Hid (DrI K c q D pid L P0 finO vo (.slice (some ⟨pg0,0,none⟩) Np0 pcap0) N Np i w j Si qoi qpi wr)) (fun iv _=>F-(intOf iv).toNat)
   case atStart=>exact⟨0,S,qo,qp,Nat.zero_le _,rfl,i0⟩
   case round=>
    obtain⟨j,Si,qoi,qpi,hj,rfl,hI⟩:=hrel;obtain⟨hi,hL⟩:=px_some hI.out.at_;have hix:=hI.out.ix;rw[hix] at hi;simp only[hix] at hL;have hLl:qpi[i].L.length=F:=by rw[hL,List.length_append,List.length_replicate,List.length_drop,hl.out];omega
    obtain⟨pg,pcap,hvp,hiN,hPc,hpm,hlc,hlm,hG⟩:=hI.out.qt.lo hi;simp only[Value.slice.injEq,Option.some.injEq,Addr.mk.injEq,and_true,true_and] at hvp;obtain⟨hpg,hNp,hpc⟩:=hvp;subst hpg hpc;rw[<-hNp] at hiN hPc;have hg:=hG wr hI.out.qt;rw[hLl] at hlc hg;have t1:=hg.s10;have t2:=hg.p1;have hcl:=Wd (hI.out.qt.atL hi).2.2.2.2.2.2;clear hg hG
    by_cases hlt:j<F
    ·have hjF:(j:Int)<(F:Int):=by omega
     obtain⟨x,hx⟩:∃ x,L[j]? = some x:=⟨_,List.getElem?_eq_getElem (by rw[hl.out];exact hlt)⟩;have hdr:L.drop j=x :: L.drop (j+1):=by
      obtain⟨h1,h2⟩:=List.getElem?_eq_some_iff.1 hx;rw[List.drop_eq_getElem_cons h1,h2]
     have hMj:(List.replicate j none ++ L.drop j)[j]? = some x:=by
      rw[hdr,List.getElem?_append_right (by simp),List.length_replicate,Nat.sub_self];rfl
     have y2:=hcl.out j x (by rw[hL];exact hMj)
     cases x with
     | none=>
       simp only[cd] at y2;have hI2:=Wd (hI.out.skip hdr);clear hI hdr hMj hx hcl hL hLl hix;generalize qpi[i].g=lg at *;generalize qpi[i].cap=lc at *;clear hi;clear hNp;go_wp2_with fail
       go_roundw
       case rel=>exact⟨j+1,Si,qoi,qpi,by omega,by go_num,hI2⟩
       case measure=>simp[intOf];omega
     | some k=>
       simp only[cd] at y2;obtain⟨o,ho⟩:=hI.out.di.hasR (k:=k) (by rw[hdr,DC.cntL_cons,if_pos rfl];omega);have cS:=shut_any pid j k wr hI.out.qt (by rw[hI.out.lo];exact hol.out) hI.out.tr hI.out.asc hI.out.fine (by omega) hI.out.at_ hMj ho (hbd.out j Si (Oq qoi) hI.out.di k o ho);rw[hix] at cS
       have hnext:Hid (∀ w2,(∃ qo2 qp2,ShO K c (relS Si (Oq qoi) k) D vo (.slice (some ⟨pg0,0,none⟩) Np0 pcap0) qo2 qp2 wr w2/\Oq qo2=relO (Oq qoi) k/\Pq qp2=setP (Pq qpi) pid ((List.replicate j none ++ L.drop j).set j none)/\qo2.length=qoi.length/\qp2.length=qpi.length/\px qp2 pid=i)->∃ qo2 qp2,DrI K c q D pid L P0 finO vo (.slice (some ⟨pg0,0,none⟩) Np0 pcap0) N Np i w (j+1) (relS Si (Oq qoi) k) qo2 qp2 w2):=Wd (by
        rintro w2 ⟨qo2,qp2,⟨g1,g2,g3⟩,e1,e2,e3,e4,e5⟩;have hdi:=hI.out.di;rw[hdr] at hdi;have hre:=hI.out.rel;rw[hdr] at hre;rw[hdr,none_set] at e2;refine⟨qo2,qp2,g1,e3.trans hI.out.lo,e4.trans hI.out.lp,e5,g2,?_,fine_rel hI.out.fine _ _,?_,?_,?_,hI.out.kp.trans g3,?_⟩
        ·rw[e1];exact di_rel hdi
        ·rw[e2];exact DC.asc_set hI.out.asc
        ·rw[e2,DC.lk_set,if_pos ⟨rfl,by rw[hI.out.at_];simp⟩]
        ·rw[e2,del_set];exact hI.out.del
        ·rw[e1];exact hre)
       have cS:=Wd cS;have hk0:decide (((k:Nat):Int)≥0)=true:=decide_eq_true (by omega);have hk0':decide ((0:Int)<=((k:Nat):Int))=true:=decide_eq_true (by omega);clear hI hdr hMj hx hcl hL hLl hix ho;generalize qpi[i].g=lg at *;generalize qpi[i].cap=lc at *;clear hi;go_wp2_with fail
       refine cS.out.mono ?_;rintro e w2 ⟨rfl,hs⟩;obtain⟨qo2,qp2,hs2⟩:=hnext.out w2 hs;have hs2:=Wd hs2;clear hs hnext cS;go_wp2_with fail
       go_roundw
       case rel=>exact⟨j+1,_,qo2,qp2,by omega,by go_num,hs2⟩
       case measure=>simp[intOf];omega
    ·obtain rfl:j=F:=by omega
     have hge:(j:Int)<=(j:Int):=Int.le_refl _;have hM:qpi.length=Np0:=hNp.symm;have hlenM:Np0<=100000:=by rw[<-hM,hI.out.lp];exact hlen
     have hiM:i<Np0:=by omega
     have hrw:=hI.out.qt.rp;have hbox:=Wd hI.out.qt.box;have hfin:=Wd (fin.out Si qoi qpi wr (by rw[hFF.out];exact hI.out));rw[hM] at hrw;obtain⟨X,hmk,hmo⟩:=Own.make_room (t:=53) underlying53 info_proc Np0 (Np0:Int) rfl (by omega) (by omega);obtain⟨ad,hlo,had1,had2⟩:=Own.cut_lo (t:=53) underlying53 elem_proc info_proc pg0 0 Np0 pcap0 (i+1) ((i:Int)+1) (by omega) (by omega) hPc;have hhi:=Own.cut_hi (t:=53) underlying53 elem_proc info_proc (some ⟨pg0,0,none⟩) Np0 pcap0 i (by omega) hPc (.inr ⟨_,_,rfl⟩);have hwr:IntKind.i64.wrap ((i:Int)+1)=(i:Int)+1:=IntWalk.i64_in _ (by omega);have hi3:(i:Int)+1<=(Np0:Int):=by omega
     have hi4:(i:Int)<=(Np0:Int):=by omega
     have hrow:=Wd hrw;have A1:Hid ((wr.alloc X).drew.ownsRow wr.heap.size 108 2 (.slice (some ⟨wr.heap.size,0,none⟩) 0 Np0) 0 []):=Wd (hmo wr wr.heap.size (Nat.le_refl _));have S1:=Wd ((Own.src_take hrow.out rfl i (by omega)).keep (((Below.refl _ _).alloc (Nat.le_refl _) X).drew));have S2:=Wd ((Own.src_drop hrow.out (i+1) (by omega) ad (pcap0-(i+1)) (by simpa using had2)).keep (((Below.refl _ _).alloc (Nat.le_refl _) X).drew));have hone1:Hid (∀ u∈(pcl qpi).take (i*2),u.oneCell'=true):=Wd (fun u hu=>pcl_ones qpi u (List.mem_of_mem_take hu));have hone2:Hid (∀ u∈(pcl qpi).drop ((i+1)*2),u.oneCell'=true):=Wd (fun u hu=>pcl_ones qpi u (List.mem_of_mem_drop hu));have hcut:Hid ([] ++ (pcl qpi).take (i*2) ++ (pcl qpi).drop ((i+1)*2)=pcl (qpi.take i ++ qpi.drop (i+1))/\0+i+(Np0-(i+1))=(qpi.take i ++ qpi.drop (i+1)).length):=Wd ⟨by rw[pcl_take,pcl_drop,pcl_app];rfl,by rw[List.length_append,List.length_take,List.length_drop,hM];omega⟩;obtain⟨adb,ado,ads⟩:=ad;simp only at had1;obtain rfl:=had1.symm;have xa:∀ ob,(wr.alloc ob).cell? ⟨K.d,10,none⟩=some (.slice (some ⟨pg0,0,none⟩) Np0 pcap0):=fun ob=>cellkept ((Below.refl wr.heap.size wr).alloc (Nat.le_refl _) ob) t1;have hbl1:Hid (pg0<wr.heap.size):=Wd (hrow.out.lt pg0 rfl).2;have hgl1:Hid (K.d<wr.heap.size):=Wd hbox.out.lt;have hMM:=Wd hM;clear hI had2 hmo hM hNp hrw hL hLl hix hcl fin hbd i0;generalize qpi[i].g=lg at *;generalize qpi[i].cap=lc at *;clear hi;go_wp2_with fail
     go_region_law (first
      | (refine Own.step_app rfl (.tmp 47) (.tmp 53) 53 rfl underlying53 info_proc (.slice (some ⟨wr.heap.size,0,none⟩) 0 Np0) (.slice (some ⟨pg0,0,none⟩) i pcap0) rfl rfl A1.out (by simp) S1.out hone1.out (by unfold maxLen;omega) (by omega) ?_
         intro v2 w2 ho2 hg2 hob2;have A2:=Wd ho2;have S3:=Wd (Own.Src.grown S2.out hg2 (fun ad n c e _=>by simp only[Value.slice.injEq,Option.some.injEq] at e;have:=hbl1.out;obtain⟨rfl,-,-⟩:=e;simp[Value.ownBlock];omega));have x2b:w2.cell? ⟨K.d,10,none⟩=some (.slice (some ⟨pg0,0,none⟩) Np0 pcap0):=Own.cellg hg2 (xa X) (by have:=hgl1.out;simp[Value.ownBlock];omega);have B2:=Wd ((((Below.refl wr.heap.size wr).alloc (Nat.le_refl _) X).drew).grown hg2 (by simp) (fun j hj=>Own.ge A1.out j hj))
         clear ho2 hg2 hob2)
      | (refine Own.step_app rfl (.tmp 54) (.tmp 61) 53 rfl underlying53 info_proc v2 (.slice (some ⟨pg0,ado,ads⟩) (Np0-(i+1)) (pcap0-(i+1))) rfl rfl A2.out B2.out.size S3.out hone2.out (by unfold maxLen;omega) (by omega) ?_
         intro v3 w3 ho3 hg3 hob3;obtain⟨a3,c3,rfl⟩:=Own.form ho3;have B3:=Wd (B2.out.grown hg3 B2.out.size (fun k h=>Own.ge A2.out k h));have A3:=Wd ho3;have bx3:=hbox.out.below B3.out hgl1.out;have x3b:=bx3.cell (j:=10) rfl;have f3b:=bx3.fz
         clear ho3 hg3 hob3 bx3))
     all_goals
      go_wp2_with fail
      go_ret
      have ho3:=A3.out;have e2:=hcut.out.2;rw[hcut.out.1] at ho3;simp only[Nat.zero_add] at ho3 e2;rw[e2] at ho3;rw[e2];exact⟨rfl,hfin.out w3 _ B3.out ho3⟩
end
end RD
end Go.Proofs.YtfffibepcdlldaaGreat

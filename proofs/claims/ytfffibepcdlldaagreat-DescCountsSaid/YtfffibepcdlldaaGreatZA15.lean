/- A part. -/
import Derived.Test.YtfffibepcdlldaaGreatZA14
import Derived.Deep.RegionLaw
set_option linter.unusedVariables false
set_option linter.unusedSimpArgs false
set_option maxRecDepth 100000
set_option maxHeartbeats 64000000
open Go.Proofs.Tryz

namespace Go.Proofs.YtfffibepcdlldaaGreat
open Go.ChangeShapes Go.WideShapes Go.ChangeAt Go.RowKit
namespace IN
section
variable {base:Nat}{w w':World}{rg:Nat}{I B L z3 z4 z5 z6:Int}{v:Value}{q:List RE}
theorem RM.opened (h:RM base w rg I B L z3 z4 z5 z6 v q){p:Nat}(hp:p<q.length):∃ g N cap,v=.slice (some ⟨g,0,none⟩) N cap/\q.length=N/\(p:Int)<(N:Int)/\N<=cap/\cap<=9223372036854775807/\base<=g/\g≠rg/\g<w.heap.size/\rg<w.heap.size/\(∀ j,w.frozen? ⟨g,j,none⟩=false)/\(∀ j,w.frozen? ⟨rg,j,none⟩=false) /\
 w.cell? ⟨rg,0,none⟩=some (.int .i64 I)/\w.cell? ⟨rg,1,none⟩=some (.int .i64 B)/\w.cell? ⟨rg,2,none⟩=some (.int .i64 L)/\w.cell? ⟨rg,7,none⟩=some (.slice (some ⟨g,0,none⟩) N cap) /\
 w.cell? ⟨g,p*7,none⟩=some (.int .i64 q[p].n)/\w.cell? ⟨g,p*7+1,none⟩=some (.int .i64 q[p].kd)/\w.cell? ⟨g,p*7+2,none⟩=some (.int .i64 q[p].lk)/\w.cell? ⟨g,p*7+3,none⟩=some (.int .i64 q[p].op)/\w.cell? ⟨g,p*7+4,none⟩=some (.int .i64 q[p].sz)/\w.cell? ⟨g,p*7+5,none⟩=some (.int .i64 q[p].st)/\w.cell? ⟨g,p*7+6,none⟩=some q[p].v:=by
 obtain⟨g,cap,rfl,h1,h2,h3,h4,h5,h6,h7⟩:=h.el hp;exact⟨g,_,cap,rfl,rfl,by omega,h4,h5,h1,h3,h2,h.box.lt,h6,h.box.fz,h.box.cell rfl,h.box.cell rfl,h.box.cell rfl,h.box.cell rfl,by have:=h7 0 _ rfl;rwa[Nat.add_zero] at this,h7 1 _ rfl,h7 2 _ rfl,h7 3 _ rfl,h7 4 _ rfl,h7 5 _ rfl,h7 6 _ rfl⟩
theorem RM.drewN (h:RM base w rg I B L z3 z4 z5 z6 v q)(n:Nat):RM base (w.drewN n) rg I B L z3 z4 z5 z6 v q:=h.keep ⟨rfl,rfl,rfl,Nat.le_refl _,fun _ _=>rfl⟩
theorem Fits.drewN {l:List (Nat×Nd)}(h:Fits w q l)(n:Nat):Fits (w.drewN n) q l:=h.keep ⟨rfl,rfl,rfl,Nat.le_refl _,fun _ _=>rfl⟩
theorem XE.keeps' {l:List (Int×ByteArray)}(h:XE w v l){C:Nat}(hK:Keeps C DT w w'):XE w' v l:=h.keeps hK (by simp[DT])
theorem rat_any (n:Int)(h:RM base w rg I B L z3 z4 z5 z6 v q)(K:Nat)(hK:K<=q.length)(hne:∀ j (hj:j<q.length),j<K->q[j].n≠n)(heq:∀ hj:K<q.length,q[K].n=n)(hlen:q.length<=100000) :
 Calls prog 123 #[.pointer (some ⟨rg,0,none⟩),.int .i64 n] w fun e w'=>e=.returned (.int .i64 (if K<q.length then (K:Int) else -1))/\w=w':=by
 have c7:=h.box.cell (j:=7) rfl;obtain⟨ao,cap,hv⟩:=Own.form h.row;have hE:=Wd (fun i (hi:i<q.length)=>h.opened hi);rw[hv] at hE;subst hv;obtain⟨N,hN⟩:∃ N,q.length=N:=⟨_,rfl⟩;rw[hN] at c7 hK hlen ⊢;replace hN:=Wd hN;replace hne:=Wd hne;replace heq:=Wd heq;clear h;go_enter func123,ntmps123
 go_wp2_with fail
 go_loopw [5] (fun i wr=>∃ k:Nat,k<=K/\i=.int .i64 (k:Int)/\w=wr) (fun i _=>N-(intOf i).toNat)
 case atStart=>exact⟨0,Nat.zero_le _,rfl,rfl⟩
 case round=>
  obtain⟨k,hk,rfl,hwr⟩:=hrel;subst hwr
  by_cases hlt:k<N
  ·have hkq:k<q.length:=by rw[hN.out];exact hlt
   obtain⟨g,N',cap',hv,hN',-,-,-,-,-,-,-,-,-,-,-,-,-,e0,-⟩:=hE.out k hkq;simp only[Value.slice.injEq] at hv;obtain⟨rfl,-,-⟩:=hv;clear hN' N'
   by_cases hkK:k<K
   ·have hx:=hne.out k hkq hkK;obtain⟨a,ha⟩:∃ a,q[k].n=a:=⟨_,rfl⟩;rw[ha] at e0 hx;clear ha hkq;go_wp2_with fail
    go_roundw
    case rel=>exact⟨k+1,by omega,by go_num,by first|trivial|rfl⟩
    case measure=>simp[intOf];omega
   ·obtain rfl:k=K:=by omega
    have hx:=heq.out hkq;rw[hx] at e0;clear hx hkq;go_wp2_with fail
    go_ret
    exact⟨rfl,by first|trivial|rfl⟩
  ·obtain rfl:k=K:=by omega
   have hkN:k=N:=by omega
   replace hkN:=Wd hkN;have hge:(N:Int)<=(k:Int):=by omega
   go_wp2_with fail
   go_ret
   exact⟨rfl,by first|trivial|rfl⟩
theorem rgone_no (p:Nat)(h:RM base w rg I B L z3 z4 z5 z6 v q)(hp:p<q.length)(hz:¬ (q[p].lk=0/\q[p].op=0)) :
 Calls prog 162 #[.pointer (some ⟨rg,0,none⟩),.int .i64 (p:Int)] w fun e w'=>e=.returned (.tuple #[])/\w=w':=by
 obtain⟨g,N,cap,rfl,hN,hpN,hNc,hcm,-,-,-,-,-,-,-,-,-,c7,-,-,e2,e3,-⟩:=h.opened hp;obtain⟨a,ha⟩:∃ a,q[p].lk=a:=⟨_,rfl⟩;obtain⟨b,hb⟩:∃ b,q[p].op=b:=⟨_,rfl⟩;rw[ha] at e2 hz;rw[hb] at e3 hz;clear ha hb hN hp h
 by_cases h0:a=0
 ·have h1:¬ b=0:=fun e=>hz ⟨h0,e⟩;subst h0;clear hz;go_enter func162,ntmps162
  go_wp2_with fail
  go_end0
  exact⟨rfl,rfl⟩
 ·clear hz;go_enter func162,ntmps162
  go_wp2_with fail
  go_end0
  exact⟨rfl,rfl⟩
theorem rgone_yes (p:Nat){l:List (Nat×Nd)}(h:RM base w rg I B L z3 z4 z5 z6 v q)(hF:Fits w q l)(hp:p<q.length)(hz:q[p].lk=0/\q[p].op=0)(hlen:q.length<=100000) :
 Calls prog 162 #[.pointer (some ⟨rg,0,none⟩),.int .i64 (p:Int)] w fun e w'=>e=.returned (.tuple #[])/\RS base w' rg I B L (l.take p ++ l.drop (p+1))/\Keeps base DT w w':=by
 obtain⟨g,N,cap,rfl,hN,hpN,hNc,hcm,hbg,hgr,hgl,hrl,hgf,hrf,c0,-,-,c7,-,-,e2,e3,-⟩:=h.opened hp;rw[hz.1] at e2;rw[hz.2] at e3;obtain⟨X,hmk,hmo⟩:=Own.make_room (t:=120) underlying120 info_ino N (N:Int) rfl (by omega) (by omega);obtain⟨ad,hlo,had1,had2⟩:=Own.cut_lo (t:=120) underlying120 elem_ino info_ino g 0 N cap (p+1) ((p:Int)+1) (by omega) (by omega) hNc;have hhi:=Own.cut_hi (t:=120) underlying120 elem_ino info_ino (some ⟨g,0,none⟩) N cap p (by omega) hNc (.inr ⟨_,_,rfl⟩);have hwr:IntKind.i64.wrap ((p:Int)+1)=(p:Int)+1:=IntWalk.i64_in _ (by omega);have hi3:(p:Int)+1<=(N:Int):=by omega
 have H:=Wd h;have HF:=Wd hF;have hrow:Hid (w.ownsRow base 125 7 (.slice (some ⟨g,0,none⟩) N cap) N (rcl q)):=Wd (by have:=h.row;rw[hN] at this;exact this);have A1:Hid ((w.alloc X).drew.ownsRow w.heap.size 125 7 (.slice (some ⟨w.heap.size,0,none⟩) 0 N) 0 []):=Wd (hmo w w.heap.size (Nat.le_refl _));have S1:=Wd ((Own.src_take hrow.out rfl p (by omega)).keep (((Below.refl _ _).alloc (Nat.le_refl _) X).drew));have S2:=Wd ((Own.src_drop hrow.out (p+1) (by omega) ad (cap-(p+1)) (by simpa using had2)).keep (((Below.refl _ _).alloc (Nat.le_refl _) X).drew));have hone1:Hid (∀ u∈(rcl q).take (p*7),u.oneCell'=true):=Wd (fun u hu=>hF.one u (List.mem_of_mem_take hu));have hone2:Hid (∀ u∈(rcl q).drop ((p+1)*7),u.oneCell'=true):=Wd (fun u hu=>hF.one u (List.mem_of_mem_drop hu));have hcut:Hid ([] ++ (rcl q).take (p*7) ++ (rcl q).drop ((p+1)*7)=rcl (q.take p ++ q.drop (p+1))/\0+p+(N-(p+1))=(q.take p ++ q.drop (p+1)).length):=Wd ⟨by rw[rcl_take,rcl_drop,rcl_app];rfl,by rw[List.length_append,List.length_take,List.length_drop,hN];omega⟩;have hend:=Wd (fun (w3:World) (v3:Value) (hb:Below w.heap.size w w3) (ho:w3.ownsRow w.heap.size 125 7 v3 (q.take p ++ q.drop (p+1)).length (rcl (q.take p ++ q.drop (p+1))))=>h.newRow hb ho);obtain⟨adb,ado,ads⟩:=ad;simp only at had1;obtain rfl:=had1.symm;rw[hN] at hlen;have xa:∀ ob,(w.alloc ob).cell? ⟨rg,7,none⟩=some (.slice (some ⟨g,0,none⟩) N cap):=fun ob=>(h.box.alloc ob).cell rfl;replace hN:=Wd hN;replace hrow:=Wd hrow.out;have hbl1:Hid (g<w.heap.size):=Wd hgl;have hgl1:Hid (rg<w.heap.size):=Wd hrl;clear h hF hz had2 hmo hp c0;go_enter func162,ntmps162
 go_wp2_with fail
 go_region_law (first
  | (refine Own.step_app rfl (.tmp 32) (.tmp 38) 120 rfl underlying120 info_ino (.slice (some ⟨w.heap.size,0,none⟩) 0 N) (.slice (some ⟨g,0,none⟩) p cap) rfl rfl A1.out (by simp) S1.out hone1.out (by unfold maxLen;omega) (by omega) ?_
     intro v2 w2 ho2 hg2 hob2;have A2:=Wd ho2;have S3:=Wd (Own.Src.grown S2.out hg2 (fun ad n c e _=>by simp only[Value.slice.injEq,Option.some.injEq] at e;have:=hbl1.out;obtain⟨rfl,-,-⟩:=e;simp[Value.ownBlock];omega));have x2b:w2.cell? ⟨rg,7,none⟩=some (.slice (some ⟨g,0,none⟩) N cap):=Own.cellg hg2 (xa X) (by have:=hgl1.out;simp[Value.ownBlock];omega);have B2:=Wd ((((Below.refl w.heap.size w).alloc (Nat.le_refl _) X).drew).grown hg2 (by simp) (fun j hj=>Own.ge A1.out j hj));clear ho2 hg2 hob2)
  | (refine Own.step_app rfl (.tmp 39) (.tmp 46) 120 rfl underlying120 info_ino v2 (.slice (some ⟨g,ado,ads⟩) (N-(p+1)) (cap-(p+1))) rfl rfl A2.out B2.out.size S3.out hone2.out (by unfold maxLen;omega) (by omega) ?_
     intro v3 w3 ho3 hg3 hob3;obtain⟨a3,c3,rfl⟩:=Own.form ho3;have B3:=Wd (B2.out.grown hg3 B2.out.size (fun k h=>Own.ge A2.out k h));have A3:=Wd ho3;have bx3:=H.out.box.below B3.out hgl1.out;have x3b:=bx3.cell (j:=7) rfl;have f3b:=bx3.fz;clear ho3 hg3 hob3 bx3))
 all_goals
  go_end0
  have ho3:=A3.out;have e2:=hcut.out.2;rw[hcut.out.1] at ho3;simp only[Nat.zero_add] at ho3 e2;rw[e2] at ho3;rw[e2];obtain⟨q1,q2⟩:=hend.out w3 _ B3.out ho3;exact⟨rfl,⟨_,_,_,_,_,_,q1,((HF.out.take p).app (HF.out.drop (p+1))).keeps q2 (by simp[DT])⟩,q2⟩
end
end IN
end Go.Proofs.YtfffibepcdlldaaGreat

/- A part. -/
import Derived.Test.YtfffibepcdlldaaGreatZA47
import Derived.BigQuiet
import Derived.Test.YtfffibepcdlldaaGreatZA34
import Derived.Deep.Slices
import Derived.Test.YtfffibepcdlldaaGreatZA39
import Derived.Test.YtfffibepcdlldaaGreatZA01
import Derived.Test.YtfffibepcdlldaaGreatZA44
import Derived.Test.YtfffibepcdlldaaGreatZA38
import Derived.Deep.RegionHeld3
import Derived.OrdersHeld
set_option linter.unusedVariables false
set_option linter.unusedSimpArgs false
set_option maxRecDepth 100000
set_option maxHeartbeats 64000000
open Go.Proofs.Tryz

namespace Go.Proofs.YtfffibepcdlldaaGreat
open Go.ChangeShapes Go.WideShapes Go.ChangeAt Go.RowKit
namespace RD
theorem same_yes (ao bo:Option Addr)(n ca cb:Nat)(f:Nat->Int)(w:World)(ha:NumS w ao n f)(hb:NumS w bo n f)(hn:n<=100000) :
 Calls Tryz.prog 49 #[.slice ao n ca,.slice bo n cb] w fun e w'=>e=.returned (.bool true)/\Below w.heap.size w w':=by
 have HA:=Wd ha;have HB:=Wd hb;clear ha hb;go_enter func49,ntmps49
 go_wp2_with fail
 go_loopw [5] (fun i wr=>∃ k:Nat,k<=n/\i=.int .i64 (k:Int)/\Hid (Below w.heap.size w wr)) (fun i _=>n-(intOf i).toNat)
 case atStart=>exact⟨0,Nat.zero_le _,rfl,Wd (Below.refl _ _)⟩
 case round=>
  obtain⟨k,hk,rfl,hwr⟩:=hrel
  by_cases hlt:k<n
  ·obtain⟨b1,o1,rfl,x1⟩:=HA.out k hlt;obtain⟨b2,o2,rfl,x2⟩:=HB.out k hlt;have x1:=IN.cellkept hwr.out x1;have x2:=IN.cellkept hwr.out x2;generalize f k=a at *;have hkn:(k:Int)<(n:Int):=by omega
   go_wp2_with fail
   go_quiet (fail)
   go_wp2_with fail
   go_roundw
   case rel=>exact⟨k+1,by omega,by go_num,Wd (below_drewN hwr.out nq)⟩
   case measure=>simp[intOf];omega
  ·obtain rfl:k=n:=by omega
   go_wp2_with fail
   go_ret
   exact⟨rfl,hwr.out⟩
end RD
namespace RD
open DC (Of fd1 fdcl)
open IN (lt_of_some)
theorem fd_neq (a b c d e:Int)(w:World):(binOp .neq 63 (.agg #[.int .i64 a,.int .i64 b,.int .i64 c,.int .i64 d,.int .i64 e]) (.agg #[.int .i64 a,.int .i64 b,.int .i64 c,.int .i64 d,.int .i64 e])).run prog w=.ok (.bool false) w:=by
 simp[go_sem]
theorem sameF_yes (v1 v2:Value)(B1 B2:Nat)(L:List (Nat×Of))(w:World)(hl:L.length<=100000)(h1:w.ownsRow B1 63 5 v1 L.length (fdcl L))(h2:w.ownsRow B2 63 5 v2 L.length (fdcl L)) :
 Calls Tryz.prog 50 #[v1,v2] w fun e w'=>e=.returned (.bool true)/\Below w.heap.size w w':=by
 obtain⟨x1,c1,rfl,H1⟩:=own_fd h1;obtain⟨x2,c2,rfl,H2⟩:=own_fd h2;have H1:=Wd H1;have H2:=Wd H2;obtain⟨N,hN⟩:∃ N,L.length=N:=⟨_,rfl⟩;rw[hN] at hl ⊢;replace hN:=Wd hN;have he:((N:Int) != (N:Int))=false:=by simp
 clear h1 h2;go_enter func50,ntmps50
 go_wp2
 go_loopw [5] (fun i wr=>∃ k:Nat,k<=N/\i=.int .i64 k/\Below w.heap.size w wr) (fun i _=>N-(intOf i).toNat)
 case atStart=>exact⟨0,Nat.zero_le _,rfl,Below.refl _ _⟩
 case round=>
  obtain⟨k,hk,rfl,bel⟩:=hrel
  by_cases hlt:k<N
  ·have hkl:k<L.length:=by rw[hN.out];exact hlt
   obtain⟨b1,rfl,hb1,g⟩:=H1.out k hkl;obtain⟨b2,rfl,hb2,g'⟩:=H2.out k hkl;obtain⟨⟨nj,dj⟩,hx⟩:∃ x,L[k]=x:=⟨_,rfl⟩;rw[hx] at g g';have kk:∀ {b m:Nat} {u:Value},b<w.heap.size->w.cell? ⟨b,m,none⟩=some u->wr.cell? ⟨b,m,none⟩=some u:=fun {b m u} hb hc=>by rw[bel.cell (p:=⟨b,m,none⟩) hb];exact hc
   have i0:=kk hb1 (g 0 _ rfl);have i1:=kk hb1 (g 1 _ rfl);have i2:=kk hb1 (g 2 _ rfl);have i3:=kk hb1 (g 3 _ rfl);have i4:=kk hb1 (g 4 _ rfl);have j0:=kk hb2 (g' 0 _ rfl);have j1:=kk hb2 (g' 1 _ rfl);have j2:=kk hb2 (g' 2 _ rfl);have j3:=kk hb2 (g' 3 _ rfl);have j4:=kk hb2 (g' 4 _ rfl);rw[Nat.add_zero] at i0 j0;have hq:=fd_neq (nj:Int) dj.ino dj.off dj.flags dj.refs;clear g g' kk hkl hx;go_wp2
   go_quiet (fail)
   go_wp2
   go_roundw
   case rel=>exact⟨k+1,by omega,by go_num,below_drewN bel _⟩
   case measure=>simp[intOf];omega
  ·obtain rfl:k=N:=by omega
   go_wp2
   go_ret
   exact⟨rfl,bel⟩
end RD
namespace RD
open DC (Of Ls Ps Ou Sm lk fdsA fdsR fdcl fdcl_app fd1 fds_snoc fds_len fd_src fd_one info_fd)
open IN (lt_of_some cellkept)
section
variable {K:Cd}{c q:Nat}{S:Sm}{D:NT.Ds}{P:Ps}{O:Ou}{vo vp:Value}{qo:List Of}{qp:List PE}{w w':World}
theorem range_four {w:World}{g o:Nat}{a b c d:Value}(h0:w.cell? ⟨g,o,none⟩=some a)(h1:w.cell? ⟨g,o+1,none⟩=some b)(h2:w.cell? ⟨g,o+2,none⟩=some c)(h3:w.cell? ⟨g,o+3,none⟩=some d):w.rangeAt g o [a,b,c,d]:=by
 intro j v hj
 match j,hj with
 | 0,hj=>cases hj;exact h0
 | 1,hj=>cases hj;exact h1
 | 2,hj=>cases hj;exact h2
 | 3,hj=>cases hj;exact h3
theorem fds_d (pid:Int)(w:World)(h1:QT K vo vp qo qp w)(hk:Kn K q S D (Pq qp) (Oq qo)) :
 Calls Tryz.prog 51 #[.pointer (some ⟨K.d,0,none⟩),.int .i64 pid] w fun e w'=>∃ v,e=.returned v/\w'.ownsRow w.heap.size 63 5 v (fdsR (Pq qp) (Oq qo) pid).length (fdcl (fdsR (Pq qp) (Oq qo) pid))/\Below w.heap.size w w':=by
 have hlen:qp.length<=100000:=by have:=hk.few;rw[Pq_len] at this;have:=hk.lim;omega
 have cA:=at_any pid h1 hlen;unfold atA at cA;unfold fdsR
 cases e1:lk (Pq qp) pid with
 | none=>
   rw[if_pos e1] at cA;have cA:=Wd cA;clear h1 hk hlen e1;go_enter func51,ntmps51
   go_wp2_with fail
   refine cA.out.mono ?_;rintro e w1 ⟨rfl,rfl⟩;go_wp2_with fail
   go_ret
   exact⟨_,rfl,World.ownsRow_nil _ _ _ _,Below.refl _ _⟩
 | some L=>
   simp only;rw[if_neg (by rw[e1];simp)] at cA;have cA:=Wd cA;obtain⟨hi,hL⟩:=px_some e1;have hl:=hk.di.lks e1;have hcap:=hk.cap;have hl64:L.length<=64:=by omega
   obtain⟨pg,pcap,hvp,hiN,hPc,hpm,hlc,hlm,hG⟩:=h1.lo hi;rw[hL] at hlc hG;have hat:Hid (∀ wr,Below w.heap.size w wr->LO K vp pg qp[px qp pid].g L.length qp[px qp pid].cap (px qp pid) wr/\∀ j x,L[j]? = some x->wr.cell? ⟨qp[px qp pid].g,j,none⟩=some (.int .i64 (cd x))):=Wd fun wr hb=>⟨hG _ (h1.keep hb),fun j x hx=>((h1.keep hb).atL hi).2.2.2.2.2.2 j x (by rw[hL];exact hx)⟩;have hop:Hid (∀ wr,Below w.heap.size w wr->∀ (j k:Nat),L[j]? = some (some k)->∃ o og cap,Oq qo k=some o/\vo=.slice (some ⟨og,0,none⟩) qo.length cap/\(k:Int)<(qo.length:Int)/\qo.length<=cap/\cap<=maxLen/\FO K vo og k o wr):=Wd fun wr hb j k hx=>by
    obtain⟨o,ho⟩:=hk.di.has e1 hx;obtain⟨hko,he,-⟩:=Oq_some ho;obtain⟨og,cap,rfl,-,-,g3,g4,g5,hF⟩:=h1.fo hko;rw[he] at hF;exact⟨o,og,cap,ho,rfl,g3,g4,g5,hF _ (h1.keep hb)⟩
   subst hvp;have hbl:=h1.low;clear h1 hk hlen e1 hl hcap hG hL hbl;generalize Oq qo=O1 at *;generalize px qp pid=i at *;generalize hlg:qp[i].g=lg at *;generalize hlcc:qp[i].cap=lc at *;clear hlg hlcc hi;generalize qo.length=No at *;generalize qp.length=Np at *;go_enter func51,ntmps51
   go_wp2_with fail
   refine cA.out.mono ?_;rintro e w1 ⟨rfl,rfl⟩;go_wp2_with fail
   go_loopw [6,7] (fun v i wr=>∃ (j:Nat),j<=L.length/\i=.int .i64 (j:Int)/\Hid (wr.ownsRow w.heap.size 63 5 v (fdsA O1 0 (L.take j)).length (fdcl (fdsA O1 0 (L.take j))))/\Hid (Below w.heap.size w wr)) (fun _ i _=>L.length-(intOf i).toNat)
   case atStart=>exact⟨0,Nat.zero_le _,rfl,Wd (World.ownsRow_nil _ _ _ _),Wd (Below.refl _ _)⟩
   case round=>
    obtain⟨j,hj,rfl,hown,hbel⟩:=hrel;obtain⟨l3,hc3⟩:=hat.out _ hbel.out;have t1:=l3.s10;have t2:=l3.p1;clear l3
    by_cases hlt:j<L.length
    ·obtain⟨x,hx⟩:∃ x,L[j]? = some x:=⟨_,List.getElem?_eq_getElem hlt⟩;have cc:=hc3 j x hx;have hjl:(j:Int)<(L.length:Int):=by omega
     have htk:L.take (j+1)=L.take j ++ [x]:=by
      rw[List.take_add_one,hx];rfl
     have hsn:fdsA O1 0 (L.take (j+1))=fdsA O1 0 (L.take j) ++ fdsA O1 j [x]:=by
      rw[htk,fds_snoc,List.length_take,Nat.min_eq_left (by omega),Nat.zero_add]
     cases x with
     | none=>
       simp only[cd] at cc
       have hown2:Hid (wr.ownsRow w.heap.size 63 5 u6 (fdsA O1 0 (L.take (j+1))).length (fdcl (fdsA O1 0 (L.take (j+1))))):=Wd (by
        rw[hsn,show fdsA O1 j [none]=[] from rfl,List.append_nil]
        exact hown.out)
       clear hsn htk hx hc3;go_wp2_with fail
       go_roundw
       case rel=>exact⟨j+1,by omega,by go_num,hown2,hbel⟩
       case measure=>simp[intOf];omega
     | some k=>
       simp only[cd] at cc;obtain⟨o,og,cap,ho,rfl,g3,g4,g5,f3⟩:=hop.out _ hbel.out j k hx;have hone:fdsA O1 j [some k]=[(j,o)]:=by unfold fdsA;rw[ho];rfl
       have hlen:(fdsA O1 0 (L.take j)).length<=64:=by
        have:=fds_len O1 (L.take j) 0;rw[List.length_take] at this
        omega
       rw[hone] at hsn
       have htake:Hid ((fdsA O1 0 (L.take (j+1))).length=(fdsA O1 0 (L.take j)).length+1/\fdcl (fdsA O1 0 (L.take (j+1)))=fdcl (fdsA O1 0 (L.take j)) ++ [.int .i64 (j:Int),.int .i64 o.ino,.int .i64 o.off,.int .i64 o.flags,.int .i64 o.refs]):=Wd (by
        rw[hsn,fdcl_app,List.length_append]
        exact⟨rfl,rfl⟩)
       have t3:=f3.s9;have hR:=Wd (range_four f3.o0 f3.o1 f3.o2 f3.o3);have hba:=hbel.out.alloc hbel.out.size (.cells #[.int .i64 o.ino,.int .i64 o.off,.int .i64 o.flags,.int .i64 o.refs] 160);have hbb:=Wd (hba.alloc hba.size (.cells #[.int .i64 (j:Int),.int .i64 o.ino,.int .i64 o.off,.int .i64 o.flags,.int .i64 o.refs] 63));have hown7:=Wd (Own.below hown.out (((Below.refl wr.heap.size wr).alloc (Nat.le_refl _) (.cells #[.int .i64 o.ino,.int .i64 o.off,.int .i64 o.flags,.int .i64 o.refs] 160)).alloc (by simp) (.cells #[.int .i64 (j:Int),.int .i64 o.ino,.int .i64 o.off,.int .i64 o.flags,.int .i64 o.refs] 63)));have hsrc:=Wd (fd_src ((wr.alloc (.cells #[.int .i64 o.ino,.int .i64 o.off,.int .i64 o.flags,.int .i64 o.refs] 160)).alloc (.cells #[.int .i64 (j:Int),.int .i64 o.ino,.int .i64 o.off,.int .i64 o.flags,.int .i64 o.refs] 63)) (wr.heap.size+1) (j,o) (Blk.new _ 63 (fd1 (j,o)) (by simp)));generalize hl0:fdsA O1 0 (L.take j)=l0 at *;obtain⟨ao3,c3,hv3⟩:=Own.form hown.out;clear hsn htk hx hc3 f3 ho hone hl0 hba;subst hv3
       go_wp2_with (first
        | (refine wpList_load_mid rfl 160 (.tmp 46) rfl og (k*4) rfl [.int .i64 o.ino,.int .i64 o.off,.int .i64 o.flags,.int .i64 o.refs] _ hR.out underlying160 rfl (by kernel_rfl) ?_)
        | (at_builtin;refine Own.wpList_app rfl (.tmp 48) (.tmp 59) 60 rfl underlying60 info_fd (.slice ao3 l0.length c3) (.slice (some ⟨wr.heap.size+1,0,none⟩) 1 1) rfl rfl hown7.out hbb.out.size hsrc.out (fd_one (j,o)) (by unfold maxLen;omega) (by omega) ?_;intro v' w8 ho8 hg8 hob8;have hb8:=Wd (hbb.out.grown hg8 hbb.out.size (fun k h=>Own.ge hown7.out k h));have ho8:=Wd ho8;clear hg8 hob8))
       have hown8:Hid (w8.ownsRow w.heap.size 63 5 v' (fdsA O1 0 (L.take (j+1))).length (fdcl (fdsA O1 0 (L.take (j+1))))):=Wd (by rw[htake.out.1,htake.out.2];exact ho8.out);go_roundw
       case rel=>exact⟨j+1,by omega,by go_num,hown8,hb8⟩
       case measure=>simp[intOf];omega
    ·obtain rfl:j=L.length:=by omega
     have hfin:=hown.out;rw[List.take_length] at hfin;have hfin:=Wd hfin;clear hc3;go_wp2_with fail
     go_ret
     exact⟨_,rfl,hfin.out,hbel.out⟩
end
end RD
end Go.Proofs.YtfffibepcdlldaaGreat

namespace Go.Proofs.YtfffibepcdlldaaGreat
open Go.ChangeShapes Go.WideShapes Go.ChangeAt Go.RowKit Go.Maps
namespace RD
open DC (Of Ls Ps Ou Sm lk)
open IN (Keeps cellkept lt_of_some)
open IS (I64)
section
variable {Kp:DC.Cn}{G:Cd}{q c B0:Nat}{S:Sm}{D:NT.Ds}{P:Ps}{O:Ou}{w0:World}
theorem B13.procs_d (T:Ties Kp G B0){w:World}{S1:Sm}{D1:NT.Ds}{P1:Ps}{O1:Ou}(h:B13 Kp G q c S1 D1 P1 O1 S D P O B0 w0 w)(hk:Kn G q S D P O) :
 Calls Tryz.prog 48 #[.pointer (some ⟨G.d,0,none⟩)] w fun e w'=>∃ ao cap,e=.returned (.slice ao P.length cap)/\NumS w' ao P.length (pidI P)/\Below w.heap.size w w':=by
 obtain⟨vo,vp,qo,qp,hQ,rfl,rfl,hol⟩:=h.rt.ex;have hlen:qp.length<=100000:=by have:=hk.few;rw[Pq_len] at this;have:=hk.lim;omega
 refine (RD.procs_d w hQ hlen).mono ?_;rintro e w' ⟨v,rfl,ho,hb⟩;obtain⟨ao,cap,rfl,hN⟩:=num_own ho;rw[Pq_len];exact⟨ao,cap,rfl,hN,hb⟩
theorem B13.fds_d (T:Ties Kp G B0){w:World}{S1:Sm}{D1:NT.Ds}{P1:Ps}{O1:Ou}(pid:Int)(h:B13 Kp G q c S1 D1 P1 O1 S D P O B0 w0 w)(hk:Kn G q S D P O) :
 Calls Tryz.prog 51 #[.pointer (some ⟨G.d,0,none⟩),.int .i64 pid] w fun e w'=>∃ v,e=.returned v/\w'.ownsRow w.heap.size 63 5 v (DC.fdsR P O pid).length (DC.fdcl (DC.fdsR P O pid))/\Below w.heap.size w w':=by
 obtain⟨vo,vp,qo,qp,hQ,rfl,rfl,hol⟩:=h.rt.ex;exact RD.fds_d pid w hQ hk
theorem fds_few {w:World}{S1:Sm}{D1:NT.Ds}{P1:Ps}{O1:Ou}(h:DC.DI G.files G.opens S P O [])(hf:G.files<=64)(pid:Int):(DC.fdsR P O pid).length<=64:=by
 unfold DC.fdsR
 cases e:DC.lk P pid with
 | none=>exact Nat.zero_le _
 | some L=>
   have h1:=DC.fds_len O L 0;have h2:=(h.lks e).1;simp only
   omega
theorem alike13 (T:Ties Kp G B0)(w:World)(h:B13 Kp G q c S D P O S D P O B0 w0 w) :
 Calls Tryz.prog 17 #[.pointer (some ⟨Kp.g,0,none⟩),.pointer (some ⟨G.d,0,none⟩)] w fun e w'=>e=.returned (.bool true)/\Below w.heap.size w w':=by
 have hk:=kn_of h.ds T.e T.L;have hfew:P.length<=100000:=by have:=hk.few;have:=hk.lim;omega
 have hfd:=Wd (fun pid=>fds_few (w:=w) (S1:=S) (D1:=D) (P1:=P) (O1:=O) hk.di hk.cap.2.1 pid);have hpid:=Wd hk.di.pid;have cD:=Wd (h.procs_d T hk);have h0:=Wd h;have hB2:=T.b2;have hk0:=Wd hk;have T0:=Wd T;obtain⟨N,hN⟩:∃ N,P.length=N:=⟨_,rfl⟩;rw[hN] at cD hfew;replace hN:=Wd hN;clear h hk T;go_enter func17,ntmps17
 go_wp2_with fail
 refine cD.out.mono ?_;rintro e w1 ⟨a1,k1,rfl,n1,b1⟩;have n1:=Wd n1;have h1:=Wd (h0.out.keep hB2 b1);have B1:=Wd b1;have cP:=Wd (DC_procs_s w1 h1.out.ds);clear b1 cD;go_wp2_with fail
 refine cP.out.mono ?_;rintro e w2 ⟨v2,rfl,hl2,b2⟩;obtain⟨a2,k2,rfl,n2⟩:=lc_num hl2 (fun x hx=>(hpid.out x hx).1);rw[hN.out] at n2 ⊢;have n3:=Wd (n1.out.keep b2);have h2:=Wd (h1.out.keep hB2 b2);have B2:=Wd (B1.out.trans (b2.mono B1.out.size));have cS:=Wd (same_yes a2 a1 N k2 k1 _ w2 n2 n3.out hfew);clear b2 hl2 n2 cP;go_wp2_with fail
 refine cS.out.mono ?_;rintro e w3 ⟨rfl,b3⟩;have n4:=Wd (n3.out.keep b3);have h3:=Wd (h2.out.keep hB2 b3);have B3:=Wd (B2.out.trans (b3.mono B2.out.size));clear b3 cS n1 n3 h1 h2 h0;go_wp2_with fail
 go_loopw [6] (fun i wr=>∃ k:Nat,k<=N/\i=.int .i64 (k:Int)/\Hid (Below w3.heap.size w3 wr)) (fun i _=>N-(intOf i).toNat)
 case atStart=>exact⟨0,Nat.zero_le _,rfl,Wd (Below.refl _ _)⟩
 case round=>
  obtain⟨k,hkN,rfl,hwr⟩:=hrel
  by_cases hlt:k<N
  ·obtain⟨bk,ok,rfl,x1⟩:=n4.out k hlt;have x1:=cellkept hwr.out x1;have hI:=pidI_i64 hpid.out (i:=k) (by rw[hN.out];exact hlt);obtain⟨pid,hpd⟩:∃ p,pidI P k=p:=⟨_,rfl⟩;rw[hpd] at x1 hI;replace hI:=Wd hI;have hr:=Wd (h3.out.keep hB2 hwr.out);have hlt':(k:Int)<(N:Int):=by omega
   clear hpd;go_wp2_with fail
   refine wp_region_held_drew (S:=(fun w'=>w'.cell? ⟨bk,ok+k,none⟩=some (.int .i64 pid))) (by kernel_rfl) (cellkept (below_drew wr) x1) (fun hHeld=>?_);refine wt (i:=0) (v:=.pointer (some ⟨Kp.g,0,none⟩)) hHeld ?_;refine wt (i:=1) (v:=.slice (some ⟨bk,ok,none⟩) N k1) hHeld ?_;refine wt (i:=2) (v:=.int .i64 (k:Int)) hHeld ?_;refine wt (i:=3) (v:=.pointer (some ⟨bk,ok+k,none⟩)) hHeld ?_;refine wt (i:=4) (v:=.int .i64 pid) hHeld ?_;refine wt (i:=6) (v:=.pointer (some ⟨G.d,0,none⟩)) hHeld ?_;refine wt (i:=7) (v:=.slice (some ⟨bk,ok,none⟩) N k1) hHeld ?_;refine wt (i:=8) (v:=.int .i64 (k:Int)) hHeld ?_;refine wt (i:=9) (v:=.pointer (some ⟨bk,ok+k,none⟩)) hHeld ?_;refine wt (i:=10) (v:=.int .i64 pid) hHeld ?_;refine wpAnyH_ready (rs:=[5]) (by kernel_rfl) (by simp) ?_;refine AllReadyH.cons rfl (fun K hK=>?_) AllReadyH.nil;go_simp
   refine (DC_fds_s pid _ (hr.out.keep hB2 (below_drew _)).ds hI.out).mono ?_;rintro e w4 ⟨v4,rfl,o4,b4⟩;have b4:=Wd ((below_drew wr).trans (b4.mono (below_drew wr).size));have hq1:=Wd (cellkept b4.out x1);have h4:=Wd (hr.out.keep hB2 b4.out);have o4:=Wd o4;refine hK.out _ _ hq1.out (fun hHeld1=>?_);clear hK K
   try simp only[Act.put,List.setIfInBounds_toArray,List.set_cons_zero,List.set_cons_succ,List.getElem_toArray,List.getElem_cons_zero,List.getElem_cons_succ]
   refine wpAnyH_ready (rs:=[11]) (by kernel_rfl) (by simp) ?_;refine AllReadyH.cons rfl (fun K hK=>?_) AllReadyH.nil;go_simp
   refine (h4.out.fds_d T0.out pid hk0.out).mono ?_;rintro e w5 ⟨v5,rfl,o5,b5⟩;have o4:=Wd (Own.below o4.out b5);have b5:=Wd (b4.out.trans (b5.mono b4.out.size));have hq2:=Wd (cellkept b5.out x1);have o5:=Wd o5;refine hK.out _ _ hq2.out (fun hHeld2=>?_);clear hK K
   try simp only[Act.put,List.setIfInBounds_toArray,List.set_cons_zero,List.set_cons_succ,List.getElem_toArray,List.getElem_cons_zero,List.getElem_cons_succ]
   refine wpAnyH_ready (rs:=[12]) (by kernel_rfl) (by simp) ?_;refine AllReadyH.cons rfl (fun K hK=>?_) AllReadyH.nil;go_simp
   refine (sameF_yes _ _ _ _ (DC.fdsR P O pid) _ (by have:=hfd.out pid;omega) o4.out o5.out).mono ?_;rintro e w6 ⟨rfl,b6⟩;have bq:=Wd (b5.out.trans (b6.mono b5.out.size));have hq3:=Wd (cellkept bq.out x1);refine hK.out _ _ hq3.out (fun hHeld3=>?_);clear hK K
   try simp only[Act.put,List.setIfInBounds_toArray,List.set_cons_zero,List.set_cons_succ,List.getElem_toArray,List.getElem_cons_zero,List.getElem_cons_succ]
   refine wt (i:=13) (v:=.bool false) hHeld3 ?_;refine wpAnyH_done (by kernel_rfl) ?_ _;have Bf:=Wd (hwr.out.trans (bq.out.mono hwr.out.size));clear hq1 hq2 x1;go_wp2_with fail
   go_roundw
   case rel=>exact⟨k+1,by omega,by go_num,Bf⟩
   case measure=>simp[intOf];omega
  ·obtain rfl:k=N:=by omega
   go_wp2_with fail
   go_ret
   exact⟨rfl,B3.out.trans (hwr.out.mono B3.out.size)⟩
end
end RD
end Go.Proofs.YtfffibepcdlldaaGreat

namespace Go.Proofs.YtfffibepcdlldaaGreat
namespace RD
open DC (Of Ls Ps Ou Sm)
section
variable {S:Sm}{D:NT.Ds}{P:Ps}{O:Ou}
theorem ask_e {S S':Int->Option IN.Nd}{n:Int}{f:IN.Nd->Int}(h0:S n=none->S'=S)(h1:∀ d,S n=some d->f d≠0->S'=S):IN.askR S n f≠0->S'=S:=by
 unfold IN.askR
 cases hS:S n with
 | none=>exact fun _=>h0 hS
 | some d=>exact h1 d hS
theorem wr_e (I B:Nat)(n f:Int)(s:ByteArray):IN.wrErr I B S n f s≠0->IN.wrS I B S n f s=S:=ask_e (fun h=>by simp[IN.wrS,h]) (fun d h hr=>by
 unfold IN.wrS;rw[h];simp only;rw[if_neg];rintro ⟨q0,q1,q2⟩
 exact hr (by rw[if_pos q0,if_pos q1,if_pos q2]))
theorem t_e (n s:Int):IN.tErr S n s≠0->IN.tS S n s=S:=ask_e (fun h=>by simp[IN.tS,h]) (fun d h hr=>by
 unfold IN.tS;rw[h];simp only;rw[if_neg];rintro ⟨q0,q1,q2⟩
 exact hr (by rw[if_pos q0,if_neg (by omega),if_neg (by omega)]))
theorem mk_e {I:Nat}{s:ByteArray}{kd:Int}(h:(NT.mk I S D s kd).1.2≠0):(NT.mk I S D s kd).2=(S,D):=by
 unfold NT.mk at h ⊢
 by_cases hk:kd=1∨kd=2
 ·rw[if_pos hk] at h ⊢
  by_cases h0:PM.perr s≠0
  ·rw[if_pos h0]
  ·rw[if_neg h0] at h ⊢
   cases hv:NT.vacant D kd s with
   | error e=>rfl
   | ok p=>
     rw[hv] at h;simp only at h ⊢
     by_cases hr:IN.mkR I S kd≠0
     ·rw[if_pos hr]
     ·rw[if_neg hr] at h;exact absurd rfl h
 ·rw[if_neg hk]
theorem rea_e {I:Nat}{p:ByteArray}{fl:Int}(h:(DC.reaR I S D p fl).1.2≠0):(DC.reaR I S D p fl).2=(S,D):=by
 unfold DC.reaR at h ⊢
 cases hf:NT.findR D p with
 | error e=>
   rw[hf] at h;simp only at h ⊢
   by_cases hm:e=11/\(bits .and .i64 fl 4 != 0)=true
   ·rw[if_pos hm] at h ⊢;exact mk_e h
   ·rw[if_neg hm]
 | ok n=>
   rw[hf] at h;simp only at h ⊢
   by_cases hr:(DC.rdyR S n fl).1=0
   ·rw[if_pos hr] at h;exact absurd rfl h
   ·rw[if_neg hr];simp only[Prod.mk.injEq,and_true];unfold DC.rdyR at hr ⊢
    split
    ·rfl
    ·rename_i h1
     rw[if_neg h1] at hr
     split
     ·rfl
     ·rename_i x hx
      rw[hx] at hr;simp only at hr
      split
      ·rfl
      ·rename_i h2
       rw[if_neg h2] at hr
       split
       ·rename_i h3;rw[if_pos h3] at hr;exact absurd rfl hr
       ·rfl
theorem opn_e {I f o:Nat}{pid fl:Int}{p:ByteArray}(h:(DC.opnR I f o S D P O pid p fl).1.2≠0):(DC.opnR I f o S D P O pid p fl).2=(S,D,P,O):=by
 unfold DC.opnR at h ⊢
 cases e:DC.lk P pid with
 | none=>rfl
 | some L=>
   rw[e] at h;simp only at h ⊢
   by_cases h1:DC.flg fl=false
   ·rw[if_pos h1]
   ·rw[if_neg h1] at h ⊢
    by_cases h2:DC.fx L<f
    ·rw[if_pos h2] at h ⊢
     by_cases h3:DC.cntO O o<o
     ·rw[if_pos h3] at h ⊢
      by_cases h4:(DC.reaR I S D p fl).1.2=0
      ·rw[if_pos h4] at h;exact absurd rfl h
      ·rw[if_neg h4];simp only;rw[rea_e h4]
     ·rw[if_neg h3]
    ·rw[if_neg h2]
theorem cls_e {pid fd:Int}(h:(DC.clsR S P O pid fd).1≠0):(DC.clsR S P O pid fd).2=(S,P,O):=by
 unfold DC.clsR at h ⊢
 cases e:DC.fileR P O pid fd 0 with
 | error c=>rfl
 | ok k=>rw[e] at h;exact absurd rfl h
theorem dup_e {f:Nat}{pid fd:Int}(h:(DC.dupR f P O pid fd).1.2≠0):(DC.dupR f P O pid fd).2=(P,O):=by
 unfold DC.dupR at h ⊢
 cases e:DC.fileR P O pid fd 0 with
 | error c=>rfl
 | ok k=>
   rw[e] at h;simp only at h ⊢
   by_cases h1:DC.fx ((DC.lk P pid).getD [])<f
   ·rw[if_pos h1] at h;exact absurd rfl h
   ·rw[if_neg h1]
theorem rd_e {pid fd n:Int}(h:(DC.rdR S P O pid fd n).1.2≠0):(DC.rdR S P O pid fd n).2=O:=by
 unfold DC.rdR at h ⊢
 cases e:DC.fileR P O pid fd 1 with
 | error c=>rfl
 | ok k=>
   rw[e] at h;simp only at h ⊢
   cases e1:O k with
   | none=>rfl
   | some o=>
     rw[e1] at h;simp only at h ⊢
     cases e2:S o.ino with
     | none=>rfl
     | some x=>
       rw[e2] at h;simp only at h ⊢
       split
       ·rename_i h1;rw[if_pos h1] at h;exact absurd rfl h
       ·rfl
theorem wri_e {I B:Nat}{pid fd:Int}{s:ByteArray}(h:(DC.wriR I B S P O pid fd s).1.2≠0):(DC.wriR I B S P O pid fd s).2=(S,O):=by
 unfold DC.wriR at h ⊢
 cases e:DC.fileR P O pid fd 2 with
 | error c=>rfl
 | ok k=>
   rw[e] at h;simp only at h ⊢
   cases e1:O k with
   | none=>rfl
   | some o=>
     rw[e1] at h;simp only at h ⊢
     cases e2:S o.ino with
     | none=>rfl
     | some x=>
       rw[e2] at h;simp only at h ⊢
       split
       ·rename_i h1;rw[if_pos h1] at h;exact absurd rfl h
       ·rename_i h1
        simp only[wr_e _ _ _ _ _ h1]
theorem sk_e {pid fd n wh:Int}(h:(DC.skR S P O pid fd n wh).1.2≠0):(DC.skR S P O pid fd n wh).2=O:=by
 unfold DC.skR at h ⊢
 cases e:DC.fileR P O pid fd 0 with
 | error c=>rfl
 | ok k=>
   rw[e] at h;simp only at h ⊢
   cases e1:O k with
   | none=>rfl
   | some o=>
     rw[e1] at h;simp only at h ⊢
     cases e2:S o.ino with
     | none=>rfl
     | some x=>
       rw[e2] at h;simp only at h ⊢
       cases e3:DC.skAt o x wh with
       | none=>rfl
       | some a=>
         rw[e3] at h;simp only at h ⊢
         split
         ·rfl
         ·rename_i h1;rw[if_neg h1] at h;exact absurd rfl h
theorem tru_e {pid fd n:Int}(h:(DC.truR S P O pid fd n).1≠0):(DC.truR S P O pid fd n).2=S:=by
 unfold DC.truR at h ⊢
 cases e:DC.fileR P O pid fd 2 with
 | error c=>rfl
 | ok k=>
   rw[e] at h;simp only at h ⊢
   cases e1:O k with
   | none=>rfl
   | some o=>
     rw[e1] at h;exact t_e _ _ h
theorem clo_e {pid pto:Int}(h:(DC.cloR P O pid pto).1≠0):(DC.cloR P O pid pto).2=(P,O):=by
 unfold DC.cloR at h ⊢
 cases e:DC.lk P pid with
 | none=>rfl
 | some L=>
   rw[e] at h;simp only at h ⊢
   by_cases h1:DC.vacP P pto=0
   ·rw[if_pos h1] at h;exact absurd rfl h
   ·rw[if_neg h1]
end
end RD
end Go.Proofs.YtfffibepcdlldaaGreat

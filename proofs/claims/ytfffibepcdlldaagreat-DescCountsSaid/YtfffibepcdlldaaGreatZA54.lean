/- A part. -/
import Derived.Test.YtfffibepcdlldaaGreatZA46
import Derived.Test.YtfffibepcdlldaaGreatZA47
import Derived.Test.YtfffibepcdlldaaGreatZA50
set_option linter.unusedVariables false
set_option linter.unusedSimpArgs false
set_option maxRecDepth 100000
set_option maxHeartbeats 64000000
open Go.Proofs.Tryz

namespace Go.Proofs.YtfffibepcdlldaaGreat
open Go.ChangeShapes Go.WideShapes Go.ChangeAt Go.RowKit Go.Maps
open Go.ChangeMaps (open_string shut_string)
open IN (cap7 Keeps cellkept)
open DC (Of Ls Ps Ou Sm)
open RD
theorem DescCounts_walk (o0:Option Addr)(n0 c0:Nat)(l0:List OpT13)(w:World)(w0:OS13 w o0 n0 c0 l0) :
 Calls prog 4 #[.slice o0 n0 c0] w fun e w'=>e=.returned (.bool true)/\Below w.heap.size w w':=by
 obtain⟨hlen,hll,hops⟩:=w0;have hlen2:(n0:Int)<=9223372036854775807:=by unfold maxLen at hlen;omega
 replace hops:=Wd hops;replace hll:=Wd hll;have cS:=Wd (DC.shown13 w);have cC:=fun w=>Wd (DC.caps13 w);have cO:=fun w=>Wd (show Calls prog 12 #[cap7 8 100 3 4 6 0 0] w _ from DC.opened13c 100 (by decide) w);have cPl:=fun w=>Wd (show Calls prog 13 #[cap7 8 100 3 4 6 0 0] w _ from plain13 8 100 3 4 6 w (by unfold IN.Right;omega) (by omega) (by omega) (by omega));unfold cap7 at cC cO cPl;clear hlen;go_enter func4,ntmps4
 go_wp2_with fail
 refine cS.out.mono ?_;rintro e w1 ⟨rfl,b1'⟩;have B1:=Wd b1';clear b1' cS;go_wp2_with fail
 refine (cC _).out.mono ?_;rintro e w2 ⟨rfl,b2⟩;have B2:=Wd (B1.out.trans (b2.mono B1.out.size));clear b2 B1 cC;go_wp2_with fail
 refine (cO _).out.mono ?_;rintro e w3 ⟨K,rfl,hbase,hK,hd,b3⟩;obtain⟨W2,hW2⟩:∃ W2,w2.alloc (.cells #[.int .i64 8,.int .i64 100,.int .i64 3,.int .i64 4,.int .i64 6,.int .i64 0,.int .i64 0] 25)=W2:=⟨_,rfl⟩;rw[hW2] at hbase b3;have B2':=Wd (show Below w.heap.size w W2 by rw[<-hW2];exact B2.out.alloc B2.out.size _);have hC2:Hid (Blk W2 w2.heap.size 25 [.int .i64 8,.int .i64 100,.int .i64 3,.int .i64 4,.int .i64 6,.int .i64 0,.int .i64 0]):=Wd (by rw[<-hW2];exact Blk.new w2 _ _ rfl);have hcb:Hid (w2.heap.size<W2.heap.size):=Wd (by rw[<-hW2];simp);replace hW2:=Wd hW2;have B3:=Wd b3;have hC3:=hC2.out.keep b3;have p0:=hC3.cell (j:=0) rfl;have p1:=hC3.cell (j:=1) rfl;have p2:=hC3.cell (j:=2) rfl;have p3:=hC3.cell (j:=3) rfl;have p4:=hC3.cell (j:=4) rfl;have p5:=hC3.cell (j:=5) rfl;have p6:=hC3.cell (j:=6) rfl;replace hd:=Wd hd;replace hK:=Wd hK;replace hbase:=Wd hbase;clear b3 cO hC3;go_wp2_with fail
 refine (cPl _).out.mono ?_;rintro e w4 ⟨G,rfl,hgb,hG,hrt,b4⟩;have B4:=Wd (B3.out.trans (b4.mono B3.out.size));have hGf:=Wd (show G.files=4/\G.opens=6 from ⟨hG.2.2.2.1,hG.2.2.2.2⟩);have T:=Wd (ties_of (B0:=W2.heap.size) (a:=8) (b:=100) (c:=3) ⟨hK.out.I,hK.out.L,hK.out.B,hK.out.f,hK.out.o⟩ hG (by decide) (by decide) hbase.out (Nat.le_trans B3.out.size hgb));have h4:=Wd (show B13 K G 0 0 NT.Sn NT.D0 [] DC.O0 NT.Sn NT.D0 [] DC.O0 W2.heap.size W2 w4 from ⟨hd.out.keep b4,hrt,B4.out⟩);clear b4 B3 B4 cPl hgb hG hrt hd p0 p1 p2 p3 p4 p5 p6 hbase;have cA:=Wd (DC.add_s 1 w4 h4.out.ds DC.i64_one (by decide));go_wp2_with fail
 refine cA.out.mono ?_;rintro e w5 ⟨rfl,hd5⟩;have h5:=Wd (h4.out.prog T.out.b1 hd5);have cR:=Wd (add_d 1 w5 h5.out.rt (kn_of h4.out.ds T.out.e T.out.L));clear hd5 cA;go_wp2_with fail
 refine cR.out.mono ?_;rintro e w6 ⟨rfl,hr6⟩;have h6:=Wd (h5.out.doc T.out.b2 hr6);rw[<-T.out.e.2.2.2.1] at h6;obtain⟨P6,hP6⟩:∃ P6,(DC.addR K.files [] 1).2=P6:=⟨_,rfl⟩;rw[hP6] at h6;clear hr6 cR h5 h4 hP6;go_wp2_with fail
 go_loopw [10] (fun v wr=>∃ (j:Nat) (S:Sm) (D:NT.Ds) (P:Ps) (O:Ou),j<=n0/\j<=100/\v=.int .i64 (j:Int)/\Hid (B13 K G (2*j+2) (2*j+2) S D P O S D P O W2.heap.size W2 wr)) (fun v _=>n0-(intOf v).toNat)
 case atStart=>exact⟨0,_,_,_,_,by omega,by omega,rfl,h6⟩
 case round=>
  clear h6;obtain⟨j,S,D,P,O,hj,hj2,rfl,hb⟩:=hrel
  by_cases hlt:j<n0/\j<100
  ·obtain⟨hl1,hl2⟩:=hlt;obtain⟨blk,off,rfl,hblk,hc0,hc1,hc2,hc3,hc4,hc5,z1,z2,z3,z4,z5,z6,z7,z8,z9,z10,z11⟩:=hops.out j (by rw[hll.out];exact hl1);obtain⟨⟨kd,pid,fd,s,n,ito⟩,hx⟩:∃ x,l0[j]'(by rw[hll.out];exact hl1)=x:=⟨_,rfl⟩;rw[hx] at hc0 hc1 hc2 hc3 hc4 hc5 z1 z2 z3 z4 z5 z6 z7 z8 z9 z10 z11;simp only at hc0 hc1 hc2 hc3 hc4 hc5 z1 z2 z3 z4 z5 z6 z7 z8 z9 z10 z11;have hbw:=B2'.out.trans (hb.out.b.mono B2'.out.size);have kk:∀ {a:Nat} {u:Value},w.cell? ⟨blk,a,none⟩=some u->wr.cell? ⟨blk,a,none⟩=some u:=fun {a u} hc=>by rw[hbw.cell (p:=⟨blk,a,none⟩) hblk];exact hc
   have k0:=kk hc0;have k1:=kk hc1;have k2:=kk hc2;have k3:=kk hc3;have k4:=kk hc4;have k5:=kk hc5;have cD:=Wd (does13 T.out (by omega) (by omega) kd pid fd n ito s (I64.of z1 z2) (I64.of z3 z4) z7 (I64.of z8 z9) (I64.of z10 z11) wr hb.out);clear kk hc0 hc1 hc2 hc3 hc4 hc5 hx hbw z1 z2 z3 z4 z5 z6 z7 z8 z9 z10 z11;go_wp2_with fail
   refine cD.out.mono ?_;rintro e w7 ⟨rfl,S',D',P',O',h7⟩;replace h7:=Wd h7;clear cD k0 k1 k2 k3 k4 k5;go_wp2_with fail
   go_roundw
   case rel=>exact⟨j+1,S',D',P',O',by omega,by omega,by go_num,h7⟩
   case measure=>simp[intOf];omega
  ·have hex:(¬ j<n0)∨(j<n0/\¬ j<100):=by omega
   have cW:=Wd (DC.all_s wr hb.out.ds);have hkn:=kn_of hb.out.ds T.out.e T.out.L;have hfew:P.length<=220:=by have:=hkn.few;omega
   have hdi:DC.DI 4 6 S P O []:=by have:=hkn.di;rw[hGf.out.1,hGf.out.2] at this;exact this
   have hCr:=Wd (hC2.out.below hb.out.b hcb.out);have hIK:K.I=8:=hK.out.I;rw[hIK] at cW;replace hfew:=Wd hfew;replace hdi:=Wd hdi;have BW:=Wd (B2'.out.trans (hb.out.b.mono B2'.out.size));have hds:=Wd hb.out.ds;clear hkn hb hIK hC2 hcb hGf T hK;rcases hex with h1|⟨h1,h2⟩ <;>
   ·go_wp2_with fail
    refine cW.out.mono ?_;rintro e w8 ⟨v8,rfl,ho8,b8⟩;obtain⟨x8,k8,rfl,R8⟩:=IN.own_at ho8;have hds8:=Wd (hds.out.keep b8);have hC8:=Wd (hCr.out.keep b8);have BW8:=Wd (BW.out.trans (b8.mono BW.out.size));replace R8:=Wd R8;have cP:=Wd (DC_procs_s w8 hds8.out);clear b8 cW ho8 hCr hds BW;go_wp2_with fail
    refine cP.out.mono ?_;rintro e w9 ⟨v9,rfl,hl9,b9⟩;obtain⟨x9,k9,rfl,N9⟩:=lc_num hl9 (fun x hx=>(hdi.out.pid x hx).1);have hds9:=Wd (hds8.out.keep b9);have hC9:=Wd (hC8.out.keep b9);have BW9:=Wd (BW8.out.trans (b9.mono BW8.out.size));have B9:=Wd b9;replace N9:=Wd N9;obtain⟨LL,hLL⟩:∃ LL,IN.lst S 8=LL:=⟨_,rfl⟩;have hLlen:LL.length<=8:=by rw[<-hLL];exact IN.lst_len S 8
    have hmm:∀ x∈LL,x∈IN.lst S 8:=fun x hx=>by rw[hLL];exact hx
    have hmem:=Wd (fun (i:Nat) (hi:i<LL.length)=>show S (LL[i].1:Int)=some LL[i].2 from (IN.mem_lst.1 (hmm _ (List.getElem_mem hi))).2.2);clear hmm;have hall:=Wd (fun k=>show (DC.s13 P O (LL.take k)).foldl DC.adf 0<DC.cinf/\FM.V ((DC.s13 P O (LL.take k)).foldl DC.adf 0)<=6*FM.pw 1074+FM.pw 1059 from by rw[<-hLL];exact DC.all13 hdi.out hfew.out k);rw[hLL] at R8 ⊢;clear hLL b9 cP hl9 hds8 hC8 BW8;obtain⟨NL,hNL⟩:∃ NL,LL.length=NL:=⟨_,rfl⟩;obtain⟨NP,hNP⟩:∃ NP,P.length=NP:=⟨_,rfl⟩;rw[hNL] at hLlen ⊢;rw[hNP] at N9 ⊢;have hNP2:NP<=220:=by rw[<-hNP];exact hfew.out
    replace hNL:=Wd hNL;replace hNP:=Wd hNP;go_wp2_with fail
    go_loopw [13,14,15,16,17,18] (fun al v s1 k1 f1 j1 wr=>∃ i:Nat,i<=NL/\v=.int .i64 (i:Int)/\al=.float .f64 ((DC.s13 P O (LL.take i)).foldl DC.adf 0)/\Hid (Below w9.heap.size w9 wr)) (fun _ v _ _ _ _ _=>NL-(intOf v).toNat)
    case atStart=>exact⟨0,Nat.zero_le _,rfl,rfl,Wd (Below.refl _ _)⟩
    case round=>
     obtain⟨i,hi,rfl,rfl,bA⟩:=hrel
     by_cases hil:i<NL
     ·have hil':i<LL.length:=by rw[hNL.out];exact hil
      obtain⟨lb,rfl,hlb,lc⟩:=R8.out i hil';obtain⟨⟨ni,xi⟩,hxi⟩:∃ x,LL[i]=x:=⟨_,rfl⟩;have hsi:=hmem.out i hil';rw[hxi] at hsi lc;have hopen:=hdi.out.ops _ _ hsi;have hsum:=DC.sum13 hdi.out hfew.out (ni:Int);have hopl:=DC.opn_le O (ni:Int) 6;obtain⟨oo,hoo⟩:∃ oo,DC.opn O (ni:Int) 6=oo:=⟨_,rfl⟩;rw[hoo] at hopen hsum hopl;obtain⟨f1,f2,f3,f4⟩:=DC.cmp13 hopl hsum.1 hsum.2.1 hsum.2.2;have g0:w8.cell? ⟨lb,i*6,none⟩=some (.int .i64 (ni:Int)):=lc 0 _ rfl;have g3:w8.cell? ⟨lb,i*6+3,none⟩=some (.int .i64 (oo:Int)):=by rw[lc 3 _ rfl,hopen]
      have hs13:DC.s13 P O (LL.take (i+1))=DC.s13 P O (LL.take i) ++ [(DC.gp (ni:Int) O P).foldl DC.adf 0]:=by
       rw[<-List.take_append_getElem hil',hxi];unfold DC.s13;rw[List.map_append]
       rfl
      have hfold:(DC.s13 P O (LL.take (i+1))).foldl DC.adf 0=DC.adf ((DC.s13 P O (LL.take i)).foldl DC.adf 0) ((DC.gp (ni:Int) O P).foldl DC.adf 0):=by
       rw[hs13,List.foldl_append];rfl
      have hadd:=DC.adf_ok (hall.out i).1 hsum.1;rw[<-hfold] at hadd;obtain⟨SS,hSS⟩:∃ SS,(DC.gp (ni:Int) O P).foldl DC.adf 0=SS:=⟨_,rfl⟩;obtain⟨A0,hA0⟩:∃ A0,(DC.s13 P O (LL.take i)).foldl DC.adf 0=A0:=⟨_,rfl⟩;obtain⟨A1,hA1⟩:∃ A1,(DC.s13 P O (LL.take (i+1))).foldl DC.adf 0=A1:=⟨_,rfl⟩;obtain⟨lo,hlo⟩:∃ lo,DC.loC oo=lo:=⟨_,rfl⟩;obtain⟨hh,hhh⟩:∃ hh,DC.hiC oo=hh:=⟨_,rfl⟩;rw[hSS] at f3 f4 hadd;rw[hA0,hA1] at hadd;rw[hlo] at f1 f3;rw[hhh] at f2 f4;rw[hA0];have g0':=cellkept B9.out g0;have g3':=cellkept B9.out g3;have hlt8:(i:Int)<(NL:Int):=by omega
      replace hSS:=Wd hSS;replace hA1:=Wd hA1;replace hadd:=Wd hadd;have hF:=Wd (And.intro f1 (And.intro f2 (And.intro f3 f4)));clear hsum hopen hsi lc hxi hs13 hfold hoo hopl g0 g3 hA0 hlo hhh f1 f2 f3 f4;have hn:∃ nn:Int,(ni:Int)=nn:=⟨_,rfl⟩;obtain⟨nn,hnn⟩:=hn;rw[hnn] at g0' hSS;replace hnn:=Wd hnn;go_wp2_with fail
      go_loopw [15,16,17,18] (fun s1 k1 f1 j1 wb=>∃ k:Nat,k<=NP/\k1=.int .i64 (k:Int)/\s1=.float .f64 ((DC.gp nn O (P.take k)).foldl DC.adf 0)/\Hid (Below w9.heap.size w9 wb)) (fun _ k1 _ _ _=>NP-(intOf k1).toNat)
      case atStart=>exact⟨0,Nat.zero_le _,rfl,rfl,bA⟩
      case round=>
       obtain⟨k,hk,rfl,rfl,bB⟩:=hrel
       by_cases hkl:k<NP
       ·have hkl':k<P.length:=by rw[hNP.out];exact hkl
        obtain⟨pb,po,rfl,hpc⟩:=N9.out k hkl;have hpid:=pidI_i64 hdi.out.pid hkl';have hpe:pidI P k=P[k].1:=by unfold pidI;rw[List.getElem?_eq_getElem hkl'];rfl
        have hlk:DC.fdsR P O (pidI P k)=DC.fdsA O 0 P[k].2:=by
         unfold DC.fdsR;rw[hpe,DC.lk_of hdi.out.asc (List.getElem_mem hkl')]
        obtain⟨pd,hpd⟩:∃ pd,pidI P k=pd:=⟨_,rfl⟩;rw[hpd] at hpc hpid hlk;obtain⟨F,hFF⟩:∃ F,DC.fdsA O 0 P[k].2=F:=⟨_,rfl⟩;have hF4:F.length<=4:=by
         rw[<-hFF];have h1:=DC.fds_len O P[k].2 0;have h2:=hdi.out.len _ (List.getElem_mem hkl')
         omega
        have hparts:∀ j,(( DC.gl nn (F.take j)).foldl DC.adf ((DC.gp nn O (P.take k)).foldl DC.adf 0))<DC.cinf:=fun j=>by
         rw[<-List.foldl_append];exact DC.part13 hdi.out hfew.out nn _ ⟨_,by rw[DC.gp_parts nn O P hkl' j,hFF]⟩
        have hrefs:∀ j (hj:j<F.length),1<=F[j].2.refs/\F[j].2.refs<=900:=fun j hj=>by
         obtain⟨kk,hkk⟩:=DC.fds_mem (O:=O) (L:=P[k].2) (b:=0) (y:=F[j]) (by rw[hFF];exact List.getElem_mem hj);obtain⟨q1,q2,-⟩:=DC.refs_few hdi.out (by have:=hfew.out;omega) hkk;exact⟨q1,q2⟩
        have hnext:(DC.gp nn O (P.take (k+1))).foldl DC.adf 0=(DC.gl nn F).foldl DC.adf ((DC.gp nn O (P.take k)).foldl DC.adf 0):=by
         rw[<-List.foldl_append,<-hFF,<-DC.gp_snoc nn O (P.take k) P[k],List.take_append_getElem hkl']
        rw[hFF] at hlk;have hpc':=cellkept bB.out hpc;have cFd:=Wd (fun W (hb:Below w9.heap.size w9 W)=>DC_fds_s pd W (hds9.out.keep hb) hpid);rw[hlk] at cFd;obtain⟨S0,hS0⟩:∃ S0,(DC.gp nn O (P.take k)).foldl DC.adf 0=S0:=⟨_,rfl⟩;rw[hS0] at hparts hnext ⊢;have hklt:(k:Int)<(NP:Int):=by omega
        replace hparts:=Wd hparts;replace hrefs:=Wd hrefs;replace hnext:=Wd hnext;clear hpe hpd hlk hFF hpid hpc hS0;go_wp2_with fail
        refine (cFd.out _ bB.out).mono ?_;rintro e w10 ⟨v10,rfl,ho10,b10⟩;obtain⟨x10,k10,rfl,R10⟩:=own_fd ho10;have bC:=Wd (bB.out.trans (b10.mono bB.out.size));have hC10:=hC9.out.keep bC.out;have c3:=hC10.cell (j:=3) rfl;obtain⟨NF,hNF⟩:∃ NF,F.length=NF:=⟨_,rfl⟩;rw[hNF] at hF4 ⊢;replace hNF:=Wd hNF;replace R10:=Wd R10;have hF4':¬ ((NF:Int)>4):=by omega
        clear ho10 b10 hC10;go_wp2_with fail
        clear c3 hF4';have hlc:=Wd (show ∀ W,Below w10.heap.size w10 W->Below w9.heap.size w9 W from fun W hb=>bC.out.trans (hb.mono bC.out.size));go_loopw [15,18] (fun s1 j1 wc=>∃ j:Nat,j<=NF/\j1=.int .i64 (j:Int)/\s1=.float .f64 ((DC.gl nn (F.take j)).foldl DC.adf S0)/\Hid (Below w10.heap.size w10 wc)) (fun _ j1 _=>NF-(intOf j1).toNat)
        case atStart=>exact⟨0,Nat.zero_le _,rfl,rfl,Wd (Below.refl _ _)⟩
        case round=>
         obtain⟨j,hj,rfl,rfl,bD⟩:=hrel
         by_cases hjl:j<NF
         ·have hjl':j<F.length:=by rw[hNF.out];exact hjl
          obtain⟨fb,rfl,hfb,fc⟩:=R10.out j hjl';obtain⟨r1,r2⟩:=hrefs.out j hjl';obtain⟨s1,s2⟩:=DC.gl_step nn F hjl';obtain⟨t1,t2,-⟩:=DC.TT_ok r1 r2;have hp:=hparts.out j;obtain⟨⟨fj,oj⟩,hy⟩:∃ y,F[j]=y:=⟨_,rfl⟩;rw[hy] at fc r1 r2 s1 s2 t1 t2;simp only at r1 r2 s1 s2 t1 t2;have x1:w10.cell? ⟨fb,j*5+1,none⟩=some (.int .i64 oj.ino):=fc 1 _ rfl;have x4:w10.cell? ⟨fb,j*5+4,none⟩=some (.int .i64 oj.refs):=fc 4 _ rfl;have y1:=cellkept bD.out x1;have y4:=cellkept bD.out x4;have z0:=cellkept (hlc.out _ bD.out) g0';obtain⟨ino,hino⟩:∃ ino,oj.ino=ino:=⟨_,rfl⟩;obtain⟨refs,hrf⟩:∃ refs,oj.refs=refs:=⟨_,rfl⟩;rw[hino] at y1 s1 s2;rw[hrf] at y4 r1 r2 s1 t1 t2;obtain⟨s0,hs0⟩:∃ s0,(DC.gl nn (F.take j)).foldl DC.adf S0=s0:=⟨_,rfl⟩;rw[hs0] at hp ⊢;have hjlt:(j:Int)<(NF:Int):=by omega
          have hr1:¬ (refs<1):=by omega
          by_cases he:ino=nn
          ·subst he;have ha:=DC.adf_ok hp t2;have hst:(DC.gl ino (F.take (j+1))).foldl DC.adf S0=DC.adf s0 (DC.TT refs):=by
            rw[s1 rfl,List.foldl_append,hs0];rfl
           rw[<-hst] at ha;obtain⟨s9,hs9⟩:∃ s9,(DC.gl ino (F.take (j+1))).foldl DC.adf S0=s9:=⟨_,rfl⟩;rw[hs9] at ha;obtain⟨tt,htt⟩:∃ tt,DC.TT refs=tt:=⟨_,rfl⟩;rw[htt] at t1 ha;replace hs9:=Wd hs9;have u1:∀ W:World,(binOp .quo 59 (.float .f64 4607182418800017408) (.float .f64 (floatOfInt .f64 refs))).run prog W=.ok (.float .f64 tt) W:=fun W=>run_float_arith W .quo _ .f64 _ _ _ t1;have u2:∀ W:World,(binOp .add 59 (.float .f64 s0) (.float .f64 tt)).run prog W=.ok (.float .f64 s9) W:=fun W=>run_float_arith W .add _ .f64 _ _ _ ha;have he2:(ino == ino)=true:=by simp
           clear hst s1 s2 fc x1 x4 hy hino hrf hs0 htt t2 hp r1 r2;go_wp2_with fail
           go_quiet (fail)
           go_wp2_with fail
           go_roundw
           case rel=>exact⟨j+1,by omega,by go_num,by rw[hs9.out],Wd (below_drewN bD.out nq)⟩
           case measure=>simp[intOf];omega
          ·have hst:(DC.gl nn (F.take (j+1))).foldl DC.adf S0=s0:=by rw[s2 he,hs0]
           have he2:(ino == nn)=false:=by simpa using he
           replace hst:=Wd hst;replace he:=Wd he;clear s1 s2 fc x1 x4 hy hino hrf hs0 t1 t2 hp r1 r2;go_wp2_with fail
           go_quiet (fail)
           go_wp2_with fail
           go_roundw
           case rel=>exact⟨j+1,by omega,by go_num,by rw[hst.out],Wd (below_drewN bD.out nq)⟩
           case measure=>simp[intOf];omega
         ·obtain rfl:j=NF:=by omega
          have htk:F.take j=F:=List.take_of_length_le (by rw[hNF.out];exact Nat.le_refl _);rw[htk,<-hnext.out];have bE:=Wd (hlc.out _ bD.out);clear htk;go_wp2_with fail
          go_roundw
          case rel=>exact⟨k+1,by omega,by go_num,rfl,bE⟩
          case measure=>simp[intOf];omega
       ·obtain rfl:k=NP:=by omega
        have htk:P.take k=P:=List.take_of_length_le (by rw[hNP.out];exact Nat.le_refl _);rw[htk,hSS.out];obtain⟨f1,f2,f3,f4⟩:=hF.out;have ha:=hadd.out;have u1:∀ W:World,(binOp .sub 59 (.float .f64 (floatOfInt .f64 (oo:Int))) (.float .f64 4562254508917369340)).run prog W=.ok (.float .f64 lo) W:=fun W=>run_float_arith W .sub _ .f64 _ _ _ f1;have u2:∀ W:World,(binOp .add 59 (.float .f64 (floatOfInt .f64 (oo:Int))) (.float .f64 4562254508917369340)).run prog W=.ok (.float .f64 hh) W:=fun W=>run_float_arith W .add _ .f64 _ _ _ f2;have u3:∀ W:World,(binOp .add 59 (.float .f64 A0) (.float .f64 SS)).run prog W=.ok (.float .f64 A1) W:=fun W=>run_float_arith W .add _ .f64 _ _ _ ha;have g3b:=cellkept bB.out g3';clear htk;go_wp2_with fail
        go_roundw
        case rel=>exact⟨i+1,by omega,by go_num,by rw[hA1.out],bB⟩
        case measure=>simp[intOf];omega
     ·obtain rfl:i=NL:=by omega
      obtain⟨m1,m2⟩:=hall.out i;have hlast:=DC.less13 m1 m2;obtain⟨A0,hA0⟩:∃ A0,(DC.s13 P O (LL.take i)).foldl DC.adf 0=A0:=⟨_,rfl⟩;rw[hA0] at hlast ⊢;obtain⟨h65,-,-⟩:=DC.half13;obtain⟨hc,hhc⟩:∃ hc,DC.halfC=hc:=⟨_,rfl⟩;rw[hhc] at hlast h65;have hC10:=hC9.out.keep bA.out;have c4:=hC10.cell (j:=4) rfl;have Bf:=Wd (BW9.out.trans (bA.out.mono BW9.out.size));clear hA0 hhc m1 m2 hC10;have u1:∀ W:World,(binOp .add 59 (.float .f64 (floatOfInt .f64 6)) (.float .f64 4602678819172646912)).run prog W=.ok (.float .f64 hc) W:=fun W=>run_float_arith W .add _ .f64 _ _ _ h65;go_wp2_with fail
      go_ret
      exact⟨rfl,Bf.out⟩
theorem DescCounts_lifted (os:Os)(started:os.Started)(H:Type)(enc:TypeId×Value->H) :
 ReturnsInHanded {} Tryz.checked os 4 .any (Rows.descCountsSpec.pre6 enc prog Tryz.f4 Rows.descCountsRow.domain false) (Rows.descCountsSpec.post enc prog Tryz.f4 false true false false):=by
 refine returnsInHanded_of_change (C:=Tryz.checked) (by kernel_rfl) started (by kernel_rfl) func4
  (ChangeSpec.witness6 (enc:=enc) (C:=Tryz.checked) false ⟨#[],#[.slice none 0 0],[]⟩ 8 (by kernel_rfl) (by kernel_rfl) (by kernel_rfl) (by kernel_rfl)) ?_
 intro W base args ds gs before hval0 hW hcnd _;have hval:∀ (j:Nat) t v,Tryz.f4.params[j]? = some t->args[j]? = some v->Value.okWide prog W .any base t v:=hval0;have hW':=hW;obtain⟨p,q,hA0,hV,rfl,hfz,hnd⟩:=hW;have hA:DataW.TrodAll enc prog W 0 (fun _=>true) true Tryz.f4.params.toList args.toList ds p:=hA0;rw[Tryz.params4] at hA hval;obtain⟨v0,vs0,d0,ds0,p0,q0,hargs,rfl,rfl,h0,r0⟩:=trodAll_cons hA;obtain⟨rfl,rfl,rfl⟩:=trodAll_nil r0;obtain rfl:args=#[v0]:=by cases args;simp_all
 obtain⟨rfl,rfl⟩:=trodVars_none hV;have k0:=h0;have lt0:∀ x∈p0,x.block<W.heap.size:=by obtain⟨m,hm⟩:=k0;exact DataW.trod_lt m _ _ _ hm
 obtain⟨o0,n0,c0,l0,rfl,w0⟩:=open_ops13 (hval 0 22 v0 rfl rfl) h0;clear hA0 hval0;refine (DescCounts_walk o0 n0 c0 l0 W w0).mono fun e W' ⟨he,bel⟩=>?_;subst he;exact⟨_,rfl,_,_,_,[],_,[],hW',trodAll_mk1 (shut_bool underlying4 _),(trodAll_cons_mk (Below.trod laidOut (by kernel_rfl) (of_decide_eq_true (by kernel_rfl)) k0 bel lt0) trodAll_mk0),rfl,bel.frame _,fun h=>by cases h⟩
theorem DescCounts_holds:Rows.DescCountsSaid:=
 OpenClaim.holds_of_wide 4 Tryz.f4 rfl rfl rfl rfl rfl rfl rfl ⟨rfl,rfl,rfl,rfl,rfl⟩ rfl rfl rfl rfl rfl (by kernel_rfl) func4 (by kernel_rfl)
  (of_decide_eq_true (by kernel_rfl)) (by unfold Func.isWrapper;first|(rw[if_pos (by decide +kernel)];kernel_rfl)|(rw[if_neg (by decide +kernel)];exact⟨rfl,rfl⟩))
  (fun os started H enc _=>DescCounts_lifted os started H enc)
end Go.Proofs.YtfffibepcdlldaaGreat

/- The law DescIdle of layer 13 (package haywardlaw13): for every input it returns true, and its arguments read as before. No further condition. -/
import Derived.Test.YtfffibepcdlldaaGreatZA46
import Derived.Test.YtfffibepcdlldaaGreatZA51
set_option linter.unusedVariables false
set_option linter.unusedSimpArgs false
set_option maxRecDepth 100000
set_option maxHeartbeats 64000000
open Go.Proofs.Tryz

namespace Go.Proofs.YtfffibepcdlldaaGreat
open Go.ChangeShapes Go.WideShapes Go.ChangeAt Go.RowKit Go.Maps
open Go.ChangeMaps (open_string shut_string)
open IN (cap7 Keeps cellkept)
open DC (Of Ls Ps Ou Sm)
open RD
theorem DescIdle_walk (o0:Option Addr)(n0 c0:Nat)(l0:List OpT13)(a1 b1 c1:Int)(s1:ByteArray)(d1 e1:Int)(w:World)(w0:OS13 w o0 n0 c0 l0)(w1:IS.I64 a1/\IS.I64 b1/\IS.I64 c1/\s1.size<=maxLen/\IS.I64 d1/\IS.I64 e1) :
 Calls prog 5 #[.slice o0 n0 c0,.agg #[.int .i64 a1,.int .i64 b1,.int .i64 c1,.string s1,.int .i64 d1,.int .i64 e1]] w fun e w'=>e=.returned (.bool true)/\Below w.heap.size w w':=by
 obtain⟨hlen,hll,hops⟩:=w0;have hlen2:(n0:Int)<=9223372036854775807:=by unfold maxLen at hlen;omega
 obtain⟨-,hb1,hc1,hs1,hd1,he1⟩:=w1;replace hb1:=Wd hb1;replace hc1:=Wd hc1;replace hs1:=Wd hs1;replace hd1:=Wd hd1;replace he1:=Wd he1;replace hops:=Wd hops;replace hll:=Wd hll;obtain⟨W0,hW0⟩:∃ W0,w.alloc (.cells #[.int .i64 a1,.int .i64 b1,.int .i64 c1,.string s1,.int .i64 d1,.int .i64 e1] 45)=W0:=⟨_,rfl⟩;have hb0:Below w.heap.size w W0:=by rw[<-hW0];exact (Below.refl _ _).alloc (Nat.le_refl _) _
 have hX0:Blk W0 w.heap.size 45 [.int .i64 a1,.int .i64 b1,.int .i64 c1,.string s1,.int .i64 d1,.int .i64 e1]:=by rw[<-hW0];exact Blk.new w _ [.int .i64 a1,.int .i64 b1,.int .i64 c1,.string s1,.int .i64 d1,.int .i64 e1] rfl
 have hsz:w.heap.size<W0.heap.size:=by rw[<-hW0];simp
 have cS:=Wd (DC.shown13 W0);have cC:=fun w=>Wd (DC.caps13 w);have cO:=fun w=>Wd (show Calls prog 12 #[cap7 8 100 3 4 6 0 0] w _ from DC.opened13c 100 (by decide) w);have cPl:=fun w=>Wd (show Calls prog 13 #[cap7 8 100 3 4 6 0 0] w _ from plain13 8 100 3 4 6 w (by unfold IN.Right;omega) (by omega) (by omega) (by omega));unfold cap7 at cC cO cPl;have hB0:=Wd (And.intro hb0 hsz);replace hX0:=Wd hX0;clear hlen hb0 hsz;go_enter func5,ntmps5
 go_wp2_with fail
 replace hW0:=Wd hW0;refine cS.out.mono ?_;rintro e w1 ⟨rfl,b1'⟩;have B1:=Wd b1';clear b1' cS;go_wp2_with fail
 refine (cC _).out.mono ?_;rintro e w2 ⟨rfl,b2⟩;have B2:=Wd (B1.out.trans (b2.mono B1.out.size));clear b2 B1 cC;go_wp2_with fail
 refine (cO _).out.mono ?_;rintro e w3 ⟨K,rfl,hbase,hK,hd,b3⟩;obtain⟨W2,hW2⟩:∃ W2,w2.alloc (.cells #[.int .i64 8,.int .i64 100,.int .i64 3,.int .i64 4,.int .i64 6,.int .i64 0,.int .i64 0] 25)=W2:=⟨_,rfl⟩;rw[hW2] at hbase b3;have B2':=Wd (show Below W0.heap.size W0 W2 by rw[<-hW2];exact B2.out.alloc B2.out.size _);have hC2:Hid (Blk W2 w2.heap.size 25 [.int .i64 8,.int .i64 100,.int .i64 3,.int .i64 4,.int .i64 6,.int .i64 0,.int .i64 0]):=Wd (by rw[<-hW2];exact Blk.new w2 _ _ rfl);replace hW2:=Wd hW2;have B3:=Wd (B2'.out.trans (b3.mono B2'.out.size));have hbw:=Wd (Nat.le_trans B2'.out.size hbase);have hC3:=hC2.out.keep b3;have p0:=hC3.cell (j:=0) rfl;have p1:=hC3.cell (j:=1) rfl;have p2:=hC3.cell (j:=2) rfl;have p3:=hC3.cell (j:=3) rfl;have p4:=hC3.cell (j:=4) rfl;have p5:=hC3.cell (j:=5) rfl;have p6:=hC3.cell (j:=6) rfl;replace hd:=Wd hd;replace hK:=Wd hK;clear b3 B2' cO hbase hC2 hC3;go_wp2_with fail
 refine (cPl _).out.mono ?_;rintro e w4 ⟨G,rfl,hgb,hG,hrt,b4⟩;have B4:=Wd (B3.out.trans (b4.mono B3.out.size));have T:=Wd (ties_of (a:=8) (b:=100) (c:=3) ⟨hK.out.I,hK.out.L,hK.out.B,hK.out.f,hK.out.o⟩ hG (by decide) (by decide) hbw.out (Nat.le_trans B3.out.size hgb));have h4:=Wd (show B13 K G 0 0 NT.Sn NT.D0 [] DC.O0 NT.Sn NT.D0 [] DC.O0 W0.heap.size W0 w4 from ⟨hd.out.keep b4,hrt,B4.out⟩);clear b4 B3 cPl hgb hG hrt hd hK hbw p0 p1 p2 p3 p4 p5 p6;have cA:=Wd (DC.add_s 1 w4 h4.out.ds DC.i64_one (by decide));go_wp2_with fail
 refine cA.out.mono ?_;rintro e w5 ⟨rfl,hd5⟩;have h5:=Wd (h4.out.prog T.out.b1 hd5);have cR:=Wd (add_d 1 w5 h5.out.rt (kn_of h4.out.ds T.out.e T.out.L));clear hd5 cA;go_wp2_with fail
 refine cR.out.mono ?_;rintro e w6 ⟨rfl,hr6⟩;have h6:=Wd (h5.out.doc T.out.b2 hr6);rw[<-T.out.e.2.2.2.1] at h6;obtain⟨P6,hP6⟩:∃ P6,(DC.addR K.files [] 1).2=P6:=⟨_,rfl⟩;rw[hP6] at h6;clear hr6 cR h5 h4 hP6;go_wp2_with fail
 go_loopw [12] (fun v wr=>∃ (j:Nat) (S:Sm) (D:NT.Ds) (P:Ps) (O:Ou),j<=n0/\j<=100/\v=.int .i64 (j:Int)/\Hid (B13 K G (2*j+2) (2*j+2) S D P O S D P O W0.heap.size W0 wr)) (fun v _=>n0-(intOf v).toNat)
 case atStart=>exact⟨0,_,_,_,_,by omega,by omega,rfl,h6⟩
 case round=>
  clear h6 B4;obtain⟨j,S,D,P,O,hj,hj2,rfl,hb⟩:=hrel
  by_cases hlt:j<n0/\j<100
  ·obtain⟨hl1,hl2⟩:=hlt;obtain⟨blk,off,rfl,hblk,hc0,hc1,hc2,hc3,hc4,hc5,z1,z2,z3,z4,z5,z6,z7,z8,z9,z10,z11⟩:=hops.out j (by rw[hll.out];exact hl1);obtain⟨⟨kd,pid,fd,s,n,ito⟩,hx⟩:∃ x,l0[j]'(by rw[hll.out];exact hl1)=x:=⟨_,rfl⟩;rw[hx] at hc0 hc1 hc2 hc3 hc4 hc5 z1 z2 z3 z4 z5 z6 z7 z8 z9 z10 z11;simp only at hc0 hc1 hc2 hc3 hc4 hc5 z1 z2 z3 z4 z5 z6 z7 z8 z9 z10 z11;have hbw:=hB0.out.1.trans (hb.out.b.mono hB0.out.1.size);have kk:∀ {a:Nat} {u:Value},w.cell? ⟨blk,a,none⟩=some u->wr.cell? ⟨blk,a,none⟩=some u:=fun {a u} hc=>by rw[hbw.cell (p:=⟨blk,a,none⟩) hblk];exact hc
   have k0:=kk hc0;have k1:=kk hc1;have k2:=kk hc2;have k3:=kk hc3;have k4:=kk hc4;have k5:=kk hc5;have cD:=Wd (does13 T.out (by omega) (by omega) kd pid fd n ito s (I64.of z1 z2) (I64.of z3 z4) z7 (I64.of z8 z9) (I64.of z10 z11) wr hb.out);clear kk hc0 hc1 hc2 hc3 hc4 hc5 hx hbw z1 z2 z3 z4 z5 z6 z7 z8 z9 z10 z11;go_wp2_with fail
   refine cD.out.mono ?_;rintro e w7 ⟨rfl,S',D',P',O',h7⟩;replace h7:=Wd h7;clear cD k0 k1 k2 k3 k4 k5;go_wp2_with fail
   go_roundw
   case rel=>exact⟨j+1,S',D',P',O',by omega,by omega,by go_num,h7⟩
   case measure=>simp[intOf];omega
  ·have hex:(¬ j<n0)∨(j<n0/\¬ j<100):=by omega
   have hX:=hX0.out;have hX7:Blk wr w.heap.size 45 [.int .i64 a1,.int .i64 b1,.int .i64 c1,.string s1,.int .i64 d1,.int .i64 e1]:=hX0.out.below hb.out.b hB0.out.2;have cW:=Wd (DC.all_s wr hb.out.ds);obtain⟨hcs,hk1,hk2⟩:=kind8 a1;obtain⟨tm,htm⟩:∃ tm,a1.tmod 8=tm:=⟨_,rfl⟩;rw[htm] at hcs hk1 hk2;have hq0:Hid (2*j+2<59998):=Wd (by omega);obtain⟨q,hq⟩:∃ q,2*j+2=q:=⟨_,rfl⟩;rw[hq] at hb hq0;replace hq:=Wd hq;replace hX7:=Wd hX7;clear hX;rcases hex with h1|⟨h1,h2⟩ <;>
   ·go_wp2_with fail
    refine cW.out.mono ?_;rintro e w8 ⟨v8,rfl,ho8,b8⟩;obtain⟨x8,k8,rfl⟩:=Own.form ho8;have h8:=Wd (hb.out.keep T.out.b2 b8);have hX8:=Wd (hX7.out.keep b8);replace ho8:=Wd ho8;have hlenS:(IN.lst S K.I).length<=100000:=by have:=IN.lst_len S K.I;have:=hb.out.ds.fine.2;omega
    replace hlenS:=Wd hlenS;have y0:=hX8.out.cell (j:=0) rfl;have y1:=hX8.out.cell (j:=1) rfl;have y2:=hX8.out.cell (j:=2) rfl;have y3:=hX8.out.cell (j:=3) rfl;have y4:=hX8.out.cell (j:=4) rfl;have y5:=hX8.out.cell (j:=5) rfl;clear b8 cW hX7 hb;rcases hcs with e0|e0|e0|e0|e0|e0|e0|e0;obtain⟨r,hr⟩:∃ r,(DC.opnR K.I K.files K.opens S D P O b1 s1 d1).1.2=r:=⟨_,rfl⟩;obtain⟨S',hS'⟩:∃ S',(DC.opnR K.I K.files K.opens S D P O b1 s1 d1).2.1=S':=⟨_,rfl⟩;obtain⟨D',hD'⟩:∃ D',(DC.opnR K.I K.files K.opens S D P O b1 s1 d1).2.2.1=D':=⟨_,rfl⟩;obtain⟨P',hP'⟩:∃ P',(DC.opnR K.I K.files K.opens S D P O b1 s1 d1).2.2.2.1=P':=⟨_,rfl⟩;obtain⟨O',hO'⟩:∃ O',(DC.opnR K.I K.files K.opens S D P O b1 s1 d1).2.2.2.2=O':=⟨_,rfl⟩;have hsd:r≠0->S'=S/\D'=D/\P'=P/\O'=O:=fun h=>by
     have he:=opn_e (S:=S) (D:=D) (P:=P) (O:=O) (show (DC.opnR K.I K.files K.opens S D P O b1 s1 d1).1.2≠0 by rw[hr];exact h);rw[he] at hS';rw[he] at hD';rw[he] at hP';rw[he] at hO';exact⟨hS'.symm,hD'.symm,hP'.symm,hO'.symm⟩
    have cX:=DC.open_s b1 s1 d1 w8 h8.out.ds hb1.out hs1.out hd1.out hq0.out;rw[hr,hS',hD',hP',hO'] at cX;generalize (DC.opnR K.I K.files K.opens S D P O b1 s1 d1).1.1=ax at cX;have cX:=cX.mono (fun e w' hh=>show e=_/\DC.DO K (q+2) S' D' P' O' w8 w' from ⟨hh.1,by exact hh.2⟩);replace cX:=Wd cX;replace hsd:=Wd hsd;clear hr hS' hD' hP' hO';go_wp2_with fail
    refine cX.out.mono ?_;rintro e w9 ⟨rfl,hd9⟩;refine Hid.out ?_
    rotate_left
    obtain⟨r,hr⟩:∃ r,(DC.clsR S P O b1 c1).1=r:=⟨_,rfl⟩;obtain⟨S',hS'⟩:∃ S',(DC.clsR S P O b1 c1).2.1=S':=⟨_,rfl⟩;obtain⟨D',hD'⟩:∃ D',D=D':=⟨_,rfl⟩;obtain⟨P',hP'⟩:∃ P',(DC.clsR S P O b1 c1).2.2.1=P':=⟨_,rfl⟩;obtain⟨O',hO'⟩:∃ O',(DC.clsR S P O b1 c1).2.2.2=O':=⟨_,rfl⟩;have hsd:r≠0->S'=S/\D'=D/\P'=P/\O'=O:=fun h=>by
     have he:=cls_e (show (DC.clsR S P O b1 c1).1≠0 by rw[hr];exact h);rw[he] at hS';rw[he] at hP';rw[he] at hO';exact⟨hS'.symm,hD'.symm,hP'.symm,hO'.symm⟩
    have cX:=DC.close_s b1 c1 w8 h8.out.ds hb1.out hq0.out;rw[hr,hS',hP',hO'] at cX;have cX:=cX.mono (fun e w' hh=>show e=_/\DC.DO K (q+2) S' D' P' O' w8 w' from ⟨hh.1,by first|exact hh.2|(rw[<-hD'];exact hh.2)⟩);replace cX:=Wd cX;replace hsd:=Wd hsd;clear hr hS' hD' hP' hO';go_wp2_with fail
    refine cX.out.mono ?_;rintro e w9 ⟨rfl,hd9⟩;refine Hid.out ?_
    rotate_left
    obtain⟨r,hr⟩:∃ r,(DC.dupR K.files P O b1 c1).1.2=r:=⟨_,rfl⟩;obtain⟨S',hS'⟩:∃ S',S=S':=⟨_,rfl⟩;obtain⟨D',hD'⟩:∃ D',D=D':=⟨_,rfl⟩;obtain⟨P',hP'⟩:∃ P',(DC.dupR K.files P O b1 c1).2.1=P':=⟨_,rfl⟩;obtain⟨O',hO'⟩:∃ O',(DC.dupR K.files P O b1 c1).2.2=O':=⟨_,rfl⟩;have hsd:r≠0->S'=S/\D'=D/\P'=P/\O'=O:=fun h=>by
     have he:=dup_e (show (DC.dupR K.files P O b1 c1).1.2≠0 by rw[hr];exact h);rw[he] at hP';rw[he] at hO';exact⟨hS'.symm,hD'.symm,hP'.symm,hO'.symm⟩
    have cX:=DC.dup_s b1 c1 w8 h8.out.ds hb1.out hq0.out;rw[hr,hP',hO'] at cX;generalize (DC.dupR K.files P O b1 c1).1.1=ax at cX;have cX:=cX.mono (fun e w' hh=>show e=_/\DC.DO K (q+2) S' D' P' O' w8 w' from ⟨hh.1,by first|exact hh.2|(rw[<-hS'];rw[<-hD'];exact hh.2)⟩);replace cX:=Wd cX;replace hsd:=Wd hsd;clear hr hS' hD' hP' hO';go_wp2_with fail
    refine cX.out.mono ?_;rintro e w9 ⟨rfl,hd9⟩;refine Hid.out ?_
    rotate_left
    obtain⟨r,hr⟩:∃ r,(DC.rdR S P O b1 c1 d1).1.2=r:=⟨_,rfl⟩;obtain⟨S',hS'⟩:∃ S',S=S':=⟨_,rfl⟩;obtain⟨D',hD'⟩:∃ D',D=D':=⟨_,rfl⟩;obtain⟨P',hP'⟩:∃ P',P=P':=⟨_,rfl⟩;obtain⟨O',hO'⟩:∃ O',(DC.rdR S P O b1 c1 d1).2=O':=⟨_,rfl⟩;have hsd:r≠0->S'=S/\D'=D/\P'=P/\O'=O:=fun h=>by
     have he:=rd_e (show (DC.rdR S P O b1 c1 d1).1.2≠0 by rw[hr];exact h);rw[he] at hO';exact⟨hS'.symm,hD'.symm,hP'.symm,hO'.symm⟩
    have cX:=DC.read_s b1 c1 d1 w8 h8.out.ds hb1.out hd1.out hq0.out;rw[hr,hO'] at cX;generalize (DC.rdR S P O b1 c1 d1).1.1=ax at cX;have cX:=cX.mono (fun e w' hh=>show e=_/\DC.DO K (q+2) S' D' P' O' w8 w' from ⟨hh.1,by first|exact hh.2|(rw[<-hS'];rw[<-hD'];rw[<-hP'];exact hh.2)⟩);replace cX:=Wd cX;replace hsd:=Wd hsd;clear hr hS' hD' hP' hO';go_wp2_with fail
    refine cX.out.mono ?_;rintro e w9 ⟨rfl,hd9⟩;refine Hid.out ?_
    rotate_left
    obtain⟨r,hr⟩:∃ r,(DC.wriR K.I K.B S P O b1 c1 s1).1.2=r:=⟨_,rfl⟩;obtain⟨S',hS'⟩:∃ S',(DC.wriR K.I K.B S P O b1 c1 s1).2.1=S':=⟨_,rfl⟩;obtain⟨D',hD'⟩:∃ D',D=D':=⟨_,rfl⟩;obtain⟨P',hP'⟩:∃ P',P=P':=⟨_,rfl⟩;obtain⟨O',hO'⟩:∃ O',(DC.wriR K.I K.B S P O b1 c1 s1).2.2=O':=⟨_,rfl⟩;have hsd:r≠0->S'=S/\D'=D/\P'=P/\O'=O:=fun h=>by
     have he:=wri_e (show (DC.wriR K.I K.B S P O b1 c1 s1).1.2≠0 by rw[hr];exact h);rw[he] at hS';rw[he] at hO';exact⟨hS'.symm,hD'.symm,hP'.symm,hO'.symm⟩
    have cX:=DC.write_s b1 c1 s1 w8 h8.out.ds hb1.out hs1.out hq0.out;rw[hr,hS',hO'] at cX;generalize (DC.wriR K.I K.B S P O b1 c1 s1).1.1=ax at cX;have cX:=cX.mono (fun e w' hh=>show e=_/\DC.DO K (q+2) S' D' P' O' w8 w' from ⟨hh.1,by first|exact hh.2|(rw[<-hD'];rw[<-hP'];exact hh.2)⟩);replace cX:=Wd cX;replace hsd:=Wd hsd;clear hr hS' hD' hP' hO';go_wp2_with fail
    refine cX.out.mono ?_;rintro e w9 ⟨rfl,hd9⟩;refine Hid.out ?_
    rotate_left
    obtain⟨r,hr⟩:∃ r,(DC.skR S P O b1 c1 d1 e1).1.2=r:=⟨_,rfl⟩;obtain⟨S',hS'⟩:∃ S',S=S':=⟨_,rfl⟩;obtain⟨D',hD'⟩:∃ D',D=D':=⟨_,rfl⟩;obtain⟨P',hP'⟩:∃ P',P=P':=⟨_,rfl⟩;obtain⟨O',hO'⟩:∃ O',(DC.skR S P O b1 c1 d1 e1).2=O':=⟨_,rfl⟩;have hsd:r≠0->S'=S/\D'=D/\P'=P/\O'=O:=fun h=>by
     have he:=sk_e (show (DC.skR S P O b1 c1 d1 e1).1.2≠0 by rw[hr];exact h);rw[he] at hO';exact⟨hS'.symm,hD'.symm,hP'.symm,hO'.symm⟩
    have cX:=DC.seek_s b1 c1 d1 e1 w8 h8.out.ds hb1.out hd1.out hq0.out;rw[hr,hO'] at cX;generalize (DC.skR S P O b1 c1 d1 e1).1.1=ax at cX;have cX:=cX.mono (fun e w' hh=>show e=_/\DC.DO K (q+2) S' D' P' O' w8 w' from ⟨hh.1,by first|exact hh.2|(rw[<-hS'];rw[<-hD'];rw[<-hP'];exact hh.2)⟩);replace cX:=Wd cX;replace hsd:=Wd hsd;clear hr hS' hD' hP' hO';go_wp2_with fail
    refine cX.out.mono ?_;rintro e w9 ⟨rfl,hd9⟩;refine Hid.out ?_
    rotate_left
    obtain⟨r,hr⟩:∃ r,(DC.truR S P O b1 c1 d1).1=r:=⟨_,rfl⟩;obtain⟨S',hS'⟩:∃ S',(DC.truR S P O b1 c1 d1).2=S':=⟨_,rfl⟩;obtain⟨D',hD'⟩:∃ D',D=D':=⟨_,rfl⟩;obtain⟨P',hP'⟩:∃ P',P=P':=⟨_,rfl⟩;obtain⟨O',hO'⟩:∃ O',O=O':=⟨_,rfl⟩;have hsd:r≠0->S'=S/\D'=D/\P'=P/\O'=O:=fun h=>by
     have he:=tru_e (show (DC.truR S P O b1 c1 d1).1≠0 by rw[hr];exact h);rw[he] at hS';exact⟨hS'.symm,hD'.symm,hP'.symm,hO'.symm⟩
    have cX:=DC.trunc_s b1 c1 d1 w8 h8.out.ds hb1.out hd1.out hq0.out;rw[hr,hS'] at cX;have cX:=cX.mono (fun e w' hh=>show e=_/\DC.DO K (q+2) S' D' P' O' w8 w' from ⟨hh.1,by first|exact hh.2|(rw[<-hD'];rw[<-hP'];rw[<-hO'];exact hh.2)⟩);replace cX:=Wd cX;replace hsd:=Wd hsd;clear hr hS' hD' hP' hO';go_wp2_with fail
    refine cX.out.mono ?_;rintro e w9 ⟨rfl,hd9⟩;refine Hid.out ?_
    rotate_left
    obtain⟨r,hr⟩:∃ r,(DC.cloR P O b1 e1).1=r:=⟨_,rfl⟩;obtain⟨S',hS'⟩:∃ S',S=S':=⟨_,rfl⟩;obtain⟨D',hD'⟩:∃ D',D=D':=⟨_,rfl⟩;obtain⟨P',hP'⟩:∃ P',(DC.cloR P O b1 e1).2.1=P':=⟨_,rfl⟩;obtain⟨O',hO'⟩:∃ O',(DC.cloR P O b1 e1).2.2=O':=⟨_,rfl⟩;have hsd:r≠0->S'=S/\D'=D/\P'=P/\O'=O:=fun h=>by
     have he:=clo_e (show (DC.cloR P O b1 e1).1≠0 by rw[hr];exact h);rw[he] at hP';rw[he] at hO';exact⟨hS'.symm,hD'.symm,hP'.symm,hO'.symm⟩
    have cX:=DC.clone_s b1 e1 w8 h8.out.ds hb1.out he1.out hq0.out;rw[hr,hP',hO'] at cX;have cX:=cX.mono (fun e w' hh=>show e=_/\DC.DO K (q+2) S' D' P' O' w8 w' from ⟨hh.1,by first|exact hh.2|(rw[<-hS'];rw[<-hD'];exact hh.2)⟩);replace cX:=Wd cX;replace hsd:=Wd hsd;clear hr hS' hD' hP' hO';go_wp2_with fail
    refine cX.out.mono ?_;rintro e w9 ⟨rfl,hd9⟩;refine Hid.out ?_
    rotate_left
    all_goals
     refine Wd ?_;have h9:=Wd (h8.out.prog T.out.b1 hd9);have ho9:=Wd (row_vt ho8.out stat_vt hd9.2);clear y0 y1 y2 y3 y4 y5 hX8 hd9 cX
     by_cases hr0:r=0
     ·subst hr0;have Bf:=Wd (hB0.out.1.trans (h9.out.b.mono (Nat.le_of_lt hB0.out.2)));go_wp2_with fail
      go_ret
      exact⟨rfl,Bf.out⟩
     ·obtain⟨rfl,rfl,rfl,rfl⟩:=hsd.out hr0;have hr1:(r == 0)=false:=by simpa using hr0
      have cA9:=Wd (DC.all_s w9 h9.out.ds);replace hr0:=Wd hr0;go_wp2_with fail
      refine cA9.out.mono ?_;rintro e w10 ⟨v10,rfl,ho10,b10⟩;obtain⟨x10,k10,rfl⟩:=Own.form ho10;have cE:=Wd (IN.Same_yes _ _ _ _ (IN.lst _ K.I) w10 hlenS.out ho10 (Own.below ho9.out b10));have h10:=Wd (h9.out.keep T.out.b2 b10);clear b10 ho10 cA9;go_wp2_with fail
      refine cE.out.mono ?_;rintro e w11 ⟨rfl,b11⟩;have h11:=Wd (h10.out.keep T.out.b2 b11);have cF:=Wd (alike13 T.out w11 h11.out);clear b11 cE;go_wp2_with fail
      refine cF.out.mono ?_;rintro e w12 ⟨rfl,b12⟩;have h12:=h11.out.keep T.out.b2 b12;have Bf:=Wd (hB0.out.1.trans (h12.b.mono (Nat.le_of_lt hB0.out.2)));go_wp2_with fail
      go_ret
      exact⟨rfl,Bf.out⟩
theorem DescIdle_lifted (os:Os)(started:os.Started)(H:Type)(enc:TypeId×Value->H) :
 ReturnsInHanded {} Tryz.checked os 5 .any (Rows.descIdleSpec.pre6 enc prog Tryz.f5 Rows.descIdleRow.domain false) (Rows.descIdleSpec.post enc prog Tryz.f5 false true false false):=by
 refine returnsInHanded_of_change (C:=Tryz.checked) (by kernel_rfl) started (by kernel_rfl) func5
  (ChangeSpec.witness6 (enc:=enc) (C:=Tryz.checked) false ⟨#[],#[.slice none 0 0,.agg #[.int .i64 0,.int .i64 0,.int .i64 0,.string ByteArray.empty,.int .i64 0,.int .i64 0]],[]⟩ 8 (by kernel_rfl) (by kernel_rfl) (by kernel_rfl) (by kernel_rfl)) ?_
 intro W base args ds gs before hval0 hW hcnd _;have hval:∀ (j:Nat) t v,Tryz.f5.params[j]? = some t->args[j]? = some v->Value.okWide prog W .any base t v:=hval0;have hW':=hW;obtain⟨p,q,hA0,hV,rfl,hfz,hnd⟩:=hW;have hA:DataW.TrodAll enc prog W 0 (fun _=>true) true Tryz.f5.params.toList args.toList ds p:=hA0;rw[Tryz.params5] at hA hval;obtain⟨v0,vs0,d0,ds0,p0,q0,hargs,rfl,rfl,h0,r0⟩:=trodAll_cons hA;obtain⟨v1,vs1,d1,ds1,p1,q1,rfl,rfl,rfl,h1,r1⟩:=trodAll_cons r0;obtain⟨rfl,rfl,rfl⟩:=trodAll_nil r1;obtain rfl:args=#[v0,v1]:=by cases args;simp_all
 obtain⟨rfl,rfl⟩:=trodVars_none hV;have k0:=h0;have lt0:∀ x∈p0,x.block<W.heap.size:=by obtain⟨m,hm⟩:=k0;exact DataW.trod_lt m _ _ _ hm
 obtain⟨o0,n0,c0,l0,rfl,w0⟩:=open_ops13 (hval 0 22 v0 rfl rfl) h0;have k1:=h1;have lt1:∀ x∈p1,x.block<W.heap.size:=by obtain⟨m,hm⟩:=k1;exact DataW.trod_lt m _ _ _ hm
 obtain⟨a1,b1,c1,s1,d1,e1,rfl,w1⟩:=open_op13 (hval 1 45 v1 rfl rfl) h1;clear hA0 hval0;refine (DescIdle_walk o0 n0 c0 l0 a1 b1 c1 s1 d1 e1 W w0 w1).mono fun e W' ⟨he,bel⟩=>?_;subst he;exact⟨_,rfl,_,_,_,[],_,[],hW',trodAll_mk1 (shut_bool underlying4 _),(trodAll_cons_mk (Below.trod laidOut (by kernel_rfl) (of_decide_eq_true (by kernel_rfl)) k0 bel lt0) (trodAll_cons_mk (Below.trod laidOut (by kernel_rfl) (of_decide_eq_true (by kernel_rfl)) k1 bel lt1) trodAll_mk0)),rfl,bel.frame _,fun h=>by cases h⟩
theorem DescIdle_holds:Rows.DescIdleSaid:=
 OpenClaim.holds_of_wide 5 Tryz.f5 rfl rfl rfl rfl rfl rfl rfl ⟨rfl,rfl,rfl,rfl,rfl⟩ rfl rfl rfl rfl rfl (by kernel_rfl) func5 (by kernel_rfl)
  (of_decide_eq_true (by kernel_rfl)) (by unfold Func.isWrapper;first|(rw[if_pos (by decide +kernel)];kernel_rfl)|(rw[if_neg (by decide +kernel)];exact⟨rfl,rfl⟩))
  (fun os started H enc _=>DescIdle_lifted os started H enc)
end Go.Proofs.YtfffibepcdlldaaGreat

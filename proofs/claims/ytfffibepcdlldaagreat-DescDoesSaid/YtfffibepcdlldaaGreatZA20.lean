/- Contracts of the document's Write, Trunc. -/
import Derived.Test.YtfffibepcdlldaaGreatZA19
import Derived.Test.YtfffibepcdlldaaGreatZA18
set_option linter.unusedVariables false
set_option linter.unusedSimpArgs false
set_option maxRecDepth 100000
set_option maxHeartbeats 64000000
open Go.Proofs.Tryz

namespace Go.Proofs.YtfffibepcdlldaaGreat
open Go.ChangeShapes Go.WideShapes Go.ChangeAt Go.RowKit
namespace IN
section
variable {base:Nat}{rg:Nat}{I B L k:Nat}{S:Int->Option Nd}{z3 z4 z5 z6:Int}{v:Value}{q:List RE}
theorem drew1_keep (w:World):Below w.heap.size w w.drew:=⟨rfl,rfl,rfl,Nat.le_refl _,fun _ _=>rfl⟩
theorem RM.fz {w:World}{I B L:Int}{g N cap i:Nat}(h:RM base w rg I B L z3 z4 z5 z6 (.slice (some ⟨g,0,none⟩) N cap) q)(hi:i<q.length):∀ j,w.frozen? ⟨g,j,none⟩=false:=by
 obtain⟨g',cap',e,-,-,-,-,-,h6,-⟩:=h.el hi;simp only[Value.slice.injEq,Option.some.injEq,Addr.mk.injEq,and_true,true_and] at e;obtain⟨rfl,-,rfl⟩:=e;exact h6
theorem RM.set2 {w:World}{I B L:Int}{g N cap i:Nat}{x y:RE}(h:RM base w rg I B L z3 z4 z5 z6 (.slice (some ⟨g,0,none⟩) N cap) (q.set i x))(hN:q.length=N)(hi:i<q.length)(m:Nat)(u:Value)(hm:m<7)(hy:(rrow x).set m u=rrow y) :
 RM base (w.setCell ⟨g,i*7+m,none⟩ u) rg I B L z3 z4 z5 z6 (.slice (some ⟨g,0,none⟩) N cap) (q.set i y)/\Keeps base DT w (w.setCell ⟨g,i*7+m,none⟩ u):=by
 have:=h.set (by rw[List.length_set];exact hN) (i:=i) (by rw[List.length_set];exact hi) m u hm y (by rw[List.getElem_set_self];exact hy);rwa[List.set_set] at this
theorem RM.cset {w:World}{I B L:Int}{g N cap i:Nat}{x:RE}(h:RM base w rg I B L z3 z4 z5 z6 (.slice (some ⟨g,0,none⟩) N cap) (q.set i x))(hi:i<q.length) :
 w.cell? ⟨rg,7,none⟩=some (.slice (some ⟨g,0,none⟩) N cap)/\(∀ j,w.frozen? ⟨g,j,none⟩=false)/\∀ m u,(rrow x)[m]? = some u->w.cell? ⟨g,i*7+m,none⟩=some u:=by
 obtain⟨g',cap',e,-,-,-,-,-,h6,h7⟩:=h.el (i:=i) (by rw[List.length_set];exact hi);simp only[Value.slice.injEq,Option.some.injEq,Addr.mk.injEq,and_true,true_and] at e;obtain⟨rfl,-,rfl⟩:=e;refine⟨h.box.cell rfl,h6,fun m u hu=>h7 m u ?_⟩;rw[List.getElem_set_self];exact hu
def psum (l:List (Nat×Nd))(j:Nat):Nat:=((l.take j).map fun x=>EM.cnt x.2.l).sum
theorem psum_succ (l:List (Nat×Nd))(j:Nat)(hj:j<l.length):psum l (j+1)=psum l j+EM.cnt l[j].2.l:=by
 unfold psum;rw[List.take_succ_eq_append_getElem hj,List.map_append,List.sum_append];simp
theorem psum_le (l:List (Nat×Nd))(j:Nat):psum l j<=(l.map fun x=>EM.cnt x.2.l).sum:=by
 unfold psum
 conv=>rhs;rw[<-List.take_append_drop j l,List.map_append,List.sum_append]
 omega
theorem psum_all (l:List (Nat×Nd))(j:Nat)(h:l.length<=j):psum l j=(l.map fun x=>EM.cnt x.2.l).sum:=by
 unfold psum;rw[List.take_of_length_le h]
theorem rWr_no (n f:Int)(s:ByteArray)(w:World)(hf:Fine I L B k S)(hI:I<=4096)(h:RS base w rg I B L (lst S I))(r:Int)(hr:(askR S n fun d=>if d.kind=1 then (0:Int) else 14)=r)(hr0:r≠0) :
 Calls prog 89 #[.pointer (some ⟨rg,0,none⟩),.int .i64 n,.int .i64 f,.string s] w fun e w'=>e=.returned (.int .i64 r)/\w=w':=by
 obtain⟨z3,z4,z5,z6,v,q,hM,hF⟩:=h;have cA:=Wd (rfile_no n w hf hI hM hF r hr hr0);have hr1:(r != 0)=true:=by simp[hr0]
 replace hr0:=Wd hr0;clear hM hF hr;go_enter func89,ntmps89
 go_wp2_with fail
 refine cA.out.mono ?_;rintro e w1 ⟨rfl,rfl⟩;go_wp2_with fail
 go_ret
 exact⟨rfl,rfl⟩
theorem rWr_yes (n f:Int)(s:ByteArray)(d:Nd)(w:World)(hf:Fine I L B k S)(hI:I<=4096)(hB:B<=16777216)(h:RS base w rg I B L (lst S I))(hff:I64 f)(hs:s.size<=maxLen)(hS:S n=some d)(hk:d.kind=1) :
 Calls prog 89 #[.pointer (some ⟨rg,0,none⟩),.int .i64 n,.int .i64 f,.string s] w (ROut base rg I B L w (wrErr I B S n f s) (lst (wrS I B S n f s) I)):=by
 obtain⟨E,hE⟩:∃ E,wrE d.l f s=E:=⟨_,rfl⟩;have hSS:∀ x,wrErr I B S n f s=x↔(if E=0 then (if tot S I+EM.cnt (EM.wr d.l f s)<=B+EM.cnt d.l then (0:Int) else 21) else E)=x:=fun x=>by unfold wrErr askR;rw[hS];simp[hk,hE]
 have hSt:wrS I B S n f s=if E=0/\tot S I+EM.cnt (EM.wr d.l f s)<=B+EM.cnt d.l then upd S n (some (wNd d f s)) else S:=by unfold wrS;rw[hS];simp[hk,hE]
 obtain⟨z3,z4,z5,z6,v,q,hM,hF⟩:=h;obtain⟨p,mm,hnm,hm1,hmI,hp,hat,hbef,hset,hdel⟩:=pl_some hf hS;have hg:=hf.good _ d hS;have hwg:=Wd (fun he=>wr_good (s:=s) (f:=f) hg hk he);have hpq:p<q.length:=by rw[hF.len];exact hp
 have hEF:=hF.at_ p hpq hp;rw[hat hp] at hEF;have cA:=Wd (rfile_yes n w hI hM hF hp (hat hp) hnm hbef hk);obtain⟨g,N,cap,rfl,hN,hpN,hNc,hcm,hbg,hgr,hgl,hrl,hgf,hrf,c0,c1,c2,c7,x0,x1,x2,x3,x4,x5,x6⟩:=hM.opened hpq;obtain⟨ao,nn,cc,hv,hx1,-⟩:=hEF.v;rw[hv] at x6;have cW:=Go.Proofs.YtfffibepcdlldaaGreat.rWrite_any ao nn cc d.l f s w hx1 (ok_fit (Int.le_refl _) hg.ok) hff hs;rw[hE] at cW;replace cW:=Wd cW;have h0:(0:Int)<=(p:Int):=by omega
 have hgr2:¬ rg=g:=fun e=>hgr e.symm;have hgr1:¬ g=rg:=hgr;have hlow:=Wd hM.low;have H:=Wd hM;have HF:=Wd hF;have HE:=Wd hEF;have HN:=Wd hN;have HG:=Wd hg;have HFn:=Wd hf;have hatp:=Wd (hat hp);have hHp:=Wd hp;replace hpq:=Wd hpq;replace hset:=Wd hset;replace hSS:=Wd hSS;replace hSt:=Wd hSt;replace hE:=Wd hE;have hll:(lst S I).length=N:=by rw[<-hF.len];exact hN
 have hll':=Wd hll;have hN4:N<=4096:=by have:=lst_len S I;omega
 have htot:=hf.tot;have hnd:=ok_cnt hg.ok;have hpN':p<N:=by omega
 clear hM hF hEF hN hg hat hbef hdel hv hx1 c0 c2 x0 x1 x2 x3 x4 x5 hnm hf hgr hll;go_enter func89,ntmps89
 go_wp2_with fail
 refine cA.out.mono ?_;rintro e w1 ⟨rfl,rfl⟩;go_wp2_with fail
 refine cW.out.mono ?_;rintro e w2 ⟨v2,rfl,ho2,b2⟩
 by_cases he:E=0
 ·obtain⟨hGw,hL2,hok2,hf0,hf1⟩:=hwg.out (hE.out.trans he);subst he;rw[hL2] at ho2;have hX2:=XE.own ho2;have hown:=ok_cnt hok2;have hX2c:=hX2;obtain⟨ao2,nn2,cc2,hv2,hxs2,-⟩:=hX2c;have cS:=rStored_any ao2 nn2 cc2 (EM.wr d.l f s) w2 hxs2 (ok_fit (Int.le_refl _) hok2);have es1:Go.Proofs.YtfffibepcdlldaaGreat.stV (EM.wr d.l f s)=(EM.cnt (EM.wr d.l f s):Int):=by unfold Go.Proofs.YtfffibepcdlldaaGreat.stV;rw[if_pos hok2]
  have es2:stE (EM.wr d.l f s)=0:=by unfold stE;rw[if_pos hok2]
  rw[es1,es2] at cS;replace cS:=Wd cS;subst hv2;have hX2:=Wd hX2;have b2:=Wd b2;have hGw:=Wd hGw;obtain⟨ow,how⟩:∃ ow:Nat,EM.cnt (EM.wr d.l f s)=ow:=⟨_,rfl⟩;rw[how] at hown cS hSS hSt;have how:=Wd how;clear ho2 hxs2 hL2 hok2 es1 es2 cW cA;go_wp2_with fail
  refine cS.out.mono ?_;rintro e w3 ⟨rfl,b3⟩;have b4:=Wd (b2.out.trans (b3.mono b2.out.size));have H3:=Wd (H.out.keep b4.out);have HF3:=Wd (HF.out.keep b4.out);have HE3:=Wd (HE.out.move fun b cur hc=>b4.out.block b (lt_of_some hc));have hX3:=Wd (hX2.out.keep b3);have d7:=cellkept b4.out c7;have d1:=cellkept b4.out c1;have hfz:∀ j,w3.frozen? ⟨g,j,none⟩=false:=by
   have h':=H3.out.opened hpq.out;obtain⟨g',N',cap',hv',-,-,-,-,-,-,-,-,hz,-⟩:=h';simp only[Value.slice.injEq,Option.some.injEq,Addr.mk.injEq,and_true,true_and] at hv';obtain⟨rfl,-,-⟩:=hv';exact hz
  clear cS c7 c1 x6 hgf hrf b3 b2;go_wp2_with fail
  go_loopw [14,15] (fun u i wr=>∃ (j:Nat) (t:Int),j<=N/\i=.int .i64 (j:Int)/\u=.int .i64 t/\Hid (t=(ow:Int)+(psum (lst S I) j:Int)-(if p<j then (EM.cnt d.l:Int) else 0))/\w3=wr) (fun _ i _=>N-(intOf i).toNat)
  case atStart=>exact⟨0,(ow:Int),Nat.zero_le _,rfl,rfl,Wd (by simp[psum]),by first|trivial|rfl⟩
  case round=>
   obtain⟨j,t,hj,rfl,rfl,ht,hwr⟩:=hrel;subst hwr;have hps:=psum_le (lst S I) j;have hps2:psum (lst S I) j<=tot S I:=hps
   by_cases hlt:j<N
   ·by_cases hjp:j=p
    ·subst hjp
     have hsum:Hid (t=(ow:Int)+(psum (lst S I) (j+1):Int)-(if j<j+1 then (EM.cnt d.l:Int) else 0)):=Wd (by
      rw[psum_succ _ _ hHp.out,hatp.out,if_pos (by omega)];have:=ht.out;rw[if_neg (by omega)] at this;simp only
      omega)
     clear ht hps;go_wp2_with fail
     go_roundw
     case rel=>exact⟨j+1,t,by omega,by go_num,by first|trivial|rfl,hsum,by first|trivial|rfl⟩
     case measure=>simp[intOf];omega
    ·have hjq:j<q.length:=by rw[HN.out];exact hlt
     have hjl:j<(lst S I).length:=by rw[hll'.out];exact hlt
     obtain⟨g',N',cap',hv',hN',hpN2,-,-,-,-,-,-,-,-,-,-,-,-,y0,y1,y2,y3,y4,y5,-⟩:=H3.out.opened hjq;simp only[Value.slice.injEq,Option.some.injEq,Addr.mk.injEq,and_true,true_and] at hv';obtain⟨rfl,rfl,rfl⟩:=hv';have hst:=(HF3.out.at_ j hjq hjl).st;rw[hst] at y5;obtain⟨cj,hcj⟩:∃ cj:Nat,EM.cnt (lst S I)[j].2.l=cj:=⟨_,rfl⟩;rw[hcj] at y5;have hsuc:=psum_succ (lst S I) j hjl;have hsl:psum (lst S I) (j+1)<=tot S I:=psum_le (lst S I) (j+1);rw[hcj] at hsuc;have htt : -2097152<=t/\t<=33554432:=by
      have:=ht.out
      split at this <;> omega
     have hw:IntKind.i64.wrap (t+(cj:Int))=t+(cj:Int):=IntWalk.i64_in _ (by omega)
     have hsum:Hid (t+(cj:Int)=(ow:Int)+(psum (lst S I) (j+1):Int)-(if p<j+1 then (EM.cnt d.l:Int) else 0)):=Wd (by
      rw[hsuc];have:=ht.out
      by_cases e:p<j
      ·rw[if_pos e] at this;rw[if_pos (by omega)];push_cast;omega
      ·rw[if_neg e] at this;rw[if_neg (by omega)];push_cast;omega)
     have hne:¬ (j:Int)=(p:Int):=by omega
     have hne2:((j:Int) != (p:Int))=true:=by simp;omega
     replace hne:=Wd hne;clear ht hps hN' hjq hjl hst hcj hsuc y0 y1 y2 y3 y4;go_wp2_with fail
     go_roundw
     case rel=>exact⟨j+1,t+(cj:Int),by omega,by go_num,by first|trivial|rfl,hsum,by first|trivial|rfl⟩
     case measure=>simp[intOf];omega
   ·obtain rfl:j=N:=by omega
    have htv:t=(ow:Int)+(tot S I:Int)-(EM.cnt d.l:Int):=by
     have:=ht.out;rw[if_pos hpN',psum_all _ _ (by rw[hll'.out];exact Nat.le_refl _)] at this;exact this
    by_cases hgood:tot S I+ow<=B+EM.cnt d.l
    ·have hle:¬ (B:Int)<t:=by omega
     have e1:Hid (wrErr I B S n f s=0):=Wd ((hSS.out _).2 (by simp[hgood]));have e2:Hid (lst (wrS I B S n f s) I=(lst S I).set p (mm,wNd d f s)):=Wd (by rw[show wrS I B S n f s=upd S n (some (wNd d f s)) from by rw[hSt.out];simp[hgood],hset.out]);have R1:=H3.out.set HN.out hpq.out 6 (.slice ao2 nn2 cc2) (by decide) { q[p]'hpq.out with v:=.slice ao2 nn2 cc2 } rfl;have R2:=R1.1.set2 HN.out hpq.out 5 (.int .i64 (ow:Int)) (by decide) (y:={ q[p]'hpq.out with v:=.slice ao2 nn2 cc2,st:=(ow:Int) }) rfl;obtain⟨a7,az,ac⟩:=R1.1.cset hpq.out;obtain⟨f7,fz,fc⟩:=R2.1.cset hpq.out;have f4:_=some (Value.int .i64 d.size):=(fc 4 _ rfl).trans (by rw[HE3.out.sz]);have a5:=ac 5 _ rfl;have d6:w3.cell? ⟨g,p*7+6,none⟩=some (q[p]'hpq.out).v:=by
      obtain⟨g',N',cap',hv',-,-,-,-,-,-,-,-,-,-,-,-,-,-,-,-,-,-,-,-,y6⟩:=H3.out.opened hpq.out;simp only[Value.slice.injEq,Option.some.injEq,Addr.mk.injEq,and_true,true_and] at hv';obtain⟨rfl,-,-⟩:=hv';exact y6
     have K2:=Wd (((Keeps.new (T:=DT) b4.out hlow.out).trans R1.2).trans R2.2);have R2:=Wd R2;replace htv:=Wd htv;replace ht:=Wd ht.out;clear R1 ac fc hgood ht htv hps hps2
     by_cases hz:s.size=0
     ·obtain⟨s1,s2⟩:=xempty hz;have E3:EF w3 { q[p]'hpq.out with v:=.slice ao2 nn2 cc2,st:=(ow:Int) } (mm,wNd d f s):=by
       refine⟨HE3.out.n,HE3.out.kd,HE3.out.lk,HE3.out.op,?_,?_,hX3.out⟩
       ·show (q[p]'hpq.out).sz=if s.size=0 then d.size else max d.size (f+s.size)
        rw[if_pos hz];exact HE3.out.sz
       ·show (ow:Int)=(EM.cnt (EM.wr d.l f s):Int)
        rw[how.out]
      have FF:=Wd (HF3.out.set p E3);have ez:s=⟨#[]⟩:=EM.ba_inj (List.eq_nil_of_length_eq_zero (by rw[EM.list_size];exact hz));replace ez:=Wd ez;replace hz:=Wd hz;clear E3;go_wp2_with fail
      go_ret
      rw[e1.out,e2.out];have K0:Keeps base DT w3 _:=(H3.out.set HN.out hpq.out 6 (.slice ao2 nn2 cc2) (by decide) { q[p]'hpq.out with v:=.slice ao2 nn2 cc2 } rfl).2.trans R2.out.2;exact⟨rfl,⟨_,_,_,_,_,_,R2.out.1,FF.out.keeps K0 (by simp[DT])⟩,K2.out⟩
     ·obtain⟨s1,s2⟩:=xfull hz;obtain⟨mx,hmx⟩:∃ mx,(if d.size<f+(s.size:Int) then f+(s.size:Int) else d.size)=mx:=⟨_,rfl⟩;have hmax:max d.size (f+(s.size:Int))=mx:=by rw[<-hmx];split <;> omega
      have hw:IntKind.i64.wrap (f+(s.size:Int))=f+(s.size:Int):=IntWalk.i64_in _ (by omega);have R3:=R2.out.1.set2 HN.out hpq.out 4 (.int .i64 mx) (by decide) (y:={ q[p]'hpq.out with v:=.slice ao2 nn2 cc2,st:=(ow:Int),sz:=mx }) rfl;have E3:EF w3 { q[p]'hpq.out with v:=.slice ao2 nn2 cc2,st:=(ow:Int),sz:=mx } (mm,wNd d f s):=by
       refine⟨HE3.out.n,HE3.out.kd,HE3.out.lk,HE3.out.op,?_,?_,hX3.out⟩
       ·show mx=if s.size=0 then d.size else max d.size (f+s.size)
        rw[if_neg hz];exact hmax.symm
       ·show (ow:Int)=(EM.cnt (EM.wr d.l f s):Int)
        rw[how.out]
      have FF:=Wd (HF3.out.set p E3);have R3:=Wd R3;replace hz:=Wd hz;clear E3;go_wp2_with fail
      refine UpTo.region (S:=(fun w'=>w'.cell? ⟨rg,7,none⟩=some (.slice (some ⟨g,0,none⟩) j cap)/\w'.cell? ⟨g,p*7+4,none⟩=some (.int .i64 d.size))) (m:=22) (by kernel_rfl) ⟨f7,f4⟩ (fun hHeld=>?_);refine ut (i:=0) (v:=.pointer (some ⟨rg,0,none⟩)) hHeld ?_;refine ut (i:=1) (v:=.pointer (some ⟨rg,0,none⟩)) hHeld ?_;refine ut (i:=2) (v:=.pointer (some ⟨rg,7,none⟩)) hHeld ?_;refine ut (i:=3) (v:=.slice (some ⟨g,0,none⟩) j cap) hHeld ?_;refine ut (i:=4) (v:=.int .i64 (p:Int)) hHeld ?_;refine ut (i:=5) (v:=.pointer (some ⟨rg,0,none⟩)) hHeld ?_;refine ut (i:=6) (v:=.pointer (some ⟨rg,0,none⟩)) hHeld ?_;refine ut (i:=7) (v:=.pointer (some ⟨rg,7,none⟩)) hHeld ?_;refine ut (i:=8) (v:=.slice (some ⟨g,0,none⟩) j cap) hHeld ?_;refine ut (i:=9) (v:=.int .i64 (p:Int)) hHeld ?_;refine ut (i:=10) (v:=.pointer (some ⟨g,p*7,none⟩)) hHeld ?_;refine ut (i:=11) (v:=.pointer (some ⟨g,p*7,none⟩)) hHeld ?_;refine ut (i:=12) (v:=.pointer (some ⟨g,p*7+4,none⟩)) hHeld ?_;refine ut (i:=13) (v:=.int .i64 d.size) hHeld ?_;refine ut (i:=14) (v:=.int .i64 f) hHeld ?_;refine ut (i:=15) (v:=.string s) hHeld ?_;refine ut (i:=16) (v:=.int .i64 (s.size:Int)) hHeld ?_;refine ut (i:=17) (v:=.int .i64 (f+(s.size:Int))) hHeld ?_;refine ut (i:=18) (v:=.int .i64 mx) hHeld ?_;refine UpTo.one (i:=19) (by kernel_rfl) rfl rfl (fun K hK=>?_);go_simp
      refine hK.out _ _ ⟨f7,f4⟩ ?_;clear hK K
      try simp only[Act.put,List.setIfInBounds_toArray,List.set_cons_zero,List.set_cons_succ,List.getElem_toArray,List.getElem_cons_zero,List.getElem_cons_succ]
      refine UpTo.one (i:=20) (by kernel_rfl) rfl rfl (fun K hK=>?_);go_simp
      refine hK.out _ _ ⟨f7,f4⟩ ?_;clear hK K
      try simp only[Act.put,List.setIfInBounds_toArray,List.set_cons_zero,List.set_cons_succ,List.getElem_toArray,List.getElem_cons_zero,List.getElem_cons_succ]
      refine UpTo.one (i:=21) (by kernel_rfl) rfl rfl (fun K hK=>?_);go_simp
      refine hK.out _ _ ⟨f7,f4⟩ ?_;clear hK K
      try simp only[Act.put,List.setIfInBounds_toArray,List.set_cons_zero,List.set_cons_succ,List.getElem_toArray,List.getElem_cons_zero,List.getElem_cons_succ]
      refine UpTo.last (by kernel_rfl) rfl rfl (by kernel_rfl) ?_;go_simp
      go_wp2_with fail
      go_ret
      rw[e1.out,e2.out];have K0:Keeps base DT w3 _:=((H3.out.set HN.out hpq.out 6 (.slice ao2 nn2 cc2) (by decide) { q[p]'hpq.out with v:=.slice ao2 nn2 cc2 } rfl).2.trans R2.out.2).trans R3.out.2;exact⟨rfl,⟨_,_,_,_,_,_,R3.out.1.keep (drew1_keep _),(FF.out.keeps K0 (by simp[DT])).keep (drew1_keep _)⟩,(K2.out.trans R3.out.2).drew1⟩
    ·have hle:(B:Int)<t:=by omega
     have e1:Hid (wrErr I B S n f s=21):=Wd ((hSS.out _).2 (by simp[hgood]));have e2:Hid (wrS I B S n f s=S):=Wd (by rw[hSt.out];simp[hgood]);replace htv:=Wd htv;clear ht hgood hps hps2;go_wp2_with fail
     go_ret
     rw[e1.out,e2.out];exact⟨rfl,⟨_,_,_,_,_,_,H3.out,HF3.out⟩,Keeps.new b4.out hlow.out⟩
 ·have e1:wrErr I B S n f s=E:=(hSS.out _).2 (by rw[if_neg he]);have e2:wrS I B S n f s=S:=by rw[hSt.out,if_neg (fun h=>he h.1)]
  have e1:=Wd e1;have e2:=Wd e2;have b2':=Wd b2;obtain⟨ao2,c2,rfl⟩:=Own.form ho2;have he1:(E != 0)=true:=by simp[he]
  replace he:=Wd he;clear ho2 b2 cA cW;go_wp2_with fail
  go_ret
  rw[e1.out,e2.out];exact⟨rfl,⟨_,_,_,_,_,_,H.out.keep b2'.out,HF.out.keep b2'.out⟩,Keeps.new b2'.out hlow.out⟩
theorem rTr_yes (n s:Int)(d:Nd)(w:World)(hf:Fine I L B k S)(hI:I<=4096)(h:RS base w rg I B L (lst S I))(hs:I64 s)(hS:S n=some d)(hk:d.kind=1) :
 Calls prog 122 #[.pointer (some ⟨rg,0,none⟩),.int .i64 n,.int .i64 s] w (ROut base rg I B L w (tErr S n s) (lst (tS S n s) I)):=by
 have hSS:tErr S n s=if s<0 then 2 else if 1048576<s then 28 else 0:=by unfold tErr askR;rw[hS];simp[hk]
 have hSt:tS S n s=if 0<=s/\s<=1048576 then upd S n (some (tNd d s)) else S:=by unfold tS;rw[hS];simp[hk]
 obtain⟨z3,z4,z5,z6,v,q,hM,hF⟩:=h;obtain⟨p,mm,hnm,hm1,hmI,hp,hat,hbef,hset,hdel⟩:=pl_some hf hS;have hg:=hf.good _ d hS;have hwg:=Wd (fun h0 h1=>t_good (s:=s) hg hk h0 h1);have hpq:p<q.length:=by rw[hF.len];exact hp
 have hEF:=hF.at_ p hpq hp;rw[hat hp] at hEF;have cA:=Wd (rfile_yes n w hI hM hF hp (hat hp) hnm hbef hk);obtain⟨g,N,cap,rfl,hN,hpN,hNc,hcm,hbg,hgr,hgl,hrl,hgf,hrf,c0,c1,c2,c7,x0,x1,x2,x3,x4,x5,x6⟩:=hM.opened hpq;obtain⟨ao,nn,cc,hv,hx1,-⟩:=hEF.v;rw[hv] at x6;have cW:=rCut_any ao nn cc d.l s w.drew hx1 (ok_fit (Int.le_refl _) hg.ok) hs;have h0:(0:Int)<=(p:Int):=by omega
 have hgr2:¬ rg=g:=fun e=>hgr e.symm;have hgr1:¬ g=rg:=hgr;have hlow:=Wd hM.low;have H:=Wd hM;have HF:=Wd hF;have HE:=Wd hEF;have HN:=Wd hN;replace hpq:=Wd hpq;replace hset:=Wd hset;replace hSS:=Wd hSS;replace hSt:=Wd hSt;have hok:=Wd hg.ok;clear hM hF hEF hN hg hat hbef hdel hv hx1 c0 c1 c2 x0 x1 x2 x3 x4 x5 hnm hp hf hgr hgf hrf
 by_cases hs0:s<0
 ·have e1:Hid (tErr S n s=2):=Wd (by rw[hSS.out,if_pos hs0]);have e2:Hid (tS S n s=S):=Wd (by rw[hSt.out,if_neg (by omega)]);clear cW;go_enter func122,ntmps122
  go_wp2_with fail
  refine cA.out.mono ?_;rintro e w1 ⟨rfl,rfl⟩;go_wp2_with fail
  go_ret
  rw[e1.out,e2.out];exact⟨rfl,⟨_,_,_,_,_,_,H.out,HF.out⟩,Keeps.refl _ _ _⟩
 by_cases hs1:1048576<s
 ·have e1:Hid (tErr S n s=28):=Wd (by rw[hSS.out,if_neg hs0,if_pos hs1]);have e2:Hid (tS S n s=S):=Wd (by rw[hSt.out,if_neg (by omega)]);clear cW;go_enter func122,ntmps122
  go_wp2_with fail
  refine cA.out.mono ?_;rintro e w1 ⟨rfl,rfl⟩;go_wp2_with fail
  go_ret
  rw[e1.out,e2.out];exact⟨rfl,⟨_,_,_,_,_,_,H.out,HF.out⟩,Keeps.refl _ _ _⟩
 have e1:Hid (tErr S n s=0):=Wd (by rw[hSS.out,if_neg hs0,if_neg hs1]);have e2:Hid (lst (tS S n s) I=(lst S I).set p (mm,tNd d s)):=Wd (by rw[hSt.out,if_pos ⟨by omega,by omega⟩,hset.out]);obtain⟨hGw,hL2,hok2⟩:=hwg.out (by omega) (by omega);rw[hL2] at cW;obtain⟨cE,hcE⟩:∃ cE,ctE d.l s=cE:=⟨_,rfl⟩;rw[hcE] at cW;replace hcE:=Wd hcE;replace cW:=Wd cW;have hok2:=Wd hok2;obtain⟨ow,how⟩:∃ ow:Nat,EM.cnt (EM.part 0 s d.l)=ow:=⟨_,rfl⟩;have how:=Wd how;clear hL2 hGw;go_enter func122,ntmps122
 go_wp2_with fail
 refine cA.out.mono ?_;rintro e w1 ⟨rfl,rfl⟩;go_wp2_with fail
 refine UpTil.region (S:=(fun w'=>w'.cell? ⟨rg,7,none⟩=some (.slice (some ⟨g,0,none⟩) N cap)/\w'.cell? ⟨g,p*7+6,none⟩=some (.slice ao nn cc))) (m:=20) (by kernel_rfl) ⟨c7,x6⟩ (fun hHeld=>?_);refine ul (i:=0) (v:=.pointer (some ⟨rg,0,none⟩)) hHeld ?_;refine ul (i:=1) (v:=.pointer (some ⟨rg,0,none⟩)) hHeld ?_;refine ul (i:=2) (v:=.pointer (some ⟨rg,7,none⟩)) hHeld ?_;refine ul (i:=3) (v:=.slice (some ⟨g,0,none⟩) N cap) hHeld ?_;refine ul (i:=4) (v:=.int .i64 (p:Int)) hHeld ?_;refine ul (i:=5) (v:=.pointer (some ⟨rg,0,none⟩)) hHeld ?_;refine ul (i:=6) (v:=.pointer (some ⟨rg,0,none⟩)) hHeld ?_;refine ul (i:=7) (v:=.pointer (some ⟨rg,7,none⟩)) hHeld ?_;refine ul (i:=8) (v:=.slice (some ⟨g,0,none⟩) N cap) hHeld ?_;refine ul (i:=9) (v:=.int .i64 (p:Int)) hHeld ?_;refine ul (i:=10) (v:=.pointer (some ⟨g,p*7,none⟩)) hHeld ?_;refine ul (i:=11) (v:=.pointer (some ⟨g,p*7+6,none⟩)) hHeld ?_;refine ul (i:=12) (v:=.slice ao nn cc) hHeld ?_;refine ul (i:=13) (v:=.int .i64 s) hHeld ?_;refine UpTil.one (i:=14) (by kernel_rfl) rfl rfl (fun K hK=>?_);go_simp
 refine cW.out.mono ?_;rintro e w2 ⟨v2,rfl,ho2,b2⟩;have b2':=Wd (Own.bundrew b2);have hX2:=XE.own ho2;have hX2c:=hX2;obtain⟨ao2,nn2,cc2,hv2,-,-⟩:=hX2c;subst hv2;have hX2:=Wd hX2;have H2:=Wd (H.out.keep b2'.out);have fz2:=H2.out.fz hpq.out;have y7:=cellkept b2'.out c7;have y6:=cellkept b2'.out x6;clear ho2 b2;refine hK.out _ _ (fun _=>⟨y7,y6⟩) ?_;clear hK K
 try simp only[Act.put,List.setIfInBounds_toArray,List.set_cons_zero,List.set_cons_succ,List.getElem_toArray,List.getElem_cons_zero,List.getElem_cons_succ]
 refine UpTil.take (i:=15) (v:=.tuple #[.slice ao2 nn2 cc2,.int .i64 cE]) rfl (by kernel_rfl) (by kernel_rfl) (by kernel_rfl) (by kernel_rfl) (by kernel_rfl) (fun _ _ _ h=>h) (Or.inl ⟨by rfl,fun w0 ⟨s1,s2⟩=>?_⟩) ⟨y7,y6⟩ ?_
 ·go_simp
 try simp only[Act.put,List.setIfInBounds_toArray,List.set_cons_zero,List.set_cons_succ,List.getElem_toArray,List.getElem_cons_zero,List.getElem_cons_succ]
 refine UpTil.take (i:=16) (v:=.slice ao2 nn2 cc2) rfl (by kernel_rfl) (by kernel_rfl) (by kernel_rfl) (by kernel_rfl) (by kernel_rfl) (fun _ _ _ h=>h) (Or.inl ⟨by rfl,fun w0 ⟨s1,s2⟩=>?_⟩) ⟨y7,y6⟩ ?_
 ·go_simp
 try simp only[Act.put,List.setIfInBounds_toArray,List.set_cons_zero,List.set_cons_succ,List.getElem_toArray,List.getElem_cons_zero,List.getElem_cons_succ]
 refine UpTil.takePure (i:=17) (v:=.int .i64 cE) rfl (by kernel_rfl) (by kernel_rfl) (by kernel_rfl) (by kernel_rfl) (fun _ _ _ h=>h) (Or.inl ⟨by rfl,fun w0 _=>?_⟩) ⟨y7,y6⟩ ?_
 ·go_simp
 try simp only[Act.put,List.setIfInBounds_toArray,List.set_cons_zero,List.set_cons_succ,List.getElem_toArray,List.getElem_cons_zero,List.getElem_cons_succ]
 refine UpTil.one (i:=18) (by kernel_rfl) rfl rfl (fun K hK=>?_);go_simp
 refine hK.out _ _ (fun _=>⟨y7,y6⟩) ?_;clear hK K
 try simp only[Act.put,List.setIfInBounds_toArray,List.set_cons_zero,List.set_cons_succ,List.getElem_toArray,List.getElem_cons_zero,List.getElem_cons_succ]
 refine UpTil.one (i:=19) (by kernel_rfl) rfl rfl (fun K hK=>?_);go_simp
 refine hK.out _ _ (fun _=>⟨y7,y6⟩) ?_;clear hK K
 try simp only[Act.put,List.setIfInBounds_toArray,List.set_cons_zero,List.set_cons_succ,List.getElem_toArray,List.getElem_cons_zero,List.getElem_cons_succ]
 refine UpTil.last (by kernel_rfl) rfl rfl (by kernel_rfl) ?_;go_simp
 have R1:=H2.out.set HN.out hpq.out 6 (.slice ao2 nn2 cc2) (by decide) { q[p]'hpq.out with v:=.slice ao2 nn2 cc2 } rfl;obtain⟨a7,az,ac⟩:=R1.1.cset hpq.out;have a6:=ac 6 _ rfl;have hXa:=hX2.out.keeps' R1.2;obtain⟨ao',nn',cc',hv',hxsa,-⟩:=hXa;simp only[Value.slice.injEq] at hv';obtain⟨rfl,rfl,rfl⟩:=hv';have cS:=rStored_any ao2 nn2 cc2 (EM.part 0 s d.l) (w2.setCell ⟨g,p*7+6,none⟩ (.slice ao2 nn2 cc2)).drew hxsa (ok_fit (Int.le_refl _) hok2.out);have es1:Go.Proofs.YtfffibepcdlldaaGreat.stV (EM.part 0 s d.l)=(ow:Int):=by unfold Go.Proofs.YtfffibepcdlldaaGreat.stV;rw[if_pos hok2.out,how.out]
 have es2:stE (EM.part 0 s d.l)=0:=by unfold stE;rw[if_pos hok2.out]
 rw[es1,es2] at cS;replace cS:=Wd cS;have R1:=Wd R1;clear ac hxsa es1 es2 cW y7 y6 fz2 c7 x6;go_wp2_with fail
 refine UpTil.region (S:=(fun w'=>w'.cell? ⟨rg,7,none⟩=some (.slice (some ⟨g,0,none⟩) N cap)/\w'.cell? ⟨g,p*7+6,none⟩=some (.slice ao2 nn2 cc2))) (m:=20) (by kernel_rfl) ⟨a7,a6⟩ (fun hHeld=>?_);refine ul (i:=0) (v:=.pointer (some ⟨rg,0,none⟩)) hHeld ?_;refine ul (i:=1) (v:=.pointer (some ⟨rg,0,none⟩)) hHeld ?_;refine ul (i:=2) (v:=.pointer (some ⟨rg,7,none⟩)) hHeld ?_;refine ul (i:=3) (v:=.slice (some ⟨g,0,none⟩) N cap) hHeld ?_;refine ul (i:=4) (v:=.int .i64 (p:Int)) hHeld ?_;refine ul (i:=5) (v:=.pointer (some ⟨rg,0,none⟩)) hHeld ?_;refine ul (i:=6) (v:=.pointer (some ⟨rg,0,none⟩)) hHeld ?_;refine ul (i:=7) (v:=.pointer (some ⟨rg,7,none⟩)) hHeld ?_;refine ul (i:=8) (v:=.slice (some ⟨g,0,none⟩) N cap) hHeld ?_;refine ul (i:=9) (v:=.int .i64 (p:Int)) hHeld ?_;refine ul (i:=10) (v:=.pointer (some ⟨g,p*7,none⟩)) hHeld ?_;refine ul (i:=11) (v:=.pointer (some ⟨g,p*7+6,none⟩)) hHeld ?_;refine ul (i:=12) (v:=.slice ao2 nn2 cc2) hHeld ?_;refine UpTil.one (i:=13) (by kernel_rfl) rfl rfl (fun K hK=>?_);go_simp
 refine cS.out.mono ?_;rintro e w4 ⟨rfl,b4⟩;have b4:=Wd (Own.bundrew b4);have R1k:=Wd (R1.out.1.keep b4.out);have u7:=cellkept b4.out a7;have u6:=cellkept b4.out a6;have fz4:=(R1k.out.cset hpq.out).2.1;have u5:=(R1k.out.cset hpq.out).2.2 5 _ rfl;refine hK.out _ _ (fun _=>⟨u7,u6⟩) ?_;clear hK K
 try simp only[Act.put,List.setIfInBounds_toArray,List.set_cons_zero,List.set_cons_succ,List.getElem_toArray,List.getElem_cons_zero,List.getElem_cons_succ]
 refine UpTil.take (i:=14) (v:=.tuple #[.int .i64 (ow:Int),.int .i64 0]) rfl (by kernel_rfl) (by kernel_rfl) (by kernel_rfl) (by kernel_rfl) (by kernel_rfl) (fun _ _ _ h=>h) (Or.inl ⟨by rfl,fun w0 ⟨s1,s2⟩=>?_⟩) ⟨u7,u6⟩ ?_
 ·go_simp
 try simp only[Act.put,List.setIfInBounds_toArray,List.set_cons_zero,List.set_cons_succ,List.getElem_toArray,List.getElem_cons_zero,List.getElem_cons_succ]
 refine UpTil.take (i:=15) (v:=.int .i64 (ow:Int)) rfl (by kernel_rfl) (by kernel_rfl) (by kernel_rfl) (by kernel_rfl) (by kernel_rfl) (fun _ _ _ h=>h) (Or.inl ⟨by rfl,fun w0 ⟨s1,s2⟩=>?_⟩) ⟨u7,u6⟩ ?_
 ·go_simp
 try simp only[Act.put,List.setIfInBounds_toArray,List.set_cons_zero,List.set_cons_succ,List.getElem_toArray,List.getElem_cons_zero,List.getElem_cons_succ]
 refine UpTil.takePure (i:=16) (v:=.int .i64 0) rfl (by kernel_rfl) (by kernel_rfl) (by kernel_rfl) (by kernel_rfl) (fun _ _ _ h=>h) (Or.inl ⟨by rfl,fun w0 _=>?_⟩) ⟨u7,u6⟩ ?_
 ·go_simp
 try simp only[Act.put,List.setIfInBounds_toArray,List.set_cons_zero,List.set_cons_succ,List.getElem_toArray,List.getElem_cons_zero,List.getElem_cons_succ]
 refine UpTil.one (i:=17) (by kernel_rfl) rfl rfl (fun K hK=>?_);go_simp
 refine hK.out _ _ (fun _=>⟨u7,u6⟩) ?_;clear hK K
 try simp only[Act.put,List.setIfInBounds_toArray,List.set_cons_zero,List.set_cons_succ,List.getElem_toArray,List.getElem_cons_zero,List.getElem_cons_succ]
 refine UpTil.one (i:=18) (by kernel_rfl) rfl rfl (fun K hK=>?_);go_simp
 refine hK.out _ _ (fun _=>⟨u7,u6⟩) ?_;clear hK K
 try simp only[Act.put,List.setIfInBounds_toArray,List.set_cons_zero,List.set_cons_succ,List.getElem_toArray,List.getElem_cons_zero,List.getElem_cons_succ]
 refine UpTil.one (i:=19) (by kernel_rfl) rfl rfl (fun K hK=>?_);go_simp
 refine hK.out _ _ (fun _=>⟨u7,u6⟩) ?_;clear hK K
 try simp only[Act.put,List.setIfInBounds_toArray,List.set_cons_zero,List.set_cons_succ,List.getElem_toArray,List.getElem_cons_zero,List.getElem_cons_succ]
 refine UpTil.last (by kernel_rfl) rfl rfl (by kernel_rfl) ?_;go_simp
 have R3:=R1k.out.set2 HN.out hpq.out 5 (.int .i64 (ow:Int)) (by decide) (y:={ q[p]'hpq.out with v:=.slice ao2 nn2 cc2,st:=(ow:Int) }) rfl;obtain⟨e7,ez,ec⟩:=R3.1.cset hpq.out;have e4:=ec 4 _ rfl;have R5:=R3.1.set2 HN.out hpq.out 4 (.int .i64 s) (by decide) (y:={ q[p]'hpq.out with v:=.slice ao2 nn2 cc2,st:=(ow:Int),sz:=s }) rfl;have KK:=Wd ((((R1.out.2).trans (Keeps.new b4.out R1.out.1.low)).trans R3.2).trans R5.2);have R5:=Wd R5.1;clear R3 ec u7 u6 fz4;go_wp2_with fail
 go_ret
 rw[e1.out,e2.out];have HE2:EF w2 { q[p]'hpq.out with v:=.slice ao2 nn2 cc2,st:=(ow:Int),sz:=s } (mm,tNd d s):=
  ⟨HE.out.n,HE.out.kd,HE.out.lk,HE.out.op,rfl,how.out.symm▸rfl,hX2.out⟩
 have FF:=(HF.out.keep b2'.out).set p HE2;exact⟨rfl,⟨_,_,_,_,_,_,R5.out,FF.keeps KK.out (by simp[DT])⟩,(Keeps.new b2'.out hlow.out).trans KK.out⟩
end
end IN
end Go.Proofs.YtfffibepcdlldaaGreat

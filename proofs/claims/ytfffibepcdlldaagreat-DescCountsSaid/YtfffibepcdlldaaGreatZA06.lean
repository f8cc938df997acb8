/- A part. -/
import Derived.Test.YtfffibepcdlldaaGreatZA05
set_option linter.unusedVariables false
set_option linter.unusedSimpArgs false
set_option maxRecDepth 100000
set_option maxHeartbeats 64000000
open Go.Proofs.Tryz

namespace Go.Proofs.YtfffibepcdlldaaGreat
open Go.ChangeShapes Go.WideShapes Go.ChangeAt Go.RowKit Go.Maps
namespace IN
theorem first_one (p:Value) (k1:Nat) (r1:Int) (n:Int) (b:Nat) (w:World) (hB:Blk w b 42 [.func (.func k1) #[p] #[]])
 (e1:∀ w,(callFunc k1 #[p,.int .i64 n]).run prog w=.ok (.enter k1 #[p,.int .i64 n]) w)
 (h1:∀ W,Below w.heap.size w W->Calls prog k1 #[p,.int .i64 n] W (Ans r1 W)) :
 Calls prog 52 #[.int .i64 n,.slice (some ⟨b,0,none⟩) 1 1] w (Ans (fst [r1]) w):=by
 have c0:=hB.cell (j:=0) rfl;have hlt:=hB.lt;have HB:=Wd hB;have h1:=Wd h1;clear hB;go_enter func52,ntmps52
 go_wp2_with fail
 refine wp_loop_rounds 2 ?_;rw[rounds_succ];go_wp2_with fail
 refine (h1.out w (Below.refl _ _)).mono ?_;rintro e w1 ⟨rfl,b1⟩
 by_cases hr1:r1=0
 ·subst hr1;go_wp2_with fail
  rw[rounds_succ];go_wp2_with fail
  go_ret
  exact⟨rfl,b1⟩
 ·go_wp2_with fail
  go_ret
  exact⟨by simp[fst,hr1],b1⟩
theorem first_two (p:Value) (k1 k2:Nat) (r1 r2:Int) (n:Int) (b:Nat) (w:World) (hB:Blk w b 42 [.func (.func k1) #[p] #[],.func (.func k2) #[p] #[]])
 (e1:∀ w,(callFunc k1 #[p,.int .i64 n]).run prog w=.ok (.enter k1 #[p,.int .i64 n]) w) (e2:∀ w,(callFunc k2 #[p,.int .i64 n]).run prog w=.ok (.enter k2 #[p,.int .i64 n]) w)
 (h1:∀ W,Below w.heap.size w W->Calls prog k1 #[p,.int .i64 n] W (Ans r1 W)) (h2:∀ W,r1=0->Below w.heap.size w W->Calls prog k2 #[p,.int .i64 n] W (Ans r2 W)) :
 Calls prog 52 #[.int .i64 n,.slice (some ⟨b,0,none⟩) 2 2] w (Ans (fst [r1,r2]) w):=by
 have c0:=hB.cell (j:=0) rfl;have hlt:=hB.lt;have HB:=Wd hB;have h1:=Wd h1;have h2:=Wd h2;clear hB;go_enter func52,ntmps52
 go_wp2_with fail
 refine wp_loop_rounds 3 ?_;rw[rounds_succ];go_wp2_with fail
 refine (h1.out w (Below.refl _ _)).mono ?_;rintro e w1 ⟨rfl,b1⟩
 by_cases hr1:r1=0
 ·subst hr1;have c1:=(HB.out.keep b1).cell (j:=1) rfl;have B1:=Wd b1;clear b1;go_wp2_with fail
  rw[rounds_succ];go_wp2_with fail
  refine (h2.out w1 (by simp) B1.out).mono ?_;rintro e w2 ⟨rfl,b2⟩;have b2:=B1.out.trans (b2.mono B1.out.size)
  by_cases hr2:r2=0
  ·subst hr2;go_wp2_with fail
   rw[rounds_succ];go_wp2_with fail
   go_ret
   exact⟨rfl,b2⟩
  ·go_wp2_with fail
   go_ret
   exact⟨by simp[fst,hr2],b2⟩
 ·go_wp2_with fail
  go_ret
  exact⟨by simp[fst,hr1],b1⟩
theorem first_three (p:Value) (k1 k2 k3:Nat) (r1 r2 r3:Int) (n:Int) (b:Nat) (w:World) (hB:Blk w b 42 [.func (.func k1) #[p] #[],.func (.func k2) #[p] #[],.func (.func k3) #[p] #[]])
 (e1:∀ w,(callFunc k1 #[p,.int .i64 n]).run prog w=.ok (.enter k1 #[p,.int .i64 n]) w) (e2:∀ w,(callFunc k2 #[p,.int .i64 n]).run prog w=.ok (.enter k2 #[p,.int .i64 n]) w) (e3:∀ w,(callFunc k3 #[p,.int .i64 n]).run prog w=.ok (.enter k3 #[p,.int .i64 n]) w)
 (h1:∀ W,Below w.heap.size w W->Calls prog k1 #[p,.int .i64 n] W (Ans r1 W)) (h2:∀ W,r1=0->Below w.heap.size w W->Calls prog k2 #[p,.int .i64 n] W (Ans r2 W)) (h3:∀ W,r1=0->r2=0->Below w.heap.size w W->Calls prog k3 #[p,.int .i64 n] W (Ans r3 W)) :
 Calls prog 52 #[.int .i64 n,.slice (some ⟨b,0,none⟩) 3 3] w (Ans (fst [r1,r2,r3]) w):=by
 have c0:=hB.cell (j:=0) rfl;have hlt:=hB.lt;have HB:=Wd hB;have h1:=Wd h1;have h2:=Wd h2;have h3:=Wd h3;clear hB;go_enter func52,ntmps52
 go_wp2_with fail
 refine wp_loop_rounds 4 ?_;rw[rounds_succ];go_wp2_with fail
 refine (h1.out w (Below.refl _ _)).mono ?_;rintro e w1 ⟨rfl,b1⟩
 by_cases hr1:r1=0
 ·subst hr1;have c1:=(HB.out.keep b1).cell (j:=1) rfl;have B1:=Wd b1;clear b1;go_wp2_with fail
  rw[rounds_succ];go_wp2_with fail
  refine (h2.out w1 (by simp) B1.out).mono ?_;rintro e w2 ⟨rfl,b2⟩;have b2:=B1.out.trans (b2.mono B1.out.size)
  by_cases hr2:r2=0
  ·subst hr2;have c2:=(HB.out.keep b2).cell (j:=2) rfl;have B2:=Wd b2;clear b2;go_wp2_with fail
   rw[rounds_succ];go_wp2_with fail
   refine (h3.out w2 (by simp) (by simp) B2.out).mono ?_;rintro e w3 ⟨rfl,b3⟩;have b3:=B2.out.trans (b3.mono B2.out.size)
   by_cases hr3:r3=0
   ·subst hr3;go_wp2_with fail
    rw[rounds_succ];go_wp2_with fail
    go_ret
    exact⟨rfl,b3⟩
   ·go_wp2_with fail
    go_ret
    exact⟨by simp[fst,hr3],b3⟩
  ·go_wp2_with fail
   go_ret
   exact⟨by simp[fst,hr2],b2⟩
 ·go_wp2_with fail
  go_ret
  exact⟨by simp[fst,hr1],b1⟩
theorem first_make (p:Value) (k1 k2 k3:Nat) (r1 r2 r3:Int) (n:Int) (b:Nat) (w:World) (hB:Blk w b 42 [.func (.func k1) #[p] #[],.func (.func k2) #[] #[],.func (.func k3) #[p] #[]])
 (e1:∀ w,(callFunc k1 #[p,.int .i64 n]).run prog w=.ok (.enter k1 #[p,.int .i64 n]) w) (e2:∀ w,(callFunc k2 #[.int .i64 n]).run prog w=.ok (.enter k2 #[.int .i64 n]) w) (e3:∀ w,(callFunc k3 #[p,.int .i64 n]).run prog w=.ok (.enter k3 #[p,.int .i64 n]) w)
 (h1:∀ W,Below w.heap.size w W->Calls prog k1 #[p,.int .i64 n] W (Ans r1 W)) (h2:∀ W,r1=0->Below w.heap.size w W->Calls prog k2 #[.int .i64 n] W (Ans r2 W)) (h3:∀ W,r1=0->r2=0->Below w.heap.size w W->Calls prog k3 #[p,.int .i64 n] W (Ans r3 W)) :
 Calls prog 52 #[.int .i64 n,.slice (some ⟨b,0,none⟩) 3 3] w (Ans (fst [r1,r2,r3]) w):=by
 have c0:=hB.cell (j:=0) rfl;have hlt:=hB.lt;have HB:=Wd hB;have h1:=Wd h1;have h2:=Wd h2;have h3:=Wd h3;clear hB;go_enter func52,ntmps52
 go_wp2_with fail
 refine wp_loop_rounds 4 ?_;rw[rounds_succ];go_wp2_with fail
 refine (h1.out w (Below.refl _ _)).mono ?_;rintro e w1 ⟨rfl,b1⟩
 by_cases hr1:r1=0
 ·subst hr1;have c1:=(HB.out.keep b1).cell (j:=1) rfl;have B1:=Wd b1;clear b1;go_wp2_with fail
  rw[rounds_succ];go_wp2_with fail
  refine (h2.out w1 (by simp) B1.out).mono ?_;rintro e w2 ⟨rfl,b2⟩;have b2:=B1.out.trans (b2.mono B1.out.size)
  by_cases hr2:r2=0
  ·subst hr2;have c2:=(HB.out.keep b2).cell (j:=2) rfl;have B2:=Wd b2;clear b2;go_wp2_with fail
   rw[rounds_succ];go_wp2_with fail
   refine (h3.out w2 (by simp) (by simp) B2.out).mono ?_;rintro e w3 ⟨rfl,b3⟩;have b3:=B2.out.trans (b3.mono B2.out.size)
   by_cases hr3:r3=0
   ·subst hr3;go_wp2_with fail
    rw[rounds_succ];go_wp2_with fail
    go_ret
    exact⟨rfl,b3⟩
   ·go_wp2_with fail
    go_ret
    exact⟨by simp[fst,hr3],b3⟩
  ·go_wp2_with fail
   go_ret
   exact⟨by simp[fst,hr2],b2⟩
 ·go_wp2_with fail
  go_ret
  exact⟨by simp[fst,hr1],b1⟩
def askR (S:Int->Option Nd)(n:Int)(r:Nd->Int):Int:=match S n with|none=>11|some d=>r d
section
variable {base sg mb:Nat}{M:Int->Option Nat}{I L left:Int}{S:Int->Option Nd}
theorem chk_blk (w:World)(l:List Value)(x:Nat)(hx:x=w.heap.size):Blk (w.alloc (.cells l.toArray 42)) x 42 l:=Blk.new w _ l hx
end
end IN
end Go.Proofs.YtfffibepcdlldaaGreat

namespace Go.Proofs.YtfffibepcdlldaaGreat
open Go.ChangeShapes Go.WideShapes Go.ChangeAt Go.RowKit
def rdE (l:List (Int×ByteArray))(s f n:Int):Int:=if EM.ok 0 l=true/\0<=s/\0<=f/\0<=n/\s<=1048576/\ends l<=s then 0 else 2
def rdV (l:List (Int×ByteArray))(s f n:Int):List UInt8:=if rdE l s f n=0 then EM.rd l f (min n (s-f)).toNat else []
theorem Read_in (ao:Option Addr)(n cap:Nat)(l:List (Int×ByteArray))(s f m:Int)(w:World)(h:XS w ao n cap l)(hf:XFit l)(hv:EM.ok 0 l=true)(h1:0<=s)(h2:0<=f)(h3:0<=m)(h4:s<=1048576)(h5:ends l<=s)(h6:I64 f)(h7:I64 m) :
 Calls prog 113 #[.slice ao n cap,.int .i64 s,.int .i64 f,.int .i64 m] w fun e w'=>e=.returned (.tuple #[.string (strOf (EM.rd l f (min m (s-f)).toNat)),.int .i64 0])/\Below w.heap.size w w':=by
 obtain⟨i0,hi0,hz0,hz1,hz2⟩:=info_parts info_byte;obtain⟨-,f2⟩:=h6;obtain⟨-,m2⟩:=h7;have hval:=xvalid_any ao n cap l w h hf;rw[hv] at hval;have hval:=Wd hval;have hen:Hid (∀ w,XS w ao n cap l->Calls prog 154 #[.slice ao n cap,.int .i64 s] w fun e w'=>e=.returned (.bool true)/\Below w.heap.size w w'):=by
  intro w h;have:=endsBy_any ao n cap l s w h hv ⟨h1,h4⟩;rwa[decide_eq_true h5] at this
 have H:=Wd h;obtain⟨A,hA⟩:∃ A,(if s<f then s else f)=A:=⟨_,rfl⟩;have HA:Hid (A=min f s):=by show _=_;rw[<-hA];split <;> omega
 obtain⟨M,hM⟩:∃ M:Nat,(if s-A<m then s-A else m)=(M:Int):=⟨(min m (s-A)).toNat,by have:=HA.out;split <;> omega⟩
 have HM:Hid ((M:Int)=min m (s-A)):=by show _=_;rw[<-hM];split <;> omega
 have hA1:0<=A/\A<=1048576/\A<=s:=by have:=HA.out;omega
 obtain⟨hA1,hA2,hA3⟩:=hA1;have hM1:A+M<=1048576:=by have:=HM.out;omega
 have hpt:=Wd (fun w h=>part_any ao n cap l A (A+M) w h hv (by unfold I64;omega) (by unfold I64;omega));have hwk:=Wd (EM.wk_part hv A (A+M));have hans:Hid (EM.rd (EM.part A (A+M) l) A M=EM.rd l f (min m (s-f)).toNat):=by
  show _=_
  rw[EM.rd_part];have e1:=HA.out;have e2:=HM.out
  by_cases hfs:f<=s
  ·have:A=f:=by omega
   rw[this] at e2 ⊢;have:M=(min m (s-f)).toNat:=by omega
   rw[this]
  ·have m0:M=0:=by omega
   have m1:(min m (s-f)).toNat=0:=by omega
   rw[m0,m1];rfl
 have q1:A+(M:Int)-A=M:=by omega
 have d1:decide (s<0)=false:=by simp;omega
 have d2:decide (f<0)=false:=by simp;omega
 have d3:decide (m<0)=false:=by simp;omega
 have d4:decide (1048576<s)=false:=by simp;omega
 clear hv h h5;go_enter func113,ntmps113
 go_wp2_with fail
 refine hval.out.mono ?_;rintro e w1 ⟨rfl,bel1⟩;go_wp2_with fail
 refine (hen.out _ (H.out.below bel1 (Nat.le_refl _))).mono ?_;rintro e w2 ⟨rfl,bel2⟩;replace bel2:=below_tr bel1 bel2;clear hval hen bel1 d1 d2 d3 d4;go_wp2_with (at_make;apply Hid.out)
 refine Wd ?_;refine wpList_make_full _ rfl _ _ 208 rfl w.heap.size 5 i0 (.int .u8 0) 1 underlying208 hi0 hz0 hz1 .i64 .i64 _ _ M rfl rfl (by first|rfl|exact q1) (by first|rfl|exact q1) (by rw[hz2];omega) (by unfold maxLen;omega) bel2.size ?_;intro w3 hown hgrow;obtain⟨g,hg⟩:∃ g,g=w2.heap.size:=⟨_,rfl⟩;rw[<-hg] at hown ⊢;have hbr:=BR.made M hown;have bel3:=bel2.grown hgrow bel2.size (fun k hk=>by cases hk);have hgw:w.heap.size<=g:=by rw[hg];exact bel2.size
 clear hown hgrow hg bel2;go_wp2_with fail
 refine (hpt.out _ (H.out.below bel3 (Nat.le_refl _))).mono ?_;rintro e w4 ⟨v,rfl,hown,bel4⟩;replace hown:=Own.low (base':=g+1) hbr.lt hown;replace hbr:=hbr.below bel4 hbr.lt;replace bel4:=below_tr bel3 bel4;obtain⟨P,hP⟩:∃ P,EM.part A (A+M) l=P:=⟨_,rfl⟩;rw[hP] at hown hwk hans;have hN:P.length<=1048576:=by
  have:=EM.wk_cnt hwk.out.1 (by omega)
  omega
 obtain⟨N,hN2⟩:∃ N,P.length=N:=⟨_,rfl⟩;rw[hN2] at hown hN;have L:=Wd hN2;obtain⟨ox,cx,rfl⟩:=Own.form hown;have hst:BR w4 g (EM.rd (P.take 0) A M):=by rw[List.take_zero,EM.rd_nil];exact hbr
 clear hpt H hP hN2 bel3 hA hM hbr;go_wp2_with fail
 go_loopw [58] (fun i wr=>∃ (k:Nat),k<=N/\i=.int .i64 k/\Hid (BR wr g (EM.rd (P.take k) A M))/\wr.ownsRow (g+1) 211 2 (.slice ox N cx) N (ecl P)/\Below w.heap.size w wr) (fun i _=>N-(intOf i).toNat)
 case atStart=>exact⟨0,Nat.zero_le _,rfl,hst,hown,bel4⟩
 case round=>
  clear hst hown bel4;obtain⟨k,hk,rfl,hbr,hown,bel⟩:=hrel
  by_cases hlt:k<N
  ·obtain⟨b1,o1,rfl,g1⟩:=(XS_own hown).at_ (by omega);have k1:k<P.length:=by rw[L.out];exact hlt
   obtain⟨e1,e2⟩:=g1 k hlt;have hw:=EM.wk_at hwk.out.1 k k1;have hfin:=hwk.out.2 P[k] (List.getElem_mem k1);have hnx:Hid (P.take (k+1)=P.take k ++ [P[k]]):=EM.take_snoc P k k1;obtain⟨⟨a,d⟩,hx⟩:∃ x,P[k]=x:=⟨_,rfl⟩;simp only[hx,EM.fin] at e1 e2 hw hfin hnx;obtain⟨hd,ha,had,hnone⟩:=hw;have hnone:=Wd hnone;have hrd:=Wd (@EM.rd_lay (P.take k) (a,d) A M);obtain⟨off,hoff⟩:∃ off:Nat,a=A+off:=⟨(a-A).toNat,by omega⟩;subst hoff;have q2:A+(off:Int)-A=off:=by omega
   have q3:(A+(off:Int)-A).toNat=off:=by omega
   have hin:off+d.size<=M:=by omega
   have q4:IntKind.i64.wrap (A+(off:Int)-A)=(off:Int):=by rw[IntKind.wrap_i64];omega
   have q5:IntKind.i64.wrap (off:Int)=(off:Int):=by rw[IntKind.wrap_i64];omega
   have q6:(0:Int)<=(off:Int):=by omega
   have q7:(off:Int)<=(M:Int):=by omega
   have hlen:Hid ((EM.rd (P.take k) A M).length=M):=EM.rd_length _ _ _;have hw1:=XB.new wr (A+off) d rfl;have u0:=hw1.c0;have u1:=hw1.c1;have hne:¬ M=off:=by omega
   have hgr:=hbr.out.lt;have hgne:some wr.heap.size≠some g:=by intro h;have:=Option.some.inj h;omega
   have bel3:=below_al bel (.cells #[.int .i64 (A+off),.string d] 211);have hbr3:=Wd (hbr.out.alloc (.cells #[.int .i64 (A+off),.string d] 211));have hown3:=hown.alloc (.cells #[.int .i64 (A+off),.string d] 211);go_wp2_with fail
   clear hw1 e1 e2 bel hx g1;go_region_held3 (fun w'=>w'.cell? ⟨wr.heap.size,0,none⟩=some (.int .i64 (A+off))/\w'.cell? ⟨wr.heap.size,1,none⟩=some (.string d)) (first|go_keep|skip)
    ((refine step_copy_bs rfl (.tmp 67) (.tmp 69) 208 9 rfl 5 underlying208 byte_one g off (M-off) (M-off) d _ 5 (by rfl) (by rfl) hbr3.out (by omega) (by rw[hlen.out];omega) ?_;intro w3 hbr4 hgrow;have k0:=Own.cellg (Own.undrew hgrow) u0 hgne;have k1:=Own.cellg (Own.undrew hgrow) u1 hgne))
   have hbr5:Hid (BR w3 g (EM.rd (P.take (k+1)) A M)):=by
    have:=hrd.out (by omega) (by simp only[EM.fin];omega) hnone.out;simp only[q3] at this;rw[List.append_assoc] at this
    show BR _ _ _
    rw[hnx.out,this];exact hbr4
   have bel5:=bel3.grown (Own.undrew hgrow) bel3.size (fun k h=>by have:=Option.some.inj h;omega);have hown5:=hown3.kept (Own.undrew hgrow) (.inr (fun h=>by have:=Own.ge hown3 g h;omega));clear hbr hbr3 hbr4 hgrow bel3 u0 u1 k0 k1 hnx hrd hnone hown3;go_wp2_with fail
   go_roundw
   case rel=>exact⟨k+1,by omega,by go_num,hbr5,hown5,bel5⟩
   case measure=>simp[intOf];omega
  ·obtain rfl:k=N:=by omega
   have hbr5:BR wr g (EM.rd P A M):=by
    have:=hbr.out;rwa[List.take_of_length_le (by rw[L.out];exact Nat.le_refl _)] at this
   have hrd:=hbr5.reads (by rw[EM.rd_length];unfold maxLen;omega);rw[EM.rd_length] at hrd;have hcv:=run_conv (P:=prog) 208 5 underlying208 underlying5 9 underlying9 hrd;rw[hans.out] at hcv;clear hbr hbr5 hrd hown;go_wp2_with fail
   go_ret2
   exact⟨rfl,bel⟩
theorem rd_no {l:List (Int×ByteArray)}{s f n:Int}(h:¬ (EM.ok 0 l=true/\0<=s/\0<=f/\0<=n/\s<=1048576/\ends l<=s)):rdV l s f n=[]/\rdE l s f n=2:=by
 have he:rdE l s f n=2:=if_neg h;unfold rdV;rw[he];exact⟨rfl,rfl⟩
theorem Read_any (ao:Option Addr)(n cap:Nat)(l:List (Int×ByteArray))(s f m:Int)(w:World)(h:XS w ao n cap l)(hf:XFit l)(hs:I64 s)(hff:I64 f)(hm:I64 m) :
 Calls prog 113 #[.slice ao n cap,.int .i64 s,.int .i64 f,.int .i64 m] w fun e w'=>e=.returned (.tuple #[.string (strOf (rdV l s f m)),.int .i64 (rdE l s f m)])/\Below w.heap.size w w':=by
 have hval:=xvalid_any ao n cap l w h hf
 cases hv:EM.ok 0 l with
 | false=>
   have HE:=Wd (@rd_no l s f m (by rw[hv];simp));rw[hv] at hval;have hval:=Wd hval;clear hv h;go_enter func113,ntmps113
   go_wp2_with fail
   refine hval.out.mono ?_;rintro e w1 ⟨rfl,bel1⟩;go_wp2_with fail
   go_ret2
   exact⟨by rw[HE.out.1,HE.out.2];rfl,bel1⟩
 | true=>
 by_cases hbad:s<0∨f<0∨m<0∨1048576<s
 ·have HE:=Wd (@rd_no l s f m (by omega));rw[hv] at hval;have hval:=Wd hval;clear hv h
  by_cases c1:s<0
  ·clear hbad;go_enter func113,ntmps113
   go_wp2_with fail
   refine hval.out.mono ?_;rintro e w1 ⟨rfl,bel1⟩;go_wp2_with fail
   go_ret2
   exact⟨by rw[HE.out.1,HE.out.2];rfl,bel1⟩
  by_cases c2:f<0
  ·clear hbad;go_enter func113,ntmps113
   go_wp2_with fail
   refine hval.out.mono ?_;rintro e w1 ⟨rfl,bel1⟩;go_wp2_with fail
   go_ret2
   exact⟨by rw[HE.out.1,HE.out.2];rfl,bel1⟩
  by_cases c3:m<0
  ·clear hbad;go_enter func113,ntmps113
   go_wp2_with fail
   refine hval.out.mono ?_;rintro e w1 ⟨rfl,bel1⟩;go_wp2_with fail
   go_ret2
   exact⟨by rw[HE.out.1,HE.out.2];rfl,bel1⟩
  ·have c4:1048576<s:=by omega
   clear hbad;go_enter func113,ntmps113
   go_wp2_with fail
   refine hval.out.mono ?_;rintro e w1 ⟨rfl,bel1⟩;go_wp2_with fail
   go_ret2
   exact⟨by rw[HE.out.1,HE.out.2];rfl,bel1⟩
 ·by_cases he:ends l<=s
  ·have hh:rdE l s f m=0:=if_pos ⟨hv,by omega,by omega,by omega,by omega,he⟩;have hV:rdV l s f m=EM.rd l f (min m (s-f)).toNat:=if_pos hh;rw[hh,hV];exact Read_in ao n cap l s f m w h hf hv (by omega) (by omega) (by omega) (by omega) he hff hm
  ·have HE:=Wd (@rd_no l s f m (fun h=>he h.2.2.2.2.2));have hen:Hid (∀ w,XS w ao n cap l->Calls prog 154 #[.slice ao n cap,.int .i64 s] w fun e w'=>e=.returned (.bool false)/\Below w.heap.size w w'):=by
    intro w h;have:=endsBy_any ao n cap l s w h hv (by omega);rwa[decide_eq_false he] at this
   have H:=Wd h;rw[hv] at hval;have hval:=Wd hval;have d1:decide (s<0)=false:=by simp;omega
   have d2:decide (f<0)=false:=by simp;omega
   have d3:decide (m<0)=false:=by simp;omega
   have d4:decide (1048576<s)=false:=by simp;omega
   clear hv h hbad he;go_enter func113,ntmps113
   go_wp2_with fail
   refine hval.out.mono ?_;rintro e w1 ⟨rfl,bel1⟩;go_wp2_with fail
   refine (hen.out _ (H.out.below bel1 (Nat.le_refl _))).mono ?_;rintro e w2 ⟨rfl,bel2⟩;go_wp2_with fail
   go_ret2
   exact⟨by rw[HE.out.1,HE.out.2];rfl,below_tr bel1 bel2⟩
end Go.Proofs.YtfffibepcdlldaaGreat

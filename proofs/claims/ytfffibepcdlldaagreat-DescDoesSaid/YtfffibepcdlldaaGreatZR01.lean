/- Contract of the document's own Read. -/
import Derived.Test.YtfffibepcdlldaaGreatZA18
set_option linter.unusedVariables false
set_option linter.unusedSimpArgs false
set_option maxRecDepth 100000
set_option maxHeartbeats 64000000
open Go.Proofs.Tryz

namespace Go.Proofs.YtfffibepcdlldaaGreat
open Go.ChangeShapes Go.WideShapes Go.ChangeAt Go.RowKit
theorem get_more {a:Int}{x:ByteArray}{k:Nat}(hk:k<x.size)(i:Int):EM.get (a,x.extract 0 (k+1)) i=if i=a+k then some x[k] else EM.get (a,x.extract 0 k) i:=by
 unfold EM.get;simp only;rw[EM.cut_list,EM.cut_list,List.drop_zero,List.drop_zero,List.getElem?_take,List.getElem?_take]
 by_cases h:a<=i
 ·rw[if_pos h,if_pos h]
  by_cases he:i=a+k
  ·have e:(i-a).toNat=k:=by omega
   rw[if_pos he,e,if_pos (by omega),List.getElem?_eq_getElem (by rw[EM.list_size];exact hk)]
   rfl
  ·rw[if_neg he]
   by_cases h2:(i-a).toNat<k
   ·rw[if_pos (by omega),if_pos h2]
   ·rw[if_neg h2,if_neg (by omega)]
 ·rw[if_neg h,if_neg h,if_neg (by omega)]
theorem rd_start (P:List (Int×ByteArray))(a:Int)(x:ByteArray)(f:Int)(M:Nat):EM.rd (P ++ [(a,x.extract 0 0)]) f M=EM.rd P f M:=
 EM.rd_ext fun i _ _=>by
  rw[EM.cont_append,EM.cont_one,EM.get_none]
  ·simp
  ·unfold EM.fin;simp only;rw[EM.cut_size _ _ _ (Nat.zero_le _)]
   omega
theorem rd_full (P:List (Int×ByteArray))(a:Int)(x:ByteArray)(f:Int)(M:Nat):EM.rd (P ++ [(a,x.extract 0 x.size)]) f M=EM.rd (P ++ [(a,x)]) f M:=by
 have:x.extract 0 x.size=x:=by
  apply EM.ba_inj
  rw[EM.cut_list,List.drop_zero,List.take_of_length_le (by rw[EM.list_size];exact Nat.le_refl _)]
 rw[this]
theorem rd_byte {P:List (Int×ByteArray)}{a f:Int}{x:ByteArray}{M k j:Nat}(hk:k<x.size)(hP:EM.cont P (a+k)=none)(hj:a+k-f=j)(hM:j<M) :
 EM.rd (P ++ [(a,x.extract 0 (k+1))]) f M=(EM.rd (P ++ [(a,x.extract 0 k)]) f M).set j x[k]:=by
 apply List.ext_getElem?
 intro t;rw[List.getElem?_set]
 by_cases ht:t<M
 ·rw[EM.rd_get _ _ _ _ ht,EM.cont_append,EM.cont_one,get_more hk]
  by_cases he:j=t
  ·rw[if_pos he,EM.rd_length,if_pos hM];have e:f+(t:Int)=a+k:=by omega
   rw[e,if_pos rfl,hP];rfl
  ·rw[if_neg he,if_neg (by omega),EM.rd_get _ _ _ _ ht,EM.cont_append,EM.cont_one]
 ·rw[List.getElem?_eq_none (by rw[EM.rd_length];omega)]
  split
  ·rw[if_neg (by rw[EM.rd_length];omega)]
  ·rw[List.getElem?_eq_none (by rw[EM.rd_length];omega)]
theorem rd_past {P:List (Int×ByteArray)}{a f:Int}{x:ByteArray}{M k:Nat}(hk:k<x.size)(hj:a+k-f<0∨(M:Int)<=a+k-f) :
 EM.rd (P ++ [(a,x.extract 0 (k+1))]) f M=EM.rd (P ++ [(a,x.extract 0 k)]) f M:=
 EM.rd_ext fun i h1 h2=>by
  rw[EM.cont_append,EM.cont_append,EM.cont_one,EM.cont_one,get_more hk,if_neg (by omega)]
theorem BR.set {w:World}{g:Nat}{bs:List UInt8}(h:BR w g bs)(j:Nat)(c:UInt8):BR (w.setCell ⟨g,j,none⟩ (.int .u8 (c.toNat:Int))) g (bs.set j c):=by
 have:=heap_setCell_same w g j (cel bs).toArray 5 (.int .u8 (c.toNat:Int)) h;unfold BR;rw[this]
 congr 2
 apply Array.toList_inj.1
 rw[Array.toList_setIfInBounds];simp[cel,List.map_set]
theorem BR.fz {w:World}{g:Nat}{bs:List UInt8}(h:BR w g bs)(j:Nat):w.frozen? ⟨g,j,none⟩=false:=frozen_of_row w g j (cel bs).toArray 5 h
theorem BR.cell {w:World}{g:Nat}{bs:List UInt8}(h:BR w g bs)(j:Nat)(hj:j<bs.length):w.cell? ⟨g,j,none⟩=some (.int .u8 (bs[j].toNat:Int)):=by
 rw[cell_of_row w g j _ _ _ h];simp[cel,hj]
theorem rRead_in (ao:Option Addr)(n cap:Nat)(l:List (Int×ByteArray))(s f m:Int)(w:World)(h:XS w ao n cap l)(hf:XFit l)(hv:EM.ok 0 l=true)(h1:0<=s)(h2:0<=f)(h3:0<=m)(h4:s<=1048576)(h5:ends l<=s)(hm2:m<=9223372036854775807)(hfs:f<s) :
 Calls prog 126 #[.slice ao n cap,.int .i64 s,.int .i64 f,.int .i64 m] w fun e w'=>e=.returned (.tuple #[.string (strOf (EM.rd l f (min m (s-f)).toNat)),.int .i64 0])/\Below w.heap.size w w':=by
 obtain⟨i0,hi0,hz0,hz1,hz2⟩:=info_parts info_byte;have hval:=XRight_any ao n cap l w h hf;rw[hv] at hval;have hval:=Wd hval;have hmem:=ok_mem hv;have hen:=Wd (fun w h=>rend_any ao n cap l w h (fun x hx=>by have:=hmem x hx;omega));have H:=Wd h;have L:=Wd h.1;have hn:n<=1048576:=by have:=(ok_nums hv).1;have:=h.1;omega
 have hwk:=Wd (EM.ok_wk hv);obtain⟨M,hM⟩:∃ M:Nat,(if s-f<m then s-f else m)=(M:Int):=⟨(min m (s-f)).toNat,by split <;> omega⟩
 have HM:Hid ((M:Int)=min m (s-f)):=by show _=_;rw[<-hM];split <;> omega
 have hM1:(M:Int)<=1048576:=by have:=HM.out;omega
 have hans:Hid ((min m (s-f)).toNat=M):=by have:=HM.out;show _=_;omega
 have d1:decide (s<0)=false:=by simp;omega
 have d2:decide (f<0)=false:=by simp;omega
 have d3:decide (m<0)=false:=by simp;omega
 have d4:decide (1048576<s)=false:=by simp;omega
 have d5:decide (s<ends l)=false:=by simp;omega
 have d6:¬ s<=f:=by omega
 obtain⟨E,hE⟩:∃ E,ends l=E:=⟨_,rfl⟩;rw[hE] at hen d5;clear hv h h5 hmem hE;go_enter func126,ntmps126
 go_wp2_with fail
 refine hval.out.mono ?_;rintro e w1 ⟨rfl,bel1⟩;go_wp2_with fail
 refine (hen.out _ (H.out.below bel1 (Nat.le_refl _))).mono ?_;rintro e w2 ⟨rfl,bel2⟩;replace bel2:=below_tr bel1 bel2;go_wp2_with (at_make;apply Hid.out)
 refine Wd ?_;refine wpList_make_full _ rfl _ _ 208 rfl w.heap.size 5 i0 (.int .u8 0) 1 underlying208 hi0 hz0 hz1 .i64 .i64 _ _ M rfl rfl rfl rfl (by rw[hz2];omega) (by unfold maxLen;omega) bel2.size ?_;intro w3 hown hgrow;obtain⟨g,hg⟩:∃ g,g=w2.heap.size:=⟨_,rfl⟩;rw[<-hg] at hown ⊢;have hbr:=BR.made M hown;rw[<-EM.rd_nil f M] at hbr;have bel3:=bel2.grown hgrow bel2.size (fun k hk=>by cases hk);have hgw:w.heap.size<=g:=by rw[hg];exact bel2.size
 clear hown hgrow hg bel2 hval hen bel1 d1 d2 d3 d4 d5 d6 hM;go_wp2_with fail
 go_loopw [12] (fun i wr=>∃ (k:Nat),k<=n/\i=.int .i64 k/\Hid (BR wr g (EM.rd (l.take k) f M))/\Below w.heap.size w wr) (fun i _=>n-(intOf i).toNat)
 case atStart=>exact⟨0,Nat.zero_le _,rfl,hbr,bel3⟩
 case round=>
  clear hbr bel3;obtain⟨k,hk,rfl,hbr,bel⟩:=hrel
  by_cases hlt:k<n
  ·obtain⟨b1,o1,rfl,g1⟩:=(H.out.below bel (Nat.le_refl _)).at_ (by omega);have k1:k<l.length:=by rw[L.out];exact hlt
   have hw:=EM.wk_at hwk.out k k1;have hnx:Hid (l.take (k+1)=l.take k ++ [l[k]]):=EM.take_snoc l k k1;have hcell:Hid (∀ W,Below w.heap.size w W->W.cell? ⟨b1,o1+k*2,none⟩=some (.int .i64 l[k].1)/\W.cell? ⟨b1,o1+k*2+1,none⟩=some (.string l[k].2)):=by
    intro W hW;obtain⟨b2,o2,hb,g2⟩:=(H.out.below hW (Nat.le_refl _)).at_ (by omega)
    injection hb with hb
    injection hb with q1 q2
    subst q1;subst q2;exact g2 k hlt
   obtain⟨⟨a,x⟩,hx⟩:∃ x,l[k]=x:=⟨_,rfl⟩;simp only[hx,EM.fin] at hw hnx hcell;obtain⟨hd,ha,had,hnone⟩:=hw;have hnone:=Wd hnone;clear hx g1;obtain⟨wa,rfl⟩:∃ wa,wa=wr:=⟨wr,rfl⟩;go_wp2_with fail
   go_loopw [13] (fun i wr=>∃ (j:Nat),j<=x.size/\i=.int .i64 j/\Hid (BR wr g (EM.rd (l.take k ++ [(a,x.extract 0 j)]) f M))/\Below w.heap.size w wr) (fun i _=>x.size-(intOf i).toNat)
   case atStart=>exact⟨0,Nat.zero_le _,rfl,Wd (by rw[rd_start];exact hbr.out),bel⟩
   case round=>
    clear hbr bel;obtain⟨j,hj,rfl,hbr,bel⟩:=hrel;obtain⟨e1,e2⟩:=hcell.out wr bel
    by_cases hjx:j<x.size
    ·by_cases hin:0<=a+(j:Int)-f/\a+(j:Int)-f<M
     ·obtain⟨i1,i2⟩:=hin;obtain⟨t,ht⟩:∃ t:Nat,a+(j:Int)-f=t:=⟨(a+(j:Int)-f).toNat,by omega⟩;have hbr2:Hid (BR (wr.setCell ⟨g,t,none⟩ (.int .u8 (x[j].toNat:Int))) g (EM.rd (l.take k ++ [(a,x.extract 0 (j+1))]) f M)):=by
       show BR _ _ _
       rw[rd_byte hjx (hnone.out _ (by omega)) ht (by omega)];exact hbr.out.set t x[j]
      have ff:=hbr.out.fz t;have cc:=hbr.out.cell t (by rw[EM.rd_length];omega);have bel2:=bel.setCell (p:=⟨g,t,none⟩) hgw (.int .u8 (x[j].toNat:Int));have t2:(t:Int)<M:=by omega
      clear hbr bel;go_wp2_with fail
      go_roundw
      case rel=>exact⟨j+1,by omega,by go_num,hbr2,bel2⟩
      case measure=>simp[intOf];omega
     ·have hbr2:Hid (BR wr g (EM.rd (l.take k ++ [(a,x.extract 0 (j+1))]) f M)):=by
       show BR _ _ _
       rw[rd_past hjx (by omega)];exact hbr.out
      clear hbr
      by_cases hneg:a+(j:Int)-f<0
      ·have hneg2:¬ 0<=a+(j:Int)-f:=by omega
       clear hin;go_wp2_with fail
       go_roundw
       case rel=>exact⟨j+1,by omega,by go_num,hbr2,bel⟩
       case measure=>simp[intOf];omega
      ·have hneg2:0<=a+(j:Int)-f:=by omega
       have hbig:¬ a+(j:Int)-f<(M:Int):=by omega
       clear hin;go_wp2_with fail
       go_roundw
       case rel=>exact⟨j+1,by omega,by go_num,hbr2,bel⟩
       case measure=>simp[intOf];omega
    ·obtain rfl:j=x.size:=by omega
     have hbr2:Hid (BR wr g (EM.rd (l.take (k+1)) f M)):=by
      show BR _ _ _
      rw[hnx.out,<-rd_full];exact hbr.out
     clear hbr;go_wp2_with fail
     go_roundw
     case rel=>exact⟨k+1,by omega,by go_num,hbr2,bel⟩
     case measure=>simp[intOf];omega
  ·obtain rfl:k=n:=by omega
   have hbr5:BR wr g (EM.rd l f M):=by
    have:=hbr.out;rwa[List.take_of_length_le (by rw[L.out];exact Nat.le_refl _)] at this
   have hrd:=hbr5.reads (by rw[EM.rd_length];unfold maxLen;omega);rw[EM.rd_length] at hrd;have hcv:=run_conv (P:=prog) 208 5 underlying208 underlying5 9 underlying9 hrd;clear hbr hbr5 hrd;go_wp2_with fail
   go_ret2
   exact⟨by rw[hans.out];rfl,bel⟩
theorem rRead_any (ao:Option Addr)(n cap:Nat)(l:List (Int×ByteArray))(s f m:Int)(w:World)(h:XS w ao n cap l)(hf:XFit l)(hs:I64 s)(hff:I64 f)(hm:I64 m) :
 Calls prog 126 #[.slice ao n cap,.int .i64 s,.int .i64 f,.int .i64 m] w fun e w'=>e=.returned (.tuple #[.string (strOf (rdV l s f m)),.int .i64 (rdE l s f m)])/\Below w.heap.size w w':=by
 have hval:=XRight_any ao n cap l w h hf
 cases hv:EM.ok 0 l with
 | false=>
   have HE:=Wd (@rd_no l s f m (by rw[hv];simp));rw[hv] at hval;have hval:=Wd hval;clear hv h;go_enter func126,ntmps126
   go_wp2_with fail
   refine hval.out.mono ?_;rintro e w1 ⟨rfl,bel1⟩;go_wp2_with fail
   go_ret2
   exact⟨by rw[HE.out.1,HE.out.2];rfl,bel1⟩
 | true=>
 by_cases hbad:s<0∨f<0∨m<0∨1048576<s
 ·have HE:=Wd (@rd_no l s f m (by omega));rw[hv] at hval;have hval:=Wd hval;clear hv h
  by_cases c1:s<0
  ·clear hbad;go_enter func126,ntmps126
   go_wp2_with fail
   refine hval.out.mono ?_;rintro e w1 ⟨rfl,bel1⟩;go_wp2_with fail
   go_ret2
   exact⟨by rw[HE.out.1,HE.out.2];rfl,bel1⟩
  by_cases c2:f<0
  ·clear hbad;go_enter func126,ntmps126
   go_wp2_with fail
   refine hval.out.mono ?_;rintro e w1 ⟨rfl,bel1⟩;go_wp2_with fail
   go_ret2
   exact⟨by rw[HE.out.1,HE.out.2];rfl,bel1⟩
  by_cases c3:m<0
  ·clear hbad;go_enter func126,ntmps126
   go_wp2_with fail
   refine hval.out.mono ?_;rintro e w1 ⟨rfl,bel1⟩;go_wp2_with fail
   go_ret2
   exact⟨by rw[HE.out.1,HE.out.2];rfl,bel1⟩
  ·have c4:1048576<s:=by omega
   clear hbad;go_enter func126,ntmps126
   go_wp2_with fail
   refine hval.out.mono ?_;rintro e w1 ⟨rfl,bel1⟩;go_wp2_with fail
   go_ret2
   exact⟨by rw[HE.out.1,HE.out.2];rfl,bel1⟩
 ·have hmem:=ok_mem hv;have hen:=Wd (fun w h=>rend_any ao n cap l w h (fun x hx=>by have:=hmem x hx;omega));obtain⟨E,hE⟩:∃ E,ends l=E:=⟨_,rfl⟩;have H:=Wd h
  by_cases he:E<=s
  ·have hh:rdE l s f m=0:=if_pos ⟨hv,by omega,by omega,by omega,by omega,by omega⟩;have hV:rdV l s f m=EM.rd l f (min m (s-f)).toNat:=if_pos hh
   by_cases hfs:f<s
   ·rw[hh,hV];exact rRead_in ao n cap l s f m w h hf hv (by omega) (by omega) (by omega) (by omega) (by omega) hm.2 hfs
   ·have h0:(min m (s-f)).toNat=0:=by omega
    have HE:Hid (rdV l s f m=[]/\rdE l s f m=0):=⟨by rw[hV,h0];rfl,hh⟩;rw[hv] at hval;have hval:=Wd hval;rw[hE] at hen;have d1:decide (s<0)=false:=by simp;omega
    have d2:decide (f<0)=false:=by simp;omega
    have d3:decide (m<0)=false:=by simp;omega
    have d4:decide (1048576<s)=false:=by simp;omega
    have d5:decide (s<E)=false:=by simp;omega
    have d6:s<=f:=by omega
    clear hv h hbad he hh hV hE hmem h0;go_enter func126,ntmps126
    go_wp2_with fail
    refine hval.out.mono ?_;rintro e w1 ⟨rfl,bel1⟩;go_wp2_with fail
    refine (hen.out _ (H.out.below bel1 (Nat.le_refl _))).mono ?_;rintro e w2 ⟨rfl,bel2⟩;go_wp2_with fail
    go_ret2
    exact⟨by rw[HE.out.1,HE.out.2];rfl,below_tr bel1 bel2⟩
  ·have HE:=Wd (@rd_no l s f m (fun h=>he (by have:=h.2.2.2.2.2;omega)));rw[hv] at hval;have hval:=Wd hval;rw[hE] at hen;have d1:decide (s<0)=false:=by simp;omega
   have d2:decide (f<0)=false:=by simp;omega
   have d3:decide (m<0)=false:=by simp;omega
   have d4:decide (1048576<s)=false:=by simp;omega
   have d5:decide (s<E)=true:=by simp;omega
   clear hv h hbad he hE hmem;go_enter func126,ntmps126
   go_wp2_with fail
   refine hval.out.mono ?_;rintro e w1 ⟨rfl,bel1⟩;go_wp2_with fail
   refine (hen.out _ (H.out.below bel1 (Nat.le_refl _))).mono ?_;rintro e w2 ⟨rfl,bel2⟩;go_wp2_with fail
   go_ret2
   exact⟨by rw[HE.out.1,HE.out.2];rfl,below_tr bel1 bel2⟩
end Go.Proofs.YtfffibepcdlldaaGreat

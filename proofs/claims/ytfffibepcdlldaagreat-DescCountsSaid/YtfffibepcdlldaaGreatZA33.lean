/- A part. -/
import Derived.Test.YtfffibepcdlldaaGreatZA32
import Derived.Test.YtfffibepcdlldaaGreatZA08
import Derived.Test.YtfffibepcdlldaaGreatZA26
set_option linter.unusedVariables false
set_option linter.unusedSimpArgs false
set_option maxRecDepth 100000
set_option maxHeartbeats 64000000
open Go.Proofs.Tryz

namespace Go.Proofs.YtfffibepcdlldaaGreat
open Go.ChangeShapes Go.WideShapes Go.ChangeAt Go.RowKit Go.Maps
namespace DC
open IS (I64 upd)
open IN (Keeps lt_of_some)
section
variable {K:Cn}{q:Nat}{A:Am}{S:Sm}{D:NT.Ds}{M:Int->Option Nat}{β:Nat->Nat}{P:Ps}{O:Ou}{R:Ls}{w w':World}{n:Nat}
structure Op (K:Cn)(q:Nat)(S:Sm)(O:Ou)(β:Nat->Nat)(k:Nat)(o:Of)(x:IN.Nd)(w:World):Prop where
 at_:O k=some o
 nd:S o.ino=some x
 kind:x.kind=1
 ino:I64 o.ino
 off:0<=o.off/\o.off<=1048576
 fl:flg o.flags=true
 good:IN.Good K.L q x
 fb:Blk w (β k) 130 [.int .i64 o.ino,.int .i64 o.off,.int .i64 o.flags,.int .i64 o.refs]
 ge:K.base<=β k
theorem DM.op (h:DM K q A S D M β P O R w){pid fd need:Int}{k:Nat}(he:fileR P O pid fd need=.ok k):∃ o x,Op K q S O β k o x w:=by
 obtain⟨L,o,j,h1,h2,h3,h4,h5,h6⟩:=fileR_ok he;obtain⟨x,hx,hk⟩:=h.di.ino k o h5;obtain⟨M1,hps⟩:=h.dp.tw.ps;have hf:=h.di.off k o h5;exact⟨o,x,h5,hx,hk,h.ino_i64 h5,⟨hf.1,hf.2.1⟩,hf.2.2,hps.fn.good _ x hx,(h.dp.fp.fb k o h5).blk,h.dp.fp.ge.2 k (by rw[h5];simp)⟩
theorem DW_seek (hm:MB w K.b q M)(h:DM K q A S D M β P O [] w)(hq:q<59998){k:Nat}{o:Of}(ho:O k=some o){v:Int}(hv:0<=v/\v<=1048576):DQ K q A S D P (updO O k (some { o with off:=v })) w (w.setCell ⟨β k,1,none⟩ (.int .i64 v)):=by
 have hfb:=h.dp.fp.fb k o ho;have hc:=h.cap;exact⟨⟨A,M,β,(MB_file hm hfb (j:=1) (.int .i64 v)).le (by omega),(h.dp.file ho 1 (.int .i64 v) (o':={ o with off:=v }) rfl).more (by omega),h.di.seek ho hv,by omega⟩,UT_file hfb (h.dp.fp.ge.2 k (by rw[ho];simp))⟩
theorem DQ.ahead {S':Sm}{D':NT.Ds}{P':Ps}{O':Ou}{w2:World}(hb:Below w.heap.size w w')(hl:K.base<=w.heap.size)(h:DQ K q A S' D' P' O' w' w2):DQ K q A S' D' P' O' w w2:=⟨h.1,(Keeps.new hb hl).trans h.2⟩
def rdR (S:Sm)(P:Ps)(O:Ou)(pid fd n:Int):(ByteArray×Int)×Ou:=match fileR P O pid fd 1 with
 | .error c=>((ByteArray.empty,c),O)
 | .ok k=>match O k with
   | none=>((ByteArray.empty,0),O)
   | some o=>match S o.ino with
     | none=>((ByteArray.empty,0),O)
     | some x=>if rdE x.l x.size o.off n=0 then ((strOf (rdV x.l x.size o.off n),0),updO O k (some { o with off:=o.off+(strOf (rdV x.l x.size o.off n)).size })) else ((ByteArray.empty,rdE x.l x.size o.off n),O)
theorem rd_bound {l:List (Int×ByteArray)}{s f n:Int}(hs:s<=1048576)(hf:0<=f/\f<=1048576):0<=f+((strOf (rdV l s f n)).size:Int)/\f+((strOf (rdV l s f n)).size:Int)<=1048576:=by
 rw[strOf_size];unfold rdV
 split
 ·rw[EM.rd_length]
  omega
 ·simp
  omega
theorem Read_all (pid fd n:Int)(w:World)(h:DW K q A S D P O w)(hp:I64 pid)(hn:I64 n)(hq:q<59998) :
 Calls prog 26 #[.pointer (some ⟨K.g,0,none⟩),.int .i64 pid,.int .i64 fd,.int .i64 n] w fun e w'=>e=.returned (.tuple #[.string (rdR S P O pid fd n).1.1,.int .i64 (rdR S P O pid fd n).1.2])/\DQ K q A S D P (rdR S P O pid fd n).2 w w':=by
 have h0:=h;obtain⟨M,β,hm,hd⟩:=h;unfold rdR
 cases e:fileR P O pid fd 1 with
 | error c=>
   refine (Read_nay _ pid fd c n w (hd.file_err hm hp e)).mono ?_;rintro e w' ⟨rfl,rfl⟩;exact⟨rfl,DQ.same h0 hq (Below.refl _ _)⟩
 | ok k=>
   have cF:=Wd (hd.file_ok hm hp e);obtain⟨o,x,ho⟩:=hd.op e;simp only[ho.at_,ho.nd];have htb:=hd.dp.tb.blk;have t0:=htb.cell (j:=0) rfl;have o0:=ho.fb.cell (j:=0) rfl;have o1:=ho.fb.cell (j:=1) rfl;obtain⟨M1,hps⟩:=hd.drew1.dp.tw.ps;have cR:=IN.Read_yes o.ino o.off n x w.drew hps ho.ino ⟨by have:=ho.off;omega,by have:=ho.off;omega⟩ hn ho.nd ho.kind;have hbd:=rd_bound (l:=x.l) (n:=n) (s:=x.size) ho.good.size.2 ho.off;have hno:rdE x.l x.size o.off n≠0->strOf (rdV x.l x.size o.off n)=ByteArray.empty:=fun hh=>by
    unfold rdV;rw[if_neg hh]
    rfl
   have hszb:(strOf (rdV x.l x.size o.off n)).size<=1048576:=by have:=ho.off;omega
   generalize rdE x.l x.size o.off n=E at *;generalize strOf (rdV x.l x.size o.off n)=s at *;have hS:Hid (∀ W,Below w.heap.size w W->(W.cell? ⟨K.g,0,none⟩=some (.pointer (some ⟨K.sg,0,none⟩))/\W.cell? ⟨β k,0,none⟩=some (.int .i64 o.ino)/\W.cell? ⟨β k,1,none⟩=some (.int .i64 o.off)/\Below w.heap.size w W)):=Wd fun W hb'=>⟨(htb.keep hb').cell (j:=0) rfl,(ho.fb.keep hb').cell (j:=0) rfl,(ho.fb.keep hb').cell (j:=1) rfl,hb'⟩;have sA:=Wd (hS.out _ (Below.refl w.heap.size w).drew);have cR2:Hid (Calls prog 66 #[.pointer (some ⟨K.sg,0,none⟩),.int .i64 o.ino,.int .i64 o.off,.int .i64 n] w.drew fun e w'=>e=.returned (.tuple #[.string s,.int .i64 E])/\(w'.cell? ⟨K.g,0,none⟩=some (.pointer (some ⟨K.sg,0,none⟩))/\w'.cell? ⟨β k,0,none⟩=some (.int .i64 o.ino)/\w'.cell? ⟨β k,1,none⟩=some (.int .i64 o.off)/\Below w.heap.size w w')):=Wd (cR.mono (by
    rintro e w' ⟨rfl,hb⟩;exact⟨rfl,hS.out _ (bundrew hb)⟩))
   have hbel:Hid (∀ W,(W.cell? ⟨K.g,0,none⟩=some (.pointer (some ⟨K.sg,0,none⟩))/\W.cell? ⟨β k,0,none⟩=some (.int .i64 o.ino)/\W.cell? ⟨β k,1,none⟩=some (.int .i64 o.off)/\Below w.heap.size w W)->Below w.heap.size w W):=Wd fun W hh=>hh.2.2.2;have hfz:Hid (∀ W,Below w.heap.size w W->∀ i,W.frozen? ⟨β k,i,none⟩=false):=Wd fun W hb=>(ho.fb.keep hb).fz;have H:=Wd (And.intro hm hd);have HO:=Wd ho.at_;have H0:=Wd h0;have hoff:=ho.off;have HB:=Wd hbd;have hw:IntKind.i64.wrap (o.off+(s.size:Int))=o.off+(s.size:Int):=by rw[IntKind.wrap_i64];omega
   clear h0 hm hd ho htb hps cR hbd e
   by_cases hE:E=0
   ·subst hE;rw[if_pos rfl];clear hno;go_enter func26,ntmps26
    go_wp2_with fail
    refine cF.out.mono ?_;rintro e w1 ⟨rfl,rfl⟩;go_wp2_with fail
    go_region_held3 (fun w'=>w'.cell? ⟨K.g,0,none⟩=some (.pointer (some ⟨K.sg,0,none⟩))/\w'.cell? ⟨β k,0,none⟩=some (.int .i64 o.ino)/\w'.cell? ⟨β k,1,none⟩=some (.int .i64 o.off)/\Below w1.heap.size w1 w') (with_reducible (first|exact sA.out|assumption))
     (first
      | (go_at_call 66;refine cR2.out.mono ?_;rintro e w3 ⟨rfl,S3⟩))
    all_goals
     have b3:=hbel.out w3 (by with_reducible assumption);have fz:=hfz.out w3 b3;have hfin:=Wd (DQ.ahead b3 H.out.2.low (DW_seek (H.out.1.keep b3) (H.out.2.keep b3) hq HO.out HB.out));clear b3;go_wp2_with fail
     go_ret2
     exact⟨rfl,hfin.out⟩
   ·rw[if_neg hE];have hs:=hno hE;subst hs;have hne:(E != 0)=true:=by simpa using hE
    clear hno hE;go_enter func26,ntmps26
    go_wp2_with fail
    refine cF.out.mono ?_;rintro e w1 ⟨rfl,rfl⟩;go_wp2_with fail
    go_region_held3 (fun w'=>w'.cell? ⟨K.g,0,none⟩=some (.pointer (some ⟨K.sg,0,none⟩))/\w'.cell? ⟨β k,0,none⟩=some (.int .i64 o.ino)/\w'.cell? ⟨β k,1,none⟩=some (.int .i64 o.off)/\Below w1.heap.size w1 w') (with_reducible (first|exact sA.out|assumption))
     (first
      | (go_at_call 66;refine cR2.out.mono ?_;rintro e w3 ⟨rfl,S3⟩))
    all_goals
     have b3:=Wd (hbel.out w3 (by with_reducible assumption));go_wp2_with fail
     go_ret2
     exact⟨rfl,DQ.same H0.out hq b3.out⟩
end
end DC
namespace DC
open IS (I64 upd)
open IN (Keeps lt_of_some)
section
variable {K:Cn}{q:Nat}{A:Am}{S:Sm}{D:NT.Ds}{M:Int->Option Nat}{β:Nat->Nat}{P:Ps}{O:Ou}{R:Ls}{w w':World}{n:Nat}
def skAt (o:Of)(x:IN.Nd)(k:Int):Option Int:=if k=0 then some 0 else if k=1 then some o.off else if k=2 then some x.size else none
theorem start_any (k:Nat)(o:Of)(x:IN.Nd)(wh:Int)(w:World)(h:DM K q A S D M β P O R w)(ho:O k=some o)(hx:S o.ino=some x) :
 Calls prog 68 #[.pointer (some ⟨K.g,0,none⟩),.pointer (some ⟨β k,0,none⟩),.int .i64 wh] w fun e w'=>e=.returned (.tuple #[.int .i64 ((skAt o x wh).getD 0),.int .i64 (if skAt o x wh=none then 2 else 0)])/\Below w.heap.size w w':=by
 unfold skAt
 by_cases h0:wh=0
 ·subst h0;exact (start_set _ _ w).mono (by rintro e w' ⟨rfl,rfl⟩;exact⟨rfl,Below.refl _ _⟩)
 ·by_cases h1:wh=1
  ·subst h1;exact (start_cur _ _ o w (h.dp.fp.fb k o ho)).mono (by rintro e w' ⟨rfl,rfl⟩;exact⟨rfl,Below.refl _ _⟩)
  ·by_cases h2:wh=2
   ·subst h2;exact start_end k o x w h ho hx
   ·rw[if_neg h0,if_neg h1,if_neg h2];exact (start_bad _ _ wh w h0 h1 h2).mono (by rintro e w' ⟨rfl,rfl⟩;exact⟨rfl,Below.refl _ _⟩)
def skR (S:Sm)(P:Ps)(O:Ou)(pid fd by_ wh:Int):(Int×Int)×Ou:=match fileR P O pid fd 0 with
 | .error c=>((0,c),O)
 | .ok k=>match O k with
   | none=>((0,0),O)
   | some o=>match S o.ino with
     | none=>((0,0),O)
     | some x=>match skAt o x wh with
       | none=>((0,2),O)
       | some at_=>if by_ < -at_∨by_>1048576-at_ then ((0,2),O) else ((at_+by_,0),updO O k (some { o with off:=at_+by_ }))
theorem Seek_all (pid fd by_ wh:Int)(w:World)(h:DW K q A S D P O w)(hp:I64 pid)(hn:I64 by_)(hq:q<59998) :
 Calls prog 28 #[.pointer (some ⟨K.g,0,none⟩),.int .i64 pid,.int .i64 fd,.int .i64 by_,.int .i64 wh] w fun e w'=>e=.returned (.tuple #[.int .i64 (skR S P O pid fd by_ wh).1.1,.int .i64 (skR S P O pid fd by_ wh).1.2])/\DQ K q A S D P (skR S P O pid fd by_ wh).2 w w':=by
 have h0:=h;obtain⟨M,β,hm,hd⟩:=h;unfold skR
 cases e:fileR P O pid fd 0 with
 | error c=>
   refine (Seek_nay _ pid fd c by_ wh w (hd.file_err hm hp e)).mono ?_;rintro e w' ⟨rfl,rfl⟩;exact⟨rfl,DQ.same h0 hq (Below.refl _ _)⟩
 | ok k=>
   have cF:=Wd (hd.file_ok hm hp e);obtain⟨o,x,ho⟩:=hd.op e;simp only[ho.at_,ho.nd];have cS:=start_any k o x wh w hd ho.at_ ho.nd;have hat:∀ v,skAt o x wh=some v->0<=v/\v<=1048576:=fun v hv=>by
    unfold skAt at hv;have h1:=ho.off;have h2:=ho.good.size
    split at hv
    ·cases hv;omega
    ·split at hv
     ·cases hv;omega
     ·split at hv
      ·cases hv;omega
      ·cases hv
   cases hsk:skAt o x wh with
   | none=>
     rw[hsk] at cS;simp only[if_true,Option.getD_none] at cS ⊢;have cS:=Wd cS;have H0:=Wd h0;clear h0 hm hd ho hsk hat e;go_enter func28,ntmps28
     go_wp2_with fail
     refine cF.out.mono ?_;rintro e w1 ⟨rfl,rfl⟩;go_wp2_with fail
     refine cS.out.mono ?_;rintro e w2 ⟨rfl,b2⟩;have B2:=Wd b2;clear b2;go_wp2_with fail
     go_ret2
     exact⟨rfl,DQ.same H0.out hq B2.out⟩
   | some v=>
     rw[hsk] at cS;simp only[reduceCtorEq,if_false,Option.getD_some] at cS ⊢;have hv:=hat v hsk;have cS:=Wd cS;have H0:=Wd h0;have H:=Wd (And.intro hm hd);have HO:=Wd ho.at_;have hfz:Hid (∀ W,Below w.heap.size w W->(∀ i,W.frozen? ⟨β k,i,none⟩=false)/\W.cell? ⟨β k,1,none⟩=some (.int .i64 o.off)):=Wd fun W hb=>⟨(ho.fb.keep hb).fz,(ho.fb.keep hb).cell (j:=1) rfl⟩;have hw1:IntKind.i64.wrap (-v) = -v:=by rw[IntKind.wrap_i64];omega
     have hw2:IntKind.i64.wrap (1048576-v)=1048576-v:=by rw[IntKind.wrap_i64];omega
     clear h0 hm hd ho hsk hat e;have hn1:=hn.1;have hn2:=hn.2;clear hn
     by_cases h1:by_ < -v
     ·have d1:decide (by_ < -v)=true:=decide_eq_true h1;rw[if_pos (.inl h1)];clear h1 hfz;go_enter func28,ntmps28
      go_wp2_with fail
      refine cF.out.mono ?_;rintro e w1 ⟨rfl,rfl⟩;go_wp2_with fail
      refine cS.out.mono ?_;rintro e w2 ⟨rfl,b2⟩;have B2:=Wd b2;clear b2;go_wp2_with fail
      go_ret2
      exact⟨rfl,DQ.same H0.out hq B2.out⟩
     ·have d1:decide (by_ < -v)=false:=decide_eq_false h1
      by_cases h2:by_>1048576-v
      ·have d2:decide (by_>1048576-v)=true:=decide_eq_true h2;have d3:decide (1048576-v<by_)=true:=decide_eq_true h2;rw[if_pos (.inr h2)];clear h1 h2 hfz;go_enter func28,ntmps28
       go_wp2_with fail
       refine cF.out.mono ?_;rintro e w1 ⟨rfl,rfl⟩;go_wp2_with fail
       refine cS.out.mono ?_;rintro e w2 ⟨rfl,b2⟩;have B2:=Wd b2;clear b2;go_wp2_with fail
       go_ret2
       exact⟨rfl,DQ.same H0.out hq B2.out⟩
      ·have d2:decide (by_>1048576-v)=false:=decide_eq_false h2;have d3:decide (1048576-v<by_)=false:=decide_eq_false h2;rw[if_neg (by omega)];have HB:Hid (0<=v+by_/\v+by_<=1048576):=Wd ⟨by omega,by omega⟩;have hw3:IntKind.i64.wrap (v+by_)=v+by_:=by rw[IntKind.wrap_i64];omega
       clear h1 h2;go_enter func28,ntmps28
       go_wp2_with fail
       refine cF.out.mono ?_;rintro e w1 ⟨rfl,rfl⟩;go_wp2_with fail
       refine cS.out.mono ?_;rintro e w2 ⟨rfl,b2⟩;obtain⟨fz,c1⟩:=hfz.out w2 b2;have hfin:=Wd (DQ.ahead b2 H.out.2.low (DW_seek (H.out.1.keep b2) (H.out.2.keep b2) hq HO.out HB.out));clear b2;go_wp2_with fail
       go_ret2
       exact⟨rfl,hfin.out⟩
def truR (S:Sm)(P:Ps)(O:Ou)(pid fd n:Int):Int×Sm:=match fileR P O pid fd 2 with
 | .error c=>(c,S)
 | .ok k=>match O k with
   | none=>(0,S)
   | some o=>(IN.tErr S o.ino n,IN.tS S o.ino n)
theorem Trunc_all (pid fd n:Int)(w:World)(h:DW K q A S D P O w)(hp:I64 pid)(hn:I64 n)(hq:q<59998) :
 Calls prog 29 #[.pointer (some ⟨K.g,0,none⟩),.int .i64 pid,.int .i64 fd,.int .i64 n] w fun e w'=>e=.returned (.int .i64 (truR S P O pid fd n).1)/\DQ K q A (truR S P O pid fd n).2 D P O w w':=by
 have h0:=h;obtain⟨M,β,hm,hd⟩:=h;unfold truR
 cases e:fileR P O pid fd 2 with
 | error c=>
   refine (Trunc_nay _ pid fd c n w (hd.file_err hm hp e)).mono ?_;rintro e w' ⟨rfl,rfl⟩;exact⟨rfl,DQ.same h0 hq (Below.refl _ _)⟩
 | ok k=>
   have cF:=Wd (hd.file_ok hm hp e);obtain⟨o,x,ho⟩:=hd.op e;simp only[ho.at_];have htb:=hd.dp.tb.blk;obtain⟨M1,hps⟩:=hd.drew1.dp.tw.ps;have cT:=Wd (IN.Trunc_any o.ino n w.drew hps ho.ino hn);have s1:w.cell? ⟨K.g,0,none⟩=some (.pointer (some ⟨K.sg,0,none⟩)):=htb.cell (j:=0) rfl;have s2:w.cell? ⟨β k,0,none⟩=some (.int .i64 o.ino):=ho.fb.cell (j:=0) rfl;have hc:=hd.cap;have next:=Wd (fun (w3:World) (hp3:∃ M',IN.PS K.base w3 K.sg K.mb M' K.I K.L K.B q (IN.tS S o.ino n)) (k3:Keeps K.base (IN.PT K.mb) w w3)=>
    show (w3.cell? ⟨K.g,0,none⟩=some (.pointer (some ⟨K.sg,0,none⟩))/\w3.cell? ⟨β k,0,none⟩=some (.int .i64 o.ino))/\Hid (DQ K q A (IN.tS S o.ino n) D P O w w3) from
     ⟨⟨(TB_keeps hd.dp.tb k3 (by simp[IN.PT])).cell (j:=0) rfl,Blk.cell (show Blk w3 (β k) 130 _ from k3.block _ _ ho.fb (by simp[IN.PT])) (j:=0) rfl⟩,
      Wd ⟨⟨A,M,β,(hd.dp.mbStore hm (WT_store (K:=K) k3)).le (by omega),(hd.dp.store k3 (Nat.le_refl _) hp3 (hd.dp.tw.ti.alike (NT.alike_t S o.ino n))).more (by omega),hd.di.alike (NT.alike_t S o.ino n),by omega⟩,UT_w A (WT_store (K:=K) k3)⟩⟩)
   clear h0 hm hd ho htb hps e hc;generalize IN.tErr S o.ino n=E at *;generalize IN.tS S o.ino n=S2 at *;go_enter func29,ntmps29
   go_wp2_with fail
   refine cF.out.mono ?_;rintro e w1 ⟨rfl,rfl⟩;go_wp2_with fail
   go_region_held3 (fun w'=>w'.cell? ⟨K.g,0,none⟩=some (.pointer (some ⟨K.sg,0,none⟩))/\w'.cell? ⟨β k,0,none⟩=some (.int .i64 o.ino)) (first|assumption|exact⟨s1,s2⟩|go_keep)
    (first
     | (go_at_call 70;refine cT.out.mono ?_;rintro e w3 ⟨rfl,hp3,k3⟩;obtain⟨S3,hfin⟩:=next.out w3 hp3 k3.undrew;clear hp3 k3))
   all_goals
    go_wp2_with fail
    go_ret
    exact⟨rfl,hfin.out⟩
end
end DC
namespace DC
open IS (I64 upd)
open IN (Keeps lt_of_some)
section
variable {K:Cn}{q:Nat}{A:Am}{S:Sm}{D:NT.Ds}{M:Int->Option Nat}{β:Nat->Nat}{P:Ps}{O:Ou}{R:Ls}{w w':World}{n:Nat}
def wrAt (o:Of)(x:IN.Nd):Int:=if (bits .and .i64 o.flags 32 == 32)=true then x.size else o.off
def wriR (I B:Nat)(S:Sm)(P:Ps)(O:Ou)(pid fd:Int)(s:ByteArray):(Int×Int)×Sm×Ou:=match fileR P O pid fd 2 with
 | .error c=>((0,c),S,O)
 | .ok k=>match O k with
   | none=>((0,0),S,O)
   | some o=>match S o.ino with
     | none=>((0,0),S,O)
     | some x=>if IN.wrErr I B S o.ino (wrAt o x) s=0 then ((s.size,0),IN.wrS I B S o.ino (wrAt o x) s,updO O k (some { o with off:=wrAt o x+s.size })) else ((0,IN.wrErr I B S o.ino (wrAt o x) s),IN.wrS I B S o.ino (wrAt o x) s,O)
theorem wr_bound {I B:Nat}{n f:Int}{s:ByteArray}{x:IN.Nd}(hx:S n=some x)(hk:x.kind=1)(h:IN.wrErr I B S n f s=0):0<=f/\f+(s.size:Int)<=1048576:=by
 unfold IN.wrErr IN.askR at h;rw[hx] at h;simp only[hk,if_true] at h
 split at h
 ·rename_i h1
  unfold wrE at h1
  split at h1
  ·rename_i h2
   split at h1
   ·exact⟨h2.2,by omega⟩
   ·cases h1
  ·cases h1
 ·rename_i h1
  exact absurd h h1
theorem Write_all (pid fd:Int)(s:ByteArray)(w:World)(h:DW K q A S D P O w)(hp:I64 pid)(hs:s.size<=maxLen)(hq:q<59998) :
 Calls prog 27 #[.pointer (some ⟨K.g,0,none⟩),.int .i64 pid,.int .i64 fd,.string s] w fun e w'=>e=.returned (.tuple #[.int .i64 (wriR K.I K.B S P O pid fd s).1.1,.int .i64 (wriR K.I K.B S P O pid fd s).1.2])/\DQ K q A (wriR K.I K.B S P O pid fd s).2.1 D P (wriR K.I K.B S P O pid fd s).2.2 w w':=by
 have h0:=h;obtain⟨M,β,hm,hd⟩:=h;unfold wriR
 cases e:fileR P O pid fd 2 with
 | error c=>
   refine (Write_nay _ pid fd c s w (hd.file_err hm hp e)).mono ?_;rintro e w' ⟨rfl,rfl⟩;exact⟨rfl,DQ.same h0 hq (Below.refl _ _)⟩
 | ok k=>
   have cF:=Wd (hd.file_ok hm hp e);obtain⟨o,x,ho⟩:=hd.op e;simp only[ho.at_,ho.nd];have hc:=hd.cap;have cA:=allows_any (β k) o 32 w ho.fb;have hat:0<=wrAt o x/\wrAt o x<=1048576:=by
    have h1:=ho.off;have h2:=ho.good.size;unfold wrAt
    split <;> omega
   have cS1:=start_any k o x 1 w hd ho.at_ ho.nd;have cS2:=start_any k o x 2 w hd ho.at_ ho.nd;obtain⟨t,ht⟩:∃ t,(bits .and .i64 o.flags 32 == 32)=t:=⟨_,rfl⟩;have hat1:t=false->skAt o x 1=some (wrAt o x):=fun e=>by unfold wrAt;rw[ht,e];rfl
   have hat2:t=true->skAt o x 2=some (wrAt o x):=fun e=>by unfold wrAt;rw[ht,e];rfl
   rw[ht] at cA;have cA:=Wd cA;have hbd:=Wd (fun he=>wr_bound (I:=K.I) (B:=K.B) (S:=S) (f:=wrAt o x) (s:=s) ho.nd ho.kind he);have hS:Hid (∀ W,Below w.heap.size w W->(W.drew.cell? ⟨K.g,0,none⟩=some (.pointer (some ⟨K.sg,0,none⟩))/\W.drew.cell? ⟨β k,0,none⟩=some (.int .i64 o.ino))/\Hid (Calls prog 69 #[.pointer (some ⟨K.sg,0,none⟩),.int .i64 o.ino,.int .i64 (wrAt o x),.string s] W.drew (IN.Out K.base K.sg K.mb K.I K.L K.B q W.drew (IN.wrErr K.I K.B S o.ino (wrAt o x) s) (IN.wrS K.I K.B S o.ino (wrAt o x) s)))):=Wd fun W hb=>by
    obtain⟨M1,hps⟩:=(hd.keep hb).drew1.dp.tw.ps;exact⟨⟨(hd.dp.tb.blk.keep hb).cell (j:=0) rfl,(ho.fb.keep hb).cell (j:=0) rfl⟩,Wd (IN.Write_any o.ino (wrAt o x) s W.drew hps ho.ino ⟨by omega,by omega⟩ hs)⟩
   have next:=Wd (fun (w2 w3:World) (hb:Below w.heap.size w w2) (hp3:∃ M',IN.PS K.base w3 K.sg K.mb M' K.I K.L K.B q (IN.wrS K.I K.B S o.ino (wrAt o x) s)) (k3:Keeps K.base (IN.PT K.mb) w2 w3)=>
    show (w3.cell? ⟨K.g,0,none⟩=some (.pointer (some ⟨K.sg,0,none⟩))/\w3.cell? ⟨β k,0,none⟩=some (.int .i64 o.ino))/\Hid ((MB w3 K.b q M/\DM K q A (IN.wrS K.I K.B S o.ino (wrAt o x) s) D M β P O [] w3)/\Keeps K.base (UT K A) w w3/\Blk w3 (β k) 130 [.int .i64 o.ino,.int .i64 o.off,.int .i64 o.flags,.int .i64 o.refs]) from
     have hd2:=hd.keep hb;have hfb3:Blk w3 (β k) 130 [.int .i64 o.ino,.int .i64 o.off,.int .i64 o.flags,.int .i64 o.refs]:=k3.block _ _ (ho.fb.keep hb) (by simp[IN.PT])
     ⟨⟨(TB_keeps hd2.dp.tb k3 (by simp[IN.PT])).cell (j:=0) rfl,hfb3.cell (j:=0) rfl⟩,
      Wd ⟨⟨hd2.dp.mbStore (hm.keep hb) (WT_store (K:=K) k3),hd2.dp.store k3 (Nat.le_refl _) hp3 (hd.dp.tw.ti.alike (NT.alike_wr K.I K.B S o.ino (wrAt o x) s)),hd.di.alike (NT.alike_wr K.I K.B S o.ino (wrAt o x) s),hc⟩,(Keeps.new hb hd.low).trans (UT_w A (WT_store (K:=K) k3)),hfb3⟩⟩)
   have HO:=Wd ho.at_;have HC:=Wd hc;clear h0 hm hd ho e hc ht;generalize IN.wrErr K.I K.B S o.ino (wrAt o x) s=E at *;generalize IN.wrS K.I K.B S o.ino (wrAt o x) s=S2 at *;generalize wrAt o x=v at *;have fin1:=Wd (fun (w3:World) (hh:(MB w3 K.b q M/\DM K q A S2 D M β P O [] w3)/\Keeps K.base (UT K A) w w3/\Blk w3 (β k) 130 [.int .i64 o.ino,.int .i64 o.off,.int .i64 o.flags,.int .i64 o.refs])=>
    show DQ K q A S2 D P O w w3 from ⟨⟨A,M,β,hh.1.1.le (by omega),hh.1.2.more (by omega) (by omega)⟩,hh.2.1⟩)
   by_cases hE:E=0
   ·have hb:=hbd.out hE;subst hE;rw[if_pos rfl];have hw:IntKind.i64.wrap (v+(s.size:Int))=v+(s.size:Int):=by rw[IntKind.wrap_i64];omega
    have fin0:=Wd (fun (w3:World) (hh:(MB w3 K.b q M/\DM K q A S2 D M β P O [] w3)/\Keeps K.base (UT K A) w w3/\Blk w3 (β k) 130 [.int .i64 o.ino,.int .i64 o.off,.int .i64 o.flags,.int .i64 o.refs])=>
     have hz:=DW_seek hh.1.1 hh.1.2 hq HO.out (v:=v+(s.size:Int)) ⟨by omega,hb.2⟩
     show DQ K q A S2 D P (updO O k (some { o with off:=v+(s.size:Int) })) w (w3.setCell ⟨β k,1,none⟩ (.int .i64 (v+(s.size:Int)))) from ⟨hz.1,hh.2.1.trans hz.2⟩)
    have hsz:(s.size:Int)<=1048576:=by omega
    clear hbd hb
    cases t with
    | false=>
      rw[hat1 rfl] at cS1;simp only[reduceCtorEq,if_false,Option.getD_some] at cS1;have cS:=Wd cS1;clear cS1 cS2 hat1 hat2 hs;go_enter func27,ntmps27
      go_wp2_with fail
      refine cF.out.mono ?_;rintro e w1 ⟨rfl,rfl⟩;go_wp2_with fail
      refine cA.out.mono ?_;rintro e w2 ⟨rfl,rfl⟩;go_wp2_with fail
      refine cS.out.mono ?_;rintro e w2 ⟨rfl,b2⟩;obtain⟨sA,cW⟩:=hS.out w2 b2;have B2:=Wd b2;clear b2;go_wp2_with fail
      go_region_held3 (fun w'=>w'.cell? ⟨K.g,0,none⟩=some (.pointer (some ⟨K.sg,0,none⟩))/\w'.cell? ⟨β k,0,none⟩=some (.int .i64 o.ino)) (with_reducible (first|assumption|exact sA))
       (first
        | (go_at_call 69;refine cW.out.mono ?_;rintro e w3 ⟨rfl,hp3,k3⟩;obtain⟨S3,hfin⟩:=next.out w2 w3 B2.out hp3 k3.undrew;clear hp3 k3))
      all_goals
       have fz:=hfin.out.2.2.fz;have c1:=hfin.out.2.2.cell (j:=1) rfl;have hfin2:=Wd (fin0.out w3 hfin.out);go_wp2_with fail
       go_ret2
       exact⟨rfl,hfin2.out⟩
    | true=>
      rw[hat2 rfl] at cS2;simp only[reduceCtorEq,if_false,Option.getD_some] at cS2;have cS:=Wd cS2;clear cS1 cS2 hat1 hat2 hs;go_enter func27,ntmps27
      go_wp2_with fail
      refine cF.out.mono ?_;rintro e w1 ⟨rfl,rfl⟩;go_wp2_with fail
      refine cA.out.mono ?_;rintro e w2 ⟨rfl,rfl⟩;go_wp2_with fail
      refine cS.out.mono ?_;rintro e w2 ⟨rfl,b2⟩;obtain⟨sA,cW⟩:=hS.out w2 b2;have B2:=Wd b2;clear b2;go_wp2_with fail
      go_region_held3 (fun w'=>w'.cell? ⟨K.g,0,none⟩=some (.pointer (some ⟨K.sg,0,none⟩))/\w'.cell? ⟨β k,0,none⟩=some (.int .i64 o.ino)) (with_reducible (first|assumption|exact sA))
       (first
        | (go_at_call 69;refine cW.out.mono ?_;rintro e w3 ⟨rfl,hp3,k3⟩;obtain⟨S3,hfin⟩:=next.out w2 w3 B2.out hp3 k3.undrew;clear hp3 k3))
      all_goals
       have fz:=hfin.out.2.2.fz;have c1:=hfin.out.2.2.cell (j:=1) rfl;have hfin2:=Wd (fin0.out w3 hfin.out);go_wp2_with fail
       go_ret2
       exact⟨rfl,hfin2.out⟩
   ·rw[if_neg hE];have hne:(E != 0)=true:=by simpa using hE
    clear hs hbd
    cases t with
    | false=>
      rw[hat1 rfl] at cS1;simp only[reduceCtorEq,if_false,Option.getD_some] at cS1;have cS:=Wd cS1;clear cS1 cS2 hat1 hat2 hE;go_enter func27,ntmps27
      go_wp2_with fail
      refine cF.out.mono ?_;rintro e w1 ⟨rfl,rfl⟩;go_wp2_with fail
      refine cA.out.mono ?_;rintro e w2 ⟨rfl,rfl⟩;go_wp2_with fail
      refine cS.out.mono ?_;rintro e w2 ⟨rfl,b2⟩;obtain⟨sA,cW⟩:=hS.out w2 b2;have B2:=Wd b2;clear b2;go_wp2_with fail
      go_region_held3 (fun w'=>w'.cell? ⟨K.g,0,none⟩=some (.pointer (some ⟨K.sg,0,none⟩))/\w'.cell? ⟨β k,0,none⟩=some (.int .i64 o.ino)) (with_reducible (first|assumption|exact sA))
       (first
        | (go_at_call 69;refine cW.out.mono ?_;rintro e w3 ⟨rfl,hp3,k3⟩;obtain⟨S3,hfin⟩:=next.out w2 w3 B2.out hp3 k3.undrew;clear hp3 k3))
      all_goals
       have hfin2:=Wd (fin1.out w3 hfin.out);go_wp2_with fail
       go_ret2
       exact⟨rfl,hfin2.out⟩
    | true=>
      rw[hat2 rfl] at cS2;simp only[reduceCtorEq,if_false,Option.getD_some] at cS2;have cS:=Wd cS2;clear cS1 cS2 hat1 hat2 hE;go_enter func27,ntmps27
      go_wp2_with fail
      refine cF.out.mono ?_;rintro e w1 ⟨rfl,rfl⟩;go_wp2_with fail
      refine cA.out.mono ?_;rintro e w2 ⟨rfl,rfl⟩;go_wp2_with fail
      refine cS.out.mono ?_;rintro e w2 ⟨rfl,b2⟩;obtain⟨sA,cW⟩:=hS.out w2 b2;have B2:=Wd b2;clear b2;go_wp2_with fail
      go_region_held3 (fun w'=>w'.cell? ⟨K.g,0,none⟩=some (.pointer (some ⟨K.sg,0,none⟩))/\w'.cell? ⟨β k,0,none⟩=some (.int .i64 o.ino)) (with_reducible (first|assumption|exact sA))
       (first
        | (go_at_call 69;refine cW.out.mono ?_;rintro e w3 ⟨rfl,hp3,k3⟩;obtain⟨S3,hfin⟩:=next.out w2 w3 B2.out hp3 k3.undrew;clear hp3 k3))
      all_goals
       have hfin2:=Wd (fin1.out w3 hfin.out);go_wp2_with fail
       go_ret2
       exact⟨rfl,hfin2.out⟩
end
end DC
namespace NT
open IN (Keeps)
def TQ (base tg sg mb I L B q c:Nat)(A:Int->Option (Nat×Nat))(S:Int->Option IN.Nd)(D:Ds)(w w':World):Prop:=(∃ A',Sub A A' w/\TW base tg sg mb I L B q c A' S D w')/\Keeps base (FT A mb) w w'
section
variable {base:Nat}{w w':World}{tg sg mb I L B q c:Nat}{A:Int->Option (Nat×Nat)}{D:Ds}{S:Int->Option IN.Nd}
theorem TW.sameQ (h:TW base tg sg mb I L B q c A S D w)(hb:Below w.heap.size w w'):TQ base tg sg mb I L B q (c+1) A S D w w':=⟨⟨A,Sub.refl A w,(h.keep hb).more (by omega)⟩,Keeps.new hb h.tm.low⟩
theorem TW.didQ (h:TW base tg sg mb I L B q c A S D w){r:Int}{S':Int->Option IN.Nd}{D':Ds}{e:Ending}(hd:Did base tg sg mb I L B q A w r S' D' e w')(hti:TI I (c+1) e0 S' D'):e=.returned (.int .i64 r)/\TQ base tg sg mb I L B q (c+1) A S' D' w w':=by
 obtain⟨h1,h2,⟨A',hs,h3⟩,h4⟩:=hd;exact⟨h1,⟨A',hs,h3,h2,hti⟩,h4⟩
theorem Unlink_q (s:ByteArray)(hs:s.size<=maxLen)(w:World)(h:TW base tg sg mb I L B q c A S D w)(hq:q<1000000) :
 Calls prog 97 #[.pointer (some ⟨tg,0,none⟩),.string s] w fun e w'=>e=.returned (.int .i64 (er (unlR D s)))/\TQ base tg sg mb I L B q (c+1) A (unlS S D s).1 (unlS S D s).2 w w':=by
 obtain⟨M,hP⟩:=h.ps;refine (Unlink_any w h.tm hP hq (h.ti.num64 h.lim) s hs).mono ?_;intro e w' hh;unfold unlS
 cases hv:unlR D s with
 | error e1=>
   rw[hv] at hh;exact h.didQ hh (h.ti.more (by omega))
 | ok p=>
   rw[hv] at hh;obtain⟨j,hj,hn,hd⟩:=hh;have ht:tgt D p s=j:=by unfold tgt;rw[hj];rfl
   simp only;rw[ht];exact h.didQ hd ((h.ti.unlink hj hn).more (by omega))
theorem Link_q (s t:ByteArray)(hs:s.size<=maxLen)(ht:t.size<=maxLen)(w:World)(h:TW base tg sg mb I L B q c A S D w)(hc:c<65535) :
 Calls prog 99 #[.pointer (some ⟨tg,0,none⟩),.string s,.string t] w fun e w'=>e=.returned (.int .i64 (lnk L S D s t).1)/\TQ base tg sg mb I L B q (c+1) A (lnk L S D s t).2.1 (lnk L S D s t).2.2 w w':=by
 obtain⟨M,hP⟩:=h.ps;unfold lnk
 by_cases h0:PM.perr s=0
 ·rw[if_neg (fun e=>e h0)]
  by_cases h1:PM.perr t=0
  ·rw[if_neg (fun e=>e h1)];refine (Link_rest s t hs ht w h.tm hP h0 h1 (fun n d hd=>by have:=h.ti.few hc n d hd;omega) (fun n hn=>h.ti.i64 h.lim (h.ti.find_in hn))).mono ?_;intro e w' hh
   cases hf:find D (PM.pN s) (PM.pD s) with
   | error e1=>
     rw[hf] at hh;obtain⟨rfl,hb⟩:=hh;exact⟨rfl,h.sameQ hb⟩
   | ok n=>
     rw[hf] at hh;simp only at hh ⊢
     by_cases hD:D n=none
     ·rw[if_neg (fun e=>e hD)] at hh ⊢
      cases hv:vacant D 1 t with
      | error e1=>
        rw[hv] at hh;obtain⟨rfl,hb⟩:=hh;exact⟨rfl,h.sameQ hb⟩
      | ok p=>
        rw[hv] at hh;simp only at hh ⊢
        by_cases hr:IN.lkR L S n=0
        ·rw[if_pos hr] at hh ⊢;rw[hr] at hh;exact h.didQ hh (h.ti.link hv hD hr)
        ·rw[if_neg hr] at hh ⊢;rw[lkS_no hr] at hh;exact h.didQ hh (h.ti.more (by omega))
     ·rw[if_pos hD] at hh ⊢;obtain⟨rfl,hb⟩:=hh;exact⟨rfl,h.sameQ hb⟩
  ·rw[if_pos h1];refine (Link_parse s t hs ht w h.tm _ h1 (.inr ⟨h0,rfl⟩)).mono ?_;rintro e w' ⟨rfl,hb⟩;exact⟨rfl,h.sameQ hb⟩
 ·rw[if_pos h0];refine (Link_parse s t hs ht w h.tm _ h0 (.inl rfl)).mono ?_;rintro e w' ⟨rfl,hb⟩;exact⟨rfl,h.sameQ hb⟩
theorem MakeF_q (s:ByteArray)(hs:s.size<=maxLen)(w:World)(h:TW base tg sg mb I L B q c A S D w)(hc:c<65535)(hL:1<=L) :
 Calls prog 108 #[.pointer (some ⟨tg,0,none⟩),.string s,.int .i64 1] w fun e w'=>e=.returned (.tuple #[.int .i64 (mk I S D s 1).1.1,.int .i64 (mk I S D s 1).1.2])/\TQ base tg sg mb I L B q (c+1) A (mk I S D s 1).2.1 (mk I S D s 1).2.2 w w':=by
 obtain⟨M,hP⟩:=h.ps;unfold mk;have hk:(1:Int)=1∨(1:Int)=2:=.inl rfl;rw[if_pos hk]
 by_cases h0:PM.perr s=0
 ·rw[if_neg (fun e=>e h0)]
  cases hv:vacant D 1 s with
  | error e1=>
    refine (Make_vac s hs 1 w h.tm hk h0 e1 hv (vacant_er hv)).mono ?_;rintro e w' ⟨rfl,hb⟩;exact⟨rfl,h.sameQ hb⟩
  | ok p=>
    simp only
    by_cases hr:IN.mkR I S 1=0
    ·rw[if_neg (fun e=>e hr)];obtain⟨n,hnI,hlow⟩:=mkR_low hk hr;rw[lowN_eq hlow];obtain⟨⟨dp,hdp⟩,-⟩:=vac_ok hv;have hfew:dp.l.length<65536:=by have:=h.ti.few hc p dp hdp;omega
     have hn1:1<=(n:Int):=by have:=hlow.1;omega
     have hn2:(n:Int)<=(I:Int):=by omega
     refine (Make_file I L B q M S s hs w h.tm hP h0 p hv dp hdp hfew n hr hlow hnI hL (h.ti.noD hlow.2.1)).mono ?_;rintro e w' ⟨rfl,h1,h2,h3⟩;exact⟨rfl,⟨A,Sub.refl A w,h2,h1,h.ti.mkFile hv hlow.2.1 hn1 hn2⟩,h3⟩
    ·rw[if_pos hr];refine (Make_full I L B q M S s hs 1 w h.tm hP hk h0 p hv _ rfl hr).mono ?_;rintro e w' ⟨rfl,hb⟩;exact⟨rfl,h.sameQ hb⟩
 ·rw[if_pos h0];refine (Make_parse s hs 1 w h.tm hk h0).mono ?_;rintro e w' ⟨rfl,hb⟩;exact⟨rfl,h.sameQ hb⟩
end
end NT
namespace DC
open IS (I64 upd)
open IN (Keeps lt_of_some)
section
variable {K:Cn}{q:Nat}{A:Am}{S:Sm}{D:NT.Ds}{M:Int->Option Nat}{β:Nat->Nat}{P:Ps}{O:Ou}{R:Ls}{w w':World}{n:Nat}
def rdyR (S:Sm)(n fl:Int):Int×Sm:=if (bits .and .i64 fl 8 != 0)=true then (12,S) else match S n with
 | none=>(11,S)
 | some x=>if x.kind=2 then (14,S) else if (bits .and .i64 fl 16 != 0)=true then (0,IN.tS S n 0) else (0,S)
theorem rdy_alike (S:Sm)(n fl:Int):NT.Alike S (rdyR S n fl).2:=by
 unfold rdyR
 split
 ·exact NT.Alike.refl S
 ·split
  ·exact NT.Alike.refl S
  ·split
   ·exact NT.Alike.refl S
   ·split
    ·exact NT.alike_t S n 0
    ·exact NT.Alike.refl S
theorem ready_any (n fl:Int)(x:IN.Nd)(w:World)(h:DM K q A S D M β P O R w)(hm:MB w K.b q M)(hx:S n=some x) :
 Calls prog 109 #[.pointer (some ⟨K.g,0,none⟩),.int .i64 n,.int .i64 fl] w fun e w'=>e=.returned (.int .i64 (rdyR S n fl).1)/\(DM K q A (rdyR S n fl).2 D M β P O R w'/\MB w' K.b q M)/\Keeps K.base (NT.FT A K.mb) w w':=by
 have hn:I64 n:=h.dp.tw.ti.i64 h.dp.tw.lim (by rw[hx];simp);have hsame:∀ w',Below w.heap.size w w'->(DM K q A S D M β P O R w'/\MB w' K.b q M)/\Keeps K.base (NT.FT A K.mb) w w':=fun w' hb=>⟨⟨h.keep hb,hm.keep hb⟩,Keeps.new hb h.low⟩;unfold rdyR
 cases t8:(bits .and .i64 fl 8 != 0) with
 | true=>
   rw[if_pos rfl];have hfin:=Wd (hsame w (Below.refl _ _));clear h hm hx hsame;go_enter func109,ntmps109
   go_wp2_with fail
   go_ret
   exact⟨rfl,hfin.out⟩
 | false=>
   rw[if_neg (by simp),hx];simp only;obtain⟨M1,hps⟩:=h.dp.tw.ps;have cS:=IN.Stat_any n w hps hn;unfold IN.stV IN.opR IN.askR at cS;rw[hx] at cS;have cS:=Wd (show Calls prog 33 #[.pointer (some ⟨K.sg,0,none⟩),.int .i64 n] w fun e w'=>e=.returned (.tuple #[.agg #[.int .i64 n,.int .i64 x.kind,.int .i64 x.links,.int .i64 x.opens,.int .i64 x.size,.int .i64 (EM.cnt x.l:Int)],.int .i64 0])/\Below w.heap.size w w' from cS);have t0:=h.dp.tb.blk.cell (j:=0) rfl;have htb:=Wd h.dp.tb.blk
   by_cases hk:x.kind=2
   ·rw[if_pos hk];rw[hk] at cS;have hfin:=Wd hsame;clear h hm hx hsame hps hk;go_enter func109,ntmps109
    go_wp2_with fail
    refine cS.out.mono ?_;rintro e w1 ⟨rfl,b1⟩;have B1:=Wd b1;clear b1;go_wp2_with fail
    go_ret
    exact⟨rfl,hfin.out _ (B1.out.alloc B1.out.size _)⟩
   ·rw[if_neg hk];have hkd:(x.kind == 2)=false:=by simpa using hk
    cases t16:(bits .and .i64 fl 16 != 0) with
    | false=>
      rw[if_neg (by simp)];have hfin:=Wd hsame;clear h hm hx hsame hps hk;go_enter func109,ntmps109
      go_wp2_with fail
      refine cS.out.mono ?_;rintro e w1 ⟨rfl,b1⟩;have B1:=Wd b1;clear b1;go_wp2_with fail
      go_ret
      exact⟨rfl,hfin.out _ (B1.out.alloc B1.out.size _)⟩
    | true=>
      rw[if_pos rfl];have hk1:x.kind=1:=by
       have:=(hps.fn.good n x hx).kind
       omega
      have hE:IN.tErr S n 0=0:=by
       unfold IN.tErr IN.askR;rw[hx];simp[hk1]
      have cT:Hid (∀ W,Below w.heap.size w W->W.cell? ⟨K.g,0,none⟩=some (.pointer (some ⟨K.sg,0,none⟩))/\Hid (Calls prog 70 #[.pointer (some ⟨K.sg,0,none⟩),.int .i64 n,.int .i64 0] W fun e w3=>e=.returned (.int .i64 0)/\(DM K q A (IN.tS S n 0) D M β P O R w3/\MB w3 K.b q M)/\Keeps K.base (NT.FT A K.mb) w w3)):=Wd fun W hb=>by
       have hd2:=h.keep hb;obtain⟨M2,hp2⟩:=hd2.dp.tw.ps;refine⟨hd2.dp.tb.blk.cell (j:=0) rfl,Wd ((IN.Trunc_any n 0 W hp2 hn ⟨by decide,by decide⟩).mono ?_)⟩;rintro e w3 ⟨rfl,hp3,k3⟩;rw[hE];exact⟨rfl,⟨⟨hd2.dp.store k3 (Nat.le_refl _) hp3 (h.dp.tw.ti.alike (NT.alike_t S n 0)),h.di.alike (NT.alike_t S n 0),h.cap⟩,hd2.dp.mbStore (hm.keep hb) (WT_store (K:=K) k3)⟩,(Keeps.new hb h.low).trans (NT.keeps_store k3)⟩
      clear h hm hx hsame hps hk hk1 hE;go_enter func109,ntmps109
      go_wp2_with fail
      refine cS.out.mono ?_;rintro e w1 ⟨rfl,b1⟩;obtain⟨a0,cT1⟩:=cT.out _ (b1.alloc b1.size (.cells #[.int .i64 n,.int .i64 x.kind,.int .i64 x.links,.int .i64 x.opens,.int .i64 x.size,.int .i64 (EM.cnt x.l:Int)] 65));have a1:=(cT.out _ b1).1;clear b1;go_wp2_with fail
      refine cT1.out.mono ?_;rintro e w3 ⟨rfl,h3⟩;have H3:=Wd h3;clear h3;go_wp2_with fail
      go_ret
      exact⟨rfl,H3.out⟩
noncomputable def reaR (I:Nat) (S:Sm) (D:NT.Ds) (p:ByteArray) (fl:Int):(Int×Int)×Sm×NT.Ds:=match NT.findR D p with
 | .error e=>if e=11/\(bits .and .i64 fl 4 != 0)=true then NT.mk I S D p 1 else ((0,e),S,D)
 | .ok n=>if (rdyR S n fl).1=0 then ((n,0),(rdyR S n fl).2,D) else ((0,(rdyR S n fl).1),(rdyR S n fl).2,D)
theorem DI.made {f o:Nat}(h:DI f o S P O R)(I:Nat)(D:NT.Ds)(p:ByteArray):DI f o (NT.mk I S D p 1).2.1 P O R:=by
 unfold NT.mk;rw[if_pos (.inl rfl)]
 split
 ·exact h
 ·split
  ·exact h
  ·split
   ·exact h
   ·rename_i hr
    obtain⟨n,-,hlow⟩:=NT.mkR_low (.inl rfl) (Decidable.not_not.1 hr);rw[NT.lowN_eq hlow];exact h.make hlow.2.1
theorem find_ne {D:NT.Ds}{p:ByteArray}{e:Int}(h:NT.findR D p=.error e):e≠0:=by
 unfold NT.findR at h
 split at h
 ·exact NT.find_er h
 ·rename_i h0
  cases h
  exact h0
theorem reach_any (p:ByteArray)(hp:p.size<=maxLen)(fl:Int)(w:World)(h:DM K q A S D M β P O [] w)(hm:MB w K.b q M)(hq:q<59999) :
 Calls prog 61 #[.pointer (some ⟨K.g,0,none⟩),.string p,.int .i64 fl] w fun e w'=>e=.returned (.tuple #[.int .i64 (reaR K.I S D p fl).1.1,.int .i64 (reaR K.I S D p fl).1.2])/\(∃ A',DM K (q+1) A' (reaR K.I S D p fl).2.1 (reaR K.I S D p fl).2.2 M β P O [] w')/\MB w' K.b (q+1) M/\Keeps K.base (NT.FT A K.mb) w w':=by
 have hcap:=h.cap;have cF:=NT.Find_all p hp w h.dp.tw;have t1:=h.dp.tb.blk.cell (j:=1) rfl;have hcell:=Wd (fun (W:World) (hb:Below w.heap.size w W)=>(h.dp.tb.blk.keep hb).cell (j:=1) rfl);have hsame:=Wd (fun (W:World) (hb:Below w.heap.size w W)=>(show (∃ A',DM K (q+1) A' S D M β P O [] W)/\MB W K.b (q+1) M/\Keeps K.base (NT.FT A K.mb) w W from ⟨⟨A,(h.keep hb).more (by omega) (by omega)⟩,(hm.keep hb).le (by omega),Keeps.new hb h.low⟩));unfold reaR
 cases hf:NT.findR D p with
 | error e=>
   have he:=find_ne hf;rw[hf] at cF;simp only[NT.nu,NT.er] at cF;have cF:=Wd cF;simp only
   by_cases hmk:e=11/\(bits .and .i64 fl 4 != 0)=true
   ·rw[if_pos hmk];obtain⟨rfl,t4⟩:=hmk;have hlt:=hm.lt;have cM:=Wd (fun (W:World) (hb:Below w.heap.size w W)=>by
     have h2:=h.keep hb;exact (NT.MakeF_q p hp W h2.dp.tw (by omega) hcap.2.2.2.2.1).mono (R':=fun e w'=>e=.returned (.tuple #[.int .i64 (NT.mk K.I S D p 1).1.1,.int .i64 (NT.mk K.I S D p 1).1.2])/\((∃ A',DM K (q+1) A' (NT.mk K.I S D p 1).2.1 (NT.mk K.I S D p 1).2.2 M β P O [] w')/\MB w' K.b (q+1) M/\Keeps K.base (NT.FT A K.mb) w w')) fun e w' hh=>by
      obtain⟨rfl,⟨A',hs,ht⟩,hk⟩:=hh;exact⟨rfl,⟨A',h2.dp.tree hk hs (TW_q ht (by omega)) (Nat.lt_of_lt_of_le hlt hb.size),h.di.made K.I D p,by omega⟩,(h2.dp.mbTree (hm.keep hb) hk).le (by omega),(Keeps.new hb h.low).trans hk⟩)
    clear h hm hsame hf he;generalize NT.mk K.I S D p 1=r at *;go_enter func61,ntmps61
    go_wp2_with fail
    refine cF.out.mono ?_;rintro e w1 ⟨rfl,b1⟩;have a1:=hcell.out w1 b1;have cM1:=Wd (cM.out w1 b1);clear b1;go_wp2_with fail
    refine cM1.out.mono ?_;rintro e w2 ⟨rfl,h2⟩;have H2:=Wd h2;clear h2;go_wp2_with fail
    go_ret2
    exact⟨rfl,H2.out⟩
   ·rw[if_neg hmk];have he0:(e == 0)=false:=by simpa using he
    have he1:(e != 0)=true:=by simpa using he
    obtain⟨t4,h4⟩:∃ t4,(bits .and .i64 fl 4 != 0)=t4:=⟨_,rfl⟩;obtain⟨t11,h11⟩:∃ t11,(e == 11)=t11:=⟨_,rfl⟩;have hno:¬ (t11=true/\t4=true):=fun hh=>hmk ⟨by rw[hh.1] at h11;simpa using h11,by rw[h4];exact hh.2⟩;clear h hm hf he hmk hcell
    cases t11 <;> cases t4 <;> first
     | exact absurd ⟨rfl,rfl⟩ hno
     | (clear hno
        go_enter func61,ntmps61
        go_wp2_with fail
        refine cF.out.mono ?_;rintro e w1 ⟨rfl,b1⟩;have B1:=Wd b1;clear b1;go_wp2_with fail
        go_ret2
        exact⟨rfl,hsame.out _ B1.out⟩)
 | ok m=>
   rw[hf] at cF;simp only[NT.nu,NT.er] at cF;have cF:=Wd cF;simp only;have hS:S m≠none:=by
    unfold NT.findR at hf
    split at hf
    ·exact h.dp.tw.ti.find_in hf
    ·cases hf
   obtain⟨x,hx⟩:=Option.ne_none_iff_exists'.1 hS;have cR:=Wd (fun (W:World) (hb:Below w.heap.size w W)=>(ready_any m fl x W (h.keep hb) (hm.keep hb) hx).mono (R':=fun e w'=>e=.returned (.int .i64 (rdyR S m fl).1)/\((∃ A',DM K (q+1) A' (rdyR S m fl).2 D M β P O [] w')/\MB w' K.b (q+1) M/\Keeps K.base (NT.FT A K.mb) w w')) fun e w' hh=>by
    obtain⟨rfl,⟨h1,h2⟩,h3⟩:=hh;exact⟨rfl,⟨A,h1.more (by omega) (by omega)⟩,h2.le (by omega),(Keeps.new hb h.low).trans h3⟩)
   clear h hm hsame hf hS hx;generalize rdyR S m fl=r at *;obtain⟨e,S2⟩:=r;simp only at cR ⊢
   by_cases he:e=0
   ·subst he;rw[if_pos rfl];go_enter func61,ntmps61
    go_wp2_with fail
    refine cF.out.mono ?_;rintro e w1 ⟨rfl,b1⟩;have cR1:=Wd (cR.out w1 b1);clear b1;go_wp2_with fail
    refine cR1.out.mono ?_;rintro e w2 ⟨rfl,h2⟩;have H2:=Wd h2;clear h2;go_wp2_with fail
    go_ret2
    exact⟨rfl,H2.out⟩
   ·rw[if_neg he];have he1:(e != 0)=true:=by simpa using he
    clear he;go_enter func61,ntmps61
    go_wp2_with fail
    refine cF.out.mono ?_;rintro e w1 ⟨rfl,b1⟩;have cR1:=Wd (cR.out w1 b1);clear b1;go_wp2_with fail
    refine cR1.out.mono ?_;rintro e w2 ⟨rfl,h2⟩;have H2:=Wd h2;clear h2;go_wp2_with fail
    go_ret2
    exact⟨rfl,H2.out⟩
end
end DC
namespace DC
open IS (I64 upd)
open IN (Keeps lt_of_some)
section
variable {K:Cn}{q:Nat}{A:Am}{S:Sm}{D:NT.Ds}{M:Int->Option Nat}{β:Nat->Nat}{P:Ps}{O:Ou}{R:Ls}{w w':World}{n:Nat}
noncomputable def opnR (I files opens:Nat) (S:Sm) (D:NT.Ds) (P:Ps) (O:Ou) (pid:Int) (p:ByteArray) (fl:Int):(Int×Int)×Sm×NT.Ds×Ps×Ou:=match lk P pid with
 | none=>((0,19),S,D,P,O)
 | some L=>if flg fl=false then ((0,2),S,D,P,O) else if fx L<files then (if cntO O opens<opens then (if (reaR I S D p fl).1.2=0 then (((fx L:Nat),0),IN.opS (reaR I S D p fl).2.1 (reaR I S D p fl).1.1,(reaR I S D p fl).2.2,setP P pid (L.set (fx L) (some (lowO O opens))),updO O (lowO O opens) (some ⟨(reaR I S D p fl).1.1,0,fl,1⟩)) else ((0,(reaR I S D p fl).1.2),(reaR I S D p fl).2.1,(reaR I S D p fl).2.2,P,O)) else ((0,23),S,D,P,O)) else ((0,22),S,D,P,O)
theorem rea_ok {I c:Nat}(ht:NT.TI I c NT.e0 S D)(hg:∀ n x,S n=some x->x.kind=1∨x.kind=2){p:ByteArray}{fl:Int}(h:(reaR I S D p fl).1.2=0):∃ x,(reaR I S D p fl).2.1 (reaR I S D p fl).1.1=some x/\x.kind=1:=by
 unfold reaR at h ⊢
 cases hf:NT.findR D p with
 | error e=>
   rw[hf] at h;simp only at h ⊢
   by_cases hmk:e=11/\(bits .and .i64 fl 4 != 0)=true
   ·rw[if_pos hmk] at h ⊢;unfold NT.mk at h ⊢;rw[if_pos (.inl rfl)] at h ⊢
    split at h
    ·rename_i h0;exact absurd h h0
    ·rename_i h0
     rw[if_neg h0]
     cases hv:NT.vacant D 1 p with
     | error e2=>
       rw[hv] at h;exact absurd h (NT.vacant_er hv)
     | ok m=>
       rw[hv] at h;simp only at h ⊢
       split at h
       ·rename_i h1;exact absurd h h1
       ·rename_i h1
        rw[if_neg h1];exact⟨_,IN.upd_at _ _ _,rfl⟩
   ·rw[if_neg hmk] at h;exact absurd h (find_ne hf)
 | ok n=>
   rw[hf] at h;simp only at h ⊢;have hS:S n≠none:=by
    unfold NT.findR at hf
    split at hf
    ·exact ht.find_in hf
    ·cases hf
   obtain⟨x,hx⟩:=Option.ne_none_iff_exists'.1 hS
   by_cases h0:(rdyR S n fl).1=0
   ·rw[if_pos h0];simp only;have hk:x.kind=1:=by
     unfold rdyR at h0
     split at h0
     ·cases h0
     ·rw[hx] at h0;simp only at h0
      split at h0
      ·cases h0
      ·have:=hg n x hx;omega
    obtain⟨x',h1,h2,-⟩:=(rdy_alike S n fl).fore hx;exact⟨x',h1,by omega⟩
   ·rw[if_neg h0] at h;exact absurd h h0
theorem FP.noRef {base f:Nat}(hd:DI K.files K.opens S P O R){k:Nat}(hk:O k=none):∀ p L,lk P p=some L->some k∉L:=fun p L hl hmem=>by
 obtain⟨j,hj⟩:=List.getElem?_of_mem hmem;obtain⟨o,ho⟩:=hd.has hl hj;rw[hk] at ho;cases ho
theorem open_fin {pid:Int} {g:Nat} {L:Ls} {A':Am} {S3:Sm} {D3:NT.Ds} {m fl:Int} {x:IN.Nd} {w3:World} (hM:M pid=some g) (e1:lk P pid=some L) (hl:L.length=K.files) (hf:fx L<K.files) (hfull:cntO O K.opens<K.opens) (hv:flg fl=true) (hlow:K.base<=w.heap.size) (hx:S3 m=some x) (hkd:x.kind=1) (hq:q<59998)
 (hd3:DM K (q+1) A' S3 D3 M β P O [] w3) (hm3:MB w3 K.b (q+1) M) (k3:Keeps K.base (UT K A) w w3) :
 (w3.cell? ⟨K.g,0,none⟩=some (.pointer (some ⟨K.sg,0,none⟩)))/\Hid (Calls prog 62 #[.pointer (some ⟨K.sg,0,none⟩),.int .i64 m] w3 fun e w4=>e=.returned (.int .i64 0)/\(w4.cell? ⟨K.g,4,none⟩=some (.int .i64 ((K.opens:Int)-(cntO O K.opens:Int)))/\(∀ i,w4.frozen? ⟨K.g,i,none⟩=false))/\Hid (Calls prog 63 #[.pointer (some ⟨g,0,none⟩),.int .i64 ((fx L:Nat):Int),.pointer (some ⟨w4.heap.size,0,none⟩)] ((w4.setCell ⟨K.g,4,none⟩ (.int .i64 ((K.opens:Int)-(cntO O K.opens:Int)-1))).alloc (.cells #[.int .i64 m,.int .i64 0,.int .i64 fl,.int .i64 0] 130)) fun e w'=>e=.returned (.tuple #[])/\DQ K q A (IN.opS S3 m) D3 (setP P pid (L.set (fx L) (some (lowO O K.opens)))) (updO O (lowO O K.opens) (some ⟨m,0,fl,1⟩)) w w')):=by
 refine⟨hd3.dp.tb.blk.cell (j:=0) rfl,Wd ?_⟩;obtain⟨M1,hps⟩:=hd3.dp.tw.ps;have hmi:I64 m:=hd3.dp.tw.ti.i64 hd3.dp.tw.lim (by rw[hx];simp);refine (IN.Open_any m w3 hps hmi (by omega)).mono ?_;rintro e w4 ⟨rfl,hp4,k4⟩;have hE:IN.opR S3 m=0:=by unfold IN.opR IN.askR;rw[hx]
 rw[hE];have hlo:=lowO_spec O K.opens;have hlt:=(lowO_full O K.opens).2 hfull;have hdp4:=hd3.dp.store k4 (q':=q+2) (by omega) hp4 (hd3.dp.tw.ti.opS hx hkd);have hm4:=hd3.dp.mbStore hm3 (WT_store (K:=K) k4);have htb4:=hdp4.tb.blk;refine⟨rfl,⟨htb4.cell (j:=4) rfl,htb4.fz⟩,Wd ?_⟩;obtain⟨W5,hW5⟩:∃ W5,w4.setCell ⟨K.g,4,none⟩ (.int .i64 ((K.opens:Int)-(cntO O K.opens:Int)-1))=W5:=⟨_,rfl⟩;rw[hW5];have hs5:W5.heap.size=w4.heap.size:=by rw[<-hW5];simp[World.setCell]
 rw[<-hs5];have htb5:TB W5 K.g K.sg K.tg K.b K.files ((K.opens:Int)-(cntO O K.opens:Int)-1):=by rw[<-hW5];exact htb4.set 4 _
 have htw5:NT.TW K.base K.tg K.sg K.mb K.I K.L K.B (q+2) (q+2) A' (IN.opS S3 m) D3 W5:=by rw[<-hW5];exact TW_set hdp4.tw htb4 (.inr (.inr rfl))
 have hfp5:FP K.base W5 K.files β M P O:=by
  rw[<-hW5];exact hdp4.fp.moved (fun p g hM=>by
   obtain⟨L,-,hp,-⟩:=hdp4.fp.plt hM;exact Below.heap_setCell _ _ _ _ (IN.blk_ne hp.2 htb4 (by decide))) fun i hi=>by
   obtain⟨x,hx⟩:=Option.ne_none_iff_exists'.1 hi;exact Below.heap_setCell _ _ _ _ (IN.blk_ne (hdp4.fp.fb i x hx).blk htb4 (by decide))
 have hm5:MB W5 K.b (q+1) M:=by
  rw[<-hW5];refine hm4.far (p:=⟨K.g,4,none⟩) (fun e=>?_) _;obtain⟨es,c,ho⟩:=hm4.obj;have e':K.b=K.g:=e;rw[e'] at ho;unfold Blk at htb4;rw[htb4] at ho
  cases ho
 have hk5:Keeps K.base (UT K A) w W5:=by
  rw[<-hW5];exact (k3.trans (UT_w A (WT_store (K:=K) k4))).trans (UT_w A (WT_table htb4 hdp4.ge.1))
 have hb6:Below W5.heap.size W5 (W5.alloc (.cells #[.int .i64 m,.int .i64 0,.int .i64 fl,.int .i64 0] 130)):=(Below.refl _ _).alloc (Nat.le_refl _) _;have hfb6:FB (W5.alloc (.cells #[.int .i64 m,.int .i64 0,.int .i64 fl,.int .i64 0] 130)) W5.heap.size ⟨m,0,fl,0⟩:=Blk.new W5 130 [.int .i64 m,.int .i64 0,.int .i64 fl,.int .i64 0] rfl;obtain⟨W6,hW6⟩:∃ W6,W5.alloc (.cells #[.int .i64 m,.int .i64 0,.int .i64 fl,.int .i64 0] 130)=W6:=⟨_,rfl⟩;rw[hW6] at hb6 hfb6 ⊢;have hpr5:=hfp5.pr pid g L hM e1;have hpr6:PR W6 g (pad K.files β L):=⟨hpr5.1,hpr5.2.keep hb6⟩;have hne:g≠W5.heap.size:=by have:=hpr5.2.lt;omega
 have hfl64:=hd3.cap;have hlow5:K.base<=W5.heap.size:=Nat.le_trans hlow hk5.size;refine (put_any g W5.heap.size (fx L) _ ⟨m,0,fl,0⟩ W6 hpr6 hfb6 (by have:=hf;omega) hne ⟨(show (0:Int)<=0 by decide),(show (0:Int)<9223372036854775807 by decide)⟩).mono ?_;rintro e w7 ⟨rfl,rfl⟩;refine⟨rfl,?_,?_⟩
 ·have hfb7:FB (W6.setCell ⟨W5.heap.size,3,none⟩ (.int .i64 (0+1))) W5.heap.size ⟨m,0,fl,1⟩:=Blk.set hfb6.blk 3 _;have hfp7:FP K.base (W6.setCell ⟨W5.heap.size,3,none⟩ (.int .i64 (0+1))) K.files β M P O:=(hfp5.keep hb6).moved (fun p g' hM=>by
   obtain⟨L',-,-,hlt'⟩:=hfp5.plt hM;exact Below.heap_setCell _ _ _ _ (show g'≠W5.heap.size by omega)) fun i hi=>by
   obtain⟨y,hy⟩:=Option.ne_none_iff_exists'.1 hi;have:=(hfp5.fb i y hy).blk.lt;exact Below.heap_setCell _ _ _ _ (show β i≠W5.heap.size by omega)
  have hno:=FP.noRef (base:=0) (f:=0) (K:=K) hd3.di (hlo.2.2 hlt);have hfp8:=hfp7.newFile (k:=lowO O K.opens) (hlo.2.2 hlt) hfb7 hlow5 (fun i hi=>by
   obtain⟨y,hy⟩:=Option.ne_none_iff_exists'.1 hi;have:=(hfp5.fb i y hy).blk.lt
   omega) hno
  have hcn:=cntO_upd O (lowO O K.opens) (some ⟨m,0,fl,1⟩) K.opens hlt;rw[hlo.2.2 hlt,if_pos rfl,if_neg (by simp)] at hcn;have htb8:TB (W6.setCell ⟨W5.heap.size,3,none⟩ (.int .i64 (0+1))) K.g K.sg K.tg K.b K.files ((K.opens:Int)-(cntO (updO O (lowO O K.opens) (some ⟨m,0,fl,1⟩)) K.opens:Int)):=by
   rw[show (K.opens:Int)-(cntO (updO O (lowO O K.opens) (some ⟨m,0,fl,1⟩)) K.opens:Int)=(K.opens:Int)-(cntO O K.opens:Int)-1 by omega];exact Blk.far (htb5.blk.keep hb6) (p:=⟨W5.heap.size,3,none⟩) (show K.g≠W5.heap.size by have:=htb5.blk.lt;omega) _
  have hdp8:DP K (q+2) A' (IN.opS S3 m) D3 M (updB β (lowO O K.opens) W5.heap.size) P (updO O (lowO O K.opens) (some ⟨m,0,fl,1⟩)) (W6.setCell ⟨W5.heap.size,3,none⟩ (.int .i64 (0+1))):=⟨TW_set (htw5.keep hb6) hfb6.blk (.inl rfl),hd3.dp.far,htb8,hfp8,hd3.dp.ge⟩;have hdi8:=hd3.di.opened (hlo.2.2 hlt) hlt hx hkd hv;have hnone:=fx_none (L:=L) (by rw[hl];exact hf);have hm7:=MB_file (hm5.keep hb6) hfb6 (j:=3) (.int .i64 (0+1));have hpr7:PR (W6.setCell ⟨W5.heap.size,3,none⟩ (.int .i64 (0+1))) g (pad K.files β L):=⟨hpr6.1,hpr6.2.far (p:=⟨W5.heap.size,3,none⟩) hne _⟩;exact⟨A',M,updB β (lowO O K.opens) W5.heap.size,(MB_slot hm7 hpr7 (j:=fx L) _).le (by omega),hdp8.slot hM e1 hl hf (some (lowO O K.opens)) _ (by rw[Option.map_some,updB_at];rfl),hdi8.lay e1 hnone,by rw[set_len];simp only[List.length_nil] at hfl64 ⊢;omega⟩
 ·have hpr7:PR (W6.setCell ⟨W5.heap.size,3,none⟩ (.int .i64 (0+1))) g (pad K.files β L):=⟨hpr6.1,hpr6.2.far (p:=⟨W5.heap.size,3,none⟩) hne _⟩;exact (hk5.trans (Keeps.new hb6 hlow5)).trans ((UT_file hfb6 hlow5).trans (UT_slot hpr7 (hfp5.ge.1 pid g hM)))
end
end DC
namespace DC
open IS (I64 upd)
open IN (Keeps lt_of_some)
section
variable {K:Cn}{q:Nat}{A:Am}{S:Sm}{D:NT.Ds}{M:Int->Option Nat}{β:Nat->Nat}{P:Ps}{O:Ou}{R:Ls}{w w':World}{n:Nat}
theorem Open_all (pid:Int)(p:ByteArray)(fl:Int)(w:World)(h:DW K q A S D P O w)(hp:I64 pid)(hpl:p.size<=maxLen)(hfl:I64 fl)(hq:q<59998) :
 Calls prog 23 #[.pointer (some ⟨K.g,0,none⟩),.int .i64 pid,.string p,.int .i64 fl] w fun e w'=>e=.returned (.tuple #[.int .i64 (opnR K.I K.files K.opens S D P O pid p fl).1.1,.int .i64 (opnR K.I K.files K.opens S D P O pid p fl).1.2])/\DQ K q A (opnR K.I K.files K.opens S D P O pid p fl).2.1 (opnR K.I K.files K.opens S D P O pid p fl).2.2.1 (opnR K.I K.files K.opens S D P O pid p fl).2.2.2.1 (opnR K.I K.files K.opens S D P O pid p fl).2.2.2.2 w w':=by
 have h0:=h;obtain⟨M,β,hm,hd⟩:=h;have hcap:=hd.cap;have H0:=Wd h0;unfold opnR
 cases e1:lk P pid with
 | none=>
   have cP:=Wd (process_no pid w hd.dp.tb hm hp ((hd.dp.fp.dom pid).2 e1));clear h0 hm hd e1 hcap;go_enter func23,ntmps23
   go_wp2_with fail
   refine cP.out.mono ?_;rintro e w1 ⟨rfl,rfl⟩;go_wp2_with fail
   go_ret2
   exact⟨rfl,DQ.same H0.out hq (Below.refl _ _)⟩
 | some L=>
   obtain⟨g,hM,hpr,hgb⟩:=hd.dp.fp.hasP e1;have hl:=hd.di.lks e1;have cP:=Wd (process_yes pid g w hd.dp.tb hm hp hM);have cV:=valid_any fl hfl.1 hfl.2 w;simp only
   cases hv:flg fl with
   | false=>
     rw[hv] at cV;rw[if_pos rfl];have cV:=Wd cV;clear h0 hm hd e1 hcap hM hpr hl;go_enter func23,ntmps23
     go_wp2_with fail
     refine cP.out.mono ?_;rintro e w1 ⟨rfl,rfl⟩;go_wp2_with fail
     refine cV.out.mono ?_;rintro e w1 ⟨rfl,rfl⟩;go_wp2_with fail
     go_ret2
     exact⟨rfl,DQ.same H0.out hq (Below.refl _ _)⟩
   | true=>
     rw[hv] at cV;rw[if_neg (by simp)];have cV:=Wd cV;have hfx:=fx_pad (β:=β) hl.1;have cL:=lowest_any K.g K.sg K.tg K.b g K.files _ _ w hd.dp.tb hpr hcap.2.1;unfold lowV lowE at cL;rw[hfx] at cL
     by_cases hf:fx L<K.files
     ·simp only[if_pos hf] at cL ⊢;have cL:=Wd cL;have hle:=cntO_le O K.opens;have t4:Hid (∀ W,Below w.heap.size w W->W.cell? ⟨K.g,4,none⟩=some (.int .i64 ((K.opens:Int)-(cntO O K.opens:Int)))):=Wd fun W hb=>(hd.dp.tb.blk.keep hb).cell (j:=4) rfl
      by_cases hfull:cntO O K.opens<K.opens
      ·rw[if_pos hfull];have hz:((K.opens:Int)-(cntO O K.opens:Int) == 0)=false:=by
        rw[beq_eq_false_iff_ne];omega
       have cR:=Wd (fun (W:World) (hb:Below w.heap.size w W)=>reach_any p hpl fl W (hd.keep hb) (hm.keep hb) (by omega));have hrok:=rea_ok (p:=p) (fl:=fl) hd.dp.tw.ti (fun n x hx=>by obtain⟨M1,hps⟩:=hd.dp.tw.ps;exact (hps.fn.good n x hx).kind);have hlow:K.base<=w.heap.size:=hd.low;have HP:=Wd (And.intro hM e1);have HL:=Wd hl;have HF:=Wd hf;have HC:=Wd hcap;have HFU:=Wd hfull;have HV:=Wd hv;have HLW:=Wd hlow;clear h0 hm hd e1 hcap hM hpr hl hfx hf hle hv hlow hfull;generalize reaR K.I S D p fl=r at *;obtain⟨⟨m,e⟩,S3,D3⟩:=r;simp only at cR hrok ⊢
       by_cases he:e=0
       ·subst he;rw[if_pos rfl];obtain⟨x,hx,hkd⟩:=hrok rfl;have next:=Wd (fun (A':Am) (w3:World) (h3:DM K (q+1) A' S3 D3 M β P O [] w3) (hm3:MB w3 K.b (q+1) M) (k3:Keeps K.base (UT K A) w w3)=>open_fin (A:=A) HP.out.1 HP.out.2 HL.out.1 HF.out HFU.out HV.out HLW.out hx hkd hq h3 hm3 k3);have hw:IntKind.i64.wrap ((K.opens:Int)-(cntO O K.opens:Int)-1)=(K.opens:Int)-(cntO O K.opens:Int)-1:=by
         have:=HC.out;have:=HFU.out;rw[IntKind.wrap_i64];omega
        clear hx hkd hrok;generalize hlf:(K.opens:Int)-(cntO O K.opens:Int)=lf at *;generalize hfd:fx L=fd at *;go_enter func23,ntmps23
        go_wp2_with fail
        refine cP.out.mono ?_;rintro e w1 ⟨rfl,rfl⟩;go_wp2_with fail
        refine cV.out.mono ?_;rintro e w1 ⟨rfl,rfl⟩;go_wp2_with fail
        refine cL.out.mono ?_;rintro e w2 ⟨rfl,b2⟩;have a4:=t4.out w2 b2;have cR1:=Wd (cR.out w2 b2);have B2:=Wd b2;clear b2;go_wp2_with fail
        refine cR1.out.mono ?_;rintro e w3 ⟨rfl,h3,hm3,k3⟩;obtain⟨A',h3⟩:=h3;obtain⟨a0,cO⟩:=next.out A' w3 h3 hm3 ((Keeps.new B2.out HLW.out).trans (UT_tree k3));clear h3 hm3 k3;go_wp2_with fail
        refine cO.out.mono ?_;rintro e w4 ⟨rfl,⟨a5,fz⟩,cU⟩;go_wp2_with fail
        refine cU.out.mono ?_;rintro e w5 ⟨rfl,hfin⟩;have HFIN:=Wd hfin;clear hfin;go_wp2_with fail
        go_ret2
        exact⟨rfl,HFIN.out⟩
       ·rw[if_neg he];have hne:(e != 0)=true:=by simpa using he
        have fin:=Wd (fun (w3:World) (hh:(∃ A',DM K (q+1) A' S3 D3 M β P O [] w3)/\MB w3 K.b (q+1) M) (k3:Keeps K.base (UT K A) w w3)=>
         show DQ K q A S3 D3 P O w w3 from by
          obtain⟨⟨A',hd3⟩,hm3⟩:=hh;exact⟨⟨A',M,β,hm3.le (by omega),hd3.more (by omega) (by omega)⟩,k3⟩)
        clear hrok he;generalize hlf:(K.opens:Int)-(cntO O K.opens:Int)=lf at *;generalize hfd:fx L=fd at *;go_enter func23,ntmps23
        go_wp2_with fail
        refine cP.out.mono ?_;rintro e w1 ⟨rfl,rfl⟩;go_wp2_with fail
        refine cV.out.mono ?_;rintro e w1 ⟨rfl,rfl⟩;go_wp2_with fail
        refine cL.out.mono ?_;rintro e w2 ⟨rfl,b2⟩;have a4:=t4.out w2 b2;have cR1:=Wd (cR.out w2 b2);have B2:=Wd b2;clear b2;go_wp2_with fail
        refine cR1.out.mono ?_;rintro e w3 ⟨rfl,h3,hm3,k3⟩;have HFIN:=Wd (fin.out w3 ⟨h3,hm3⟩ ((Keeps.new B2.out HLW.out).trans (UT_tree k3)));clear h3 hm3 k3;go_wp2_with fail
        go_ret2
        exact⟨rfl,HFIN.out⟩
      ·rw[if_neg hfull];have hz:(K.opens:Int)-(cntO O K.opens:Int)=0:=by omega
       rw[hz] at t4;clear h0 hm hd e1 hcap hM hpr hl hfx hf hle hv hfull hz;generalize hfd:fx L=fd at *;go_enter func23,ntmps23
       go_wp2_with fail
       refine cP.out.mono ?_;rintro e w1 ⟨rfl,rfl⟩;go_wp2_with fail
       refine cV.out.mono ?_;rintro e w1 ⟨rfl,rfl⟩;go_wp2_with fail
       refine cL.out.mono ?_;rintro e w2 ⟨rfl,b2⟩;have a4:=t4.out w2 b2;have B2:=Wd b2;clear b2;go_wp2_with fail
       go_ret2
       exact⟨rfl,DQ.same H0.out hq B2.out⟩
     ·simp only[if_neg hf] at cL ⊢;have cL:=Wd cL;clear h0 hm hd e1 hcap hM hpr hl hfx hf hv;go_enter func23,ntmps23
      go_wp2_with fail
      refine cP.out.mono ?_;rintro e w1 ⟨rfl,rfl⟩;go_wp2_with fail
      refine cV.out.mono ?_;rintro e w1 ⟨rfl,rfl⟩;go_wp2_with fail
      refine cL.out.mono ?_;rintro e w2 ⟨rfl,b2⟩;have B2:=Wd b2;clear b2;go_wp2_with fail
      go_ret2
      exact⟨rfl,DQ.same H0.out hq B2.out⟩
end
end DC
namespace DC
open IS (I64 upd)
open IN (Keeps lt_of_some cap7)
section
variable {K:Cn}{q:Nat}{A:Am}{S:Sm}{D:NT.Ds}{M:Int->Option Nat}{β:Nat->Nat}{P:Ps}{O:Ou}{R:Ls}{w w':World}{n:Nat}
theorem results_tmp4 {fn:Func}{t u v x:Tmp}(h:fn.results=#[.tmp t,.tmp u,.tmp v,.tmp x])(tmps:Array Value)(P:Program)(w:World) :
 (results fn tmps).run P w=.ok (.tuple #[tmps.getD t undef,tmps.getD u undef,tmps.getD v undef,tmps.getD x undef]) w:=by
 simp[results,h]
def vacP (P:Ps)(pid:Int):Int:=if pid<1 then 2 else if lk P pid=none then 0 else 12
theorem vac_same (h:FP K.base w K.files β M P O)(pid:Int):vacR M pid=vacP P pid:=by
 unfold vacR vacP
 split
 ·rfl
 ·have:=h.dom pid
  by_cases e:M pid=none
  ·rw[if_pos e,if_pos (this.1 e)]
  ·rw[if_neg e,if_neg fun e'=>e (this.2 e')]
def addR (f:Nat)(P:Ps)(pid:Int):Int×Ps:=if vacP P pid=0 then (0,insP pid (List.replicate f none) P) else (vacP P pid,P)
theorem repR (n:Nat)(k:Nat)(R:Ls):cntL k (List.replicate n none ++ R)=cntL k R:=by rw[cntL_app,cntL_rep,Nat.zero_add]
theorem Add_all (pid:Int)(w:World)(h:DW K q A S D P O w)(hp:I64 pid)(hq:q<59998) :
 Calls prog 14 #[.pointer (some ⟨K.g,0,none⟩),.int .i64 pid] w fun e w'=>e=.returned (.int .i64 (addR K.files P pid).1)/\DQ K q A S D (addR K.files P pid).2 O w w':=by
 have h0:=h;obtain⟨M,β,hm,hd⟩:=h;have hv:=vac_same hd.dp.fp pid;have hcap:=hd.cap;unfold addR
 by_cases h1:vacP P pid=0
 ·rw[if_pos h1];have hlk:1<=pid/\lk P pid=none:=by
   unfold vacP at h1
   split at h1
   ·cases h1
   ·split at h1
    ·rename_i a b;exact⟨by omega,b⟩
    ·cases h1
  refine (Add_yes pid w hd.dp.tb hm hp (hv.trans h1) (by have:(60000:Nat)<maxLen:=by decide
                                                         omega)).mono ?_
  rintro e w' ⟨rfl,g,hg,hpr,hmb,htwo⟩;have hbl:=hm.lt;have hK:Keeps K.base (UT K A) w w':=by
   obtain⟨es,c,ho⟩:=hm.obj;exact⟨htwo.os,htwo.tape,htwo.output,htwo.size,fun k hk=>htwo.block k (by have:=hd.low;omega) (by have:=hd.dp.ge.2;omega) (by have:=hd.dp.ge.2;omega),fun k o hk hT=>by
    have hkb:k≠K.b:=fun e=>hT (by rw[e] at hk;rw[ho] at hk;cases hk;exact .inr (.inr (.inr (.inr ⟨e,_,_,rfl⟩))));exact (htwo.block k (lt_of_some hk) hkb hkb).trans hk⟩
  have hkk:∀ {k:Nat} {o:Obj},w.heap[k]? = some o->k≠K.b->w'.heap[k]? = w.heap[k]?:=fun {k o} hk hne=>htwo.block k (lt_of_some hk) hne hne;have nb:∀ {k:Nat} {c:Array Value} {ty:TypeId} {s:Nat×Nat},w.heap[k]? = some (.cells c ty s)->k≠K.b:=fun {k c ty s} hk e=>by
   obtain⟨es,c2,ho⟩:=hm.obj;rw[e] at hk;rw[ho] at hk;cases hk
  have hKK:Keeps 0 (fun k o=>k=K.b) w w':=⟨htwo.os,htwo.tape,htwo.output,htwo.size,fun k hk=>absurd hk (Nat.not_lt_zero _),fun k o hk hT=>(hkk hk hT).trans hk⟩;have hmbne:∀ {c:Array Value} {s:Nat×Nat} {ty:TypeId} (k:Nat),w.heap[k]? = some (.cells c ty s)->w'.heap[k]? = some (.cells c ty s):=fun {c s ty} k hk=>(hkk hk (nb hk)).trans hk;have hfp:FP K.base w' K.files β M P O:=hd.dp.fp.moved (fun p g hM=>by
   obtain⟨L,-,hp,-⟩:=hd.dp.fp.plt hM;exact hkk hp.2 (nb hp.2)) fun k hk=>by
   obtain⟨o,ho⟩:=Option.ne_none_iff_exists'.1 hk;exact hkk (hd.dp.fp.fb k o ho) (nb (hd.dp.fp.fb k o ho).blk)
  have htw:NT.TW K.base K.tg K.sg K.mb K.I K.L K.B q q A S D w':=by
   refine⟨hd.dp.tw.tm.moved (hkk hd.dp.tw.tm.box (nb hd.dp.tw.tm.box)) (fun n g m hA=>?_),?_,hd.dp.tw.ti⟩
   ·obtain⟨d,-,p,qq⟩:=hd.dp.tw.tm.hasA hA;obtain⟨es,c,ho⟩:=qq.obj;exact⟨hkk p (nb p),hkk ho (hd.dp.far.2 n g m hA)⟩
   ·obtain⟨M1,hps⟩:=hd.dp.tw.ps;obtain⟨es,c,ho⟩:=IN.map_obj hps.pm.mp;refine⟨M1,hps.pm.moved (hkk hps.pm.box (nb hps.pm.box)) (hkk ho hd.dp.far.1.symm) (fun n g hM=>?_) (fun b cur hb=>hkk hb (nb hb)),hps.fn,hps.lim⟩
    cases hS:S n with
    | none=>rw[(hps.pm.dom n).2 hS] at hM;cases hM
    | some d=>obtain⟨v,hb,-⟩:=hps.pm.node n g d hM hS;exact hkk hb (nb hb)
  have hdp:DP K q A S D M β P O w':=⟨htw,hd.dp.far,hmbne _ hd.dp.tb,hfp,hd.dp.ge⟩;have hlen:(List.replicate K.files (none:Option Nat)).length=K.files:=List.length_replicate;refine⟨rfl,⟨A,upd M pid (some g),β,hmb.le (by omega),(⟨hdp.tw,hdp.far,hdp.tb,hfp.newProc hlk.2 (by rw[pad_rep _ _ hcap.2.1];exact hpr) (by have:=hd.low;omega) (fun q' g' hM e=>?_),hdp.ge⟩:DP K q A S D (upd M pid (some g)) β (insP pid (List.replicate K.files none) P) O w').more (by omega),?_,by rw[ins_len];omega⟩,hK⟩
  ·obtain⟨L,-,-,hlt⟩:=hd.dp.fp.plt hM
   omega
  ·exact DI.ins (L:=List.replicate K.files none) (hd.di.congrR fun k=>repR _ k []) hlk.2 ⟨hlk.1,hp⟩ hlen
 ·rw[if_neg h1];refine (Add_no pid (vacP P pid) w hd.dp.tb hm hp hv h1).mono ?_;rintro e w' ⟨rfl,rfl⟩;exact⟨rfl,DQ.same h0 hq (Below.refl _ _)⟩
theorem DI.new {f o:Nat}(hS:∀ n x,S n=some x->x.opens=0):DI f o S [] (fun _=>none) []:=
 ⟨List.Pairwise.nil,fun _ h=>(by cases h),fun _ h=>(by cases h),fun _ _ h=>(by cases h),fun _ _=>⟨rfl,rfl⟩,fun _ h=>absurd rfl h,fun _ _ h=>(by cases h),fun n x hx=>by rw[hS n x hx,opn_zero fun _ _ h=>(by cases h)];rfl,fun _ _ h=>(by cases h)⟩
theorem cntO_none (n:Nat):cntO (fun _=>none) n=0:=by
 induction n with
 | zero=>rfl
 | succ n ih=>unfold cntO;rw[ih,if_pos rfl]
theorem New_dw {base tg sg mb I L B:Nat}(a1 a2 a3 a6 a7:Int)(f o:Nat)(w:World)(h:NT.TW base tg sg mb I L B q q A S D w)(hS:∀ n x,S n=some x->x.opens=0)(hL:1<=L)(hf:1<=f/\f<=64)(ho:1<=o/\o<=1024)(hq:q<60000) :
 Calls prog 11 #[.pointer (some ⟨sg,0,none⟩),.pointer (some ⟨tg,0,none⟩),cap7 a1 a2 a3 (f:Int) (o:Int) a6 a7] w fun e w'=>∃ g b,e=.returned (.tuple #[.pointer (some ⟨g,0,none⟩),.int .i64 0])/\DW ⟨base,g,tg,sg,mb,b,I,L,B,f,o⟩ q A S D [] (fun _=>none) w'/\Below w.heap.size w w':=by
 obtain⟨M1,hps⟩:=h.ps;refine (New_both a1 a2 a3 f o a6 a7 w hps h.tm ⟨by omega,by omega,by omega,by omega⟩).mono ?_;rintro e w' ⟨g,b,rfl,hb,hg,hgb,htb,hmb,hbel⟩;have hmbl:mb<w.heap.size:=hps.pm.mp.lt;refine⟨g,b,rfl,⟨fun _=>none,fun _=>0,hmb.le (Nat.zero_le _),⟨h.keep hbel,⟨by show b≠mb;omega,fun n x m hA=>?_⟩,?_,⟨fun p=>⟨fun _=>rfl,fun _=>rfl⟩,fun _ _ _ h=>(by cases h),fun _ _ _ h=>(by cases h),fun _ _ h=>(by cases h),fun _ _ h=>absurd rfl h,fun _ _ h=>(by cases h),fun _ h=>absurd rfl h⟩,?_⟩,DI.new hS,?_⟩,hbel⟩
 ·obtain⟨d,-,-,qq⟩:=h.tm.hasA hA;obtain⟨es,c,ho⟩:=qq.obj;have:=lt_of_some ho
  show m≠b
  omega
 ·show TB w' g sg tg b f ((o:Int)-(cntO (fun _=>none) o:Int))
  rw[cntO_none];simpa using htb
 ·exact⟨Nat.le_trans h.tm.low hg,Nat.le_trans h.tm.low hb⟩
 ·exact⟨hf.1,hf.2,ho.1,ho.2,hL,Nat.zero_le _,hq,Nat.zero_le _⟩
theorem Sn_opens:∀ n x,NT.Sn n=some x->x.opens=0:=fun n x h=>by
 obtain⟨-,rfl⟩:=NT.Sn_at h
 rfl
theorem opened13 (a b c:Int)(f o:Nat)(w:World)(hr:IN.Right a b c)(hf:1<=f/\f<=64)(ho:1<=o/\o<=1024):Calls prog 12 #[cap7 a b c (f:Int) (o:Int) 0 0] w fun e w'=>∃ K A,e=.returned (.tuple #[.pointer (some ⟨K.sg,0,none⟩),.pointer (some ⟨K.tg,0,none⟩),.pointer (some ⟨K.g,0,none⟩),.bool true])/\w.heap.size<=K.base/\(K.I=a.toNat/\K.L=c.toNat/\K.B=b.toNat/\K.files=f/\K.opens=o)/\DW K 0 A NT.Sn NT.D0 [] (fun _=>none) w'/\Below w.heap.size w w':=by
 obtain⟨W0,hW0⟩:∃ W0,w.alloc (.cells #[.int .i64 a,.int .i64 b,.int .i64 c,.int .i64 f,.int .i64 o,.int .i64 0,.int .i64 0] 25)=W0:=⟨_,rfl⟩;have b0:Below w.heap.size w W0:=by rw[<-hW0];exact (Below.refl _ w).alloc (Nat.le_refl _) _
 have hC:Blk W0 w.heap.size 25 [.int .i64 a,.int .i64 b,.int .i64 c,.int .i64 f,.int .i64 o,.int .i64 0,.int .i64 0]:=by rw[<-hW0];exact Blk.new w _ _ rfl
 have cN:=Wd (IN.New_yes a b c f o 0 0 W0 hr);have hrI:1<=a.toNat/\1<=c.toNat:=by unfold IN.Right at hr;omega
 have q0:=hC.cell (j:=0) rfl;have q1:=hC.cell (j:=1) rfl;have q2:=hC.cell (j:=2) rfl;have q3:=hC.cell (j:=3) rfl;have q4:=hC.cell (j:=4) rfl;have q5:=hC.cell (j:=5) rfl;have q6:=hC.cell (j:=6) rfl;replace hC:=Wd hC;replace b0:=Wd b0;unfold cap7 at cN ⊢;clear hr;go_enter func12,ntmps12
 go_wp2_with fail
 replace hW0:=Wd hW0;refine cN.out.mono ?_;rintro e w1 ⟨sg,mb,M,rfl,hP,b1⟩;have cT:=Wd (NT.New_tw w1 hP hrI.1 hrI.2);have hC1:=Wd (hC.out.keep b1);have B1:=Wd (b0.out.trans (b1.mono b0.out.size));have hlow:=Wd b0.out.size;clear hP b1 cN q0 q1 q2 q3 q4 q5 q6;go_wp2_with fail
 refine cT.out.mono ?_;rintro e w2 ⟨tg,A,rfl,hT,hK⟩;have hlt1:=hC1.out.lt;have hb2:Below w1.heap.size w1 w2∨True:=.inr trivial;have hC2:Blk w2 w.heap.size 25 [.int .i64 a,.int .i64 b,.int .i64 c,.int .i64 f,.int .i64 o,.int .i64 0,.int .i64 0]:=hK.block _ _ hC1.out (by simp[IN.PT]);have q0:=hC2.cell (j:=0) rfl;have q1:=hC2.cell (j:=1) rfl;have q2:=hC2.cell (j:=2) rfl;have q3:=hC2.cell (j:=3) rfl;have q4:=hC2.cell (j:=4) rfl;have q5:=hC2.cell (j:=5) rfl;have q6:=hC2.cell (j:=6) rfl;have cD:=New_dw a b c 0 0 f o w2 hT Sn_opens hrI.2 hf ho (by decide);unfold cap7 at cD;replace cD:=Wd cD;have B2:=Wd (B1.out.trans ((hK.below (Nat.le_refl _)).mono hlow.out));replace hlt1:=Wd hlt1;clear hT hK cT hC2 hb2;go_wp2_with fail
 refine cD.out.mono ?_;rintro e w3 ⟨g,bb,rfl,hdw,b3⟩;have hfin:=Wd (And.intro hdw (B2.out.trans (b3.mono B2.out.size)));clear hdw b3 cD q0 q1 q2 q3 q4 q5 q6;go_wp2_with fail
 exact bodyPost_ret (results_tmp4 results12 _ _ _) rfl ⟨⟨_,g,tg,sg,mb,bb,_,_,_,f,o⟩,A,rfl,hlow.out,⟨rfl,rfl,rfl,rfl,rfl⟩,hfin.out⟩
end
end DC
end Go.Proofs.YtfffibepcdlldaaGreat

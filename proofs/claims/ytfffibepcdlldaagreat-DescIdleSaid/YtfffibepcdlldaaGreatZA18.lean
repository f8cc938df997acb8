/- A part. -/
import Derived.Test.YtfffibepcdlldaaGreatZA06
set_option linter.unusedVariables false
set_option linter.unusedSimpArgs false
set_option maxRecDepth 100000
set_option maxHeartbeats 64000000
open Go.Proofs.Tryz

namespace Go.Proofs.YtfffibepcdlldaaGreat
open Go.ChangeShapes Go.WideShapes Go.ChangeAt Go.RowKit
theorem XRight_any (ao:Option Addr)(n cap:Nat)(l:List (Int×ByteArray))(w:World)(h:XS w ao n cap l)(hf:XFit l) :
 Calls prog 163 #[.slice ao n cap] w fun e w'=>e=.returned (.bool (EM.ok 0 l))/\Below w.heap.size w w':=by
 have hn:n<=9223372036854775807:=by have:=h.2.1;have:=h.2.2.1;unfold maxLen at *;omega
 have L:=Wd h.1;have hfit:=Wd hf;have hno:=Wd (fun k hk h=>@EM.ok_no 0 l k hk h);have hgo:=Wd (fun k hk h=>@EM.ok_next 0 l k hk h);have hle:=Wd (fun k (h:EM.ok 0 (l.take k)=true)=>EM.nxt_le h (by decide));have H:=Wd h;clear h hf;go_enter func163,ntmps163
 go_wp2_with fail
 go_loopw [3,4] (fun f i wr=>∃ (k:Nat) (b:Int),k<=n/\i=.int .i64 k/\f=.int .i64 b/\Hid (EM.ok 0 (l.take k)=true/\EM.nxt 0 (l.take k)=b+1)/\Below w.heap.size w wr) (fun _ i _=>n-(intOf i).toNat)
 case atStart=>exact⟨0,-1,Nat.zero_le _,rfl,rfl,Wd ⟨rfl,rfl⟩,Below.refl _ _⟩
 case round=>
  obtain⟨k,b,hk,rfl,rfl,hok,bel⟩:=hrel;obtain⟨hb0,hb1⟩ : -1<=b/\b<=1048576:=by have:=hle.out k hok.out.1;rw[hok.out.2] at this;omega
  by_cases hlt:k<n
  ·obtain⟨b1,o1,rfl,g1⟩:=(H.out.below bel (Nat.le_refl _)).at_ (by omega);have k1:k<l.length:=by rw[L.out];exact hlt
   obtain⟨e1,e2⟩:=g1 k hlt;have hft:=hfit.out l[k] (List.getElem_mem k1);have hno:=Wd (hno.out k k1);have hgo:=Wd (hgo.out k k1);obtain⟨⟨a,d⟩,hx⟩:∃ x,l[k]=x:=⟨_,rfl⟩;simp only[hx] at e1 e2 hft hno hgo;obtain⟨⟨ha1,ha2⟩,hd⟩:=hft;unfold maxLen at hd;have bel3:=below_al bel (.cells #[.int .i64 a,.string d] 211);clear hx g1 k1
   by_cases h1:a<0
   ·have hh:Hid (EM.ok 0 l=false):=hno.out (.inr (.inl (by rw[hok.out.2];show a<b+1;omega)));clear hno hgo;go_wp2_with fail
    go_ret
    exact⟨ret_bool hh.out.symm,bel3⟩
   by_cases h2:1048576<a
   ·have hh:Hid (EM.ok 0 l=false):=hno.out (.inr (.inr (by show (1048576:Int)<a+d.size;omega)));clear hno hgo;go_wp2_with fail
    go_ret
    exact⟨ret_bool hh.out.symm,bel3⟩
   by_cases h0:d.size=0
   ·obtain⟨s1,s2⟩:=xempty h0;have hh:Hid (EM.ok 0 l=false):=hno.out (.inl h0);clear hno hgo h0;go_wp2_with fail
    go_ret
    exact⟨ret_bool hh.out.symm,bel3⟩
   obtain⟨s1,s2⟩:=xfull h0
   by_cases h3:a<=b
   ·have hh:Hid (EM.ok 0 l=false):=hno.out (.inr (.inl (by rw[hok.out.2];show a<b+1;omega)));clear hno hgo h0;go_wp2_with fail
    go_ret
    exact⟨ret_bool hh.out.symm,bel3⟩
   by_cases h4:1048576-a<d.size
   ·have hh:Hid (EM.ok 0 l=false):=hno.out (.inr (.inr (by show (1048576:Int)<a+d.size;omega)));clear hno hgo h0;go_wp2_with fail
    go_ret
    exact⟨ret_bool hh.out.symm,bel3⟩
   ·have hnx:=Wd (hgo.out hok.out.1 (by omega) (by rw[hok.out.2];show b+1<=a;omega) (by show a+d.size<=(1048576:Int);omega));have h5:a+d.size<=(1048576:Int):=by omega
    clear hno hgo h0;go_wp2_with fail
    go_roundw
    case rel=>exact⟨k+1,a+d.size,by omega,by go_num,rfl,hnx,bel3⟩
    case measure=>simp[intOf];omega
  ·obtain rfl:k=n:=by omega
   have hh:Hid (EM.ok 0 l=true):=by
    have:=hok.out.1;rwa[List.take_of_length_le (by rw[L.out];exact Nat.le_refl _)] at this
   clear hok hno hgo;go_wp2_with fail
   go_ret
   exact⟨ret_bool hh.out.symm,bel⟩
theorem rend_any (ao:Option Addr)(n cap:Nat)(l:List (Int×ByteArray))(w:World)(h:XS w ao n cap l)(hb:∀ x∈l,0<=x.1/\x.1+x.2.size<=4611686018427387904) :
 Calls prog 164 #[.slice ao n cap] w fun e w'=>e=.returned (.int .i64 (ends l))/\Below w.heap.size w w':=by
 have hn:n<=9223372036854775807:=by have:=h.2.1;have:=h.2.2.1;unfold maxLen at *;omega
 rcases List.eq_nil_or_concat l with rfl|⟨q,⟨a,d⟩,rfl⟩
 ·have hl:=h.1;simp only[List.length_nil] at hl;subst hl;clear h hb;go_enter func164,ntmps164
  go_wp2_with fail
  go_ret
  exact⟨rfl,Below.refl _ _⟩
 ·rw[List.concat_eq_append] at *;have hl:=h.1;rw[List.length_append,List.length_cons,List.length_nil] at hl;subst hl;obtain⟨b1,o1,rfl,g1⟩:=h.at_ (by omega);obtain⟨e1,e2⟩:=g1 q.length (by omega);simp only[List.getElem_append_right (Nat.le_refl q.length),Nat.sub_self,List.getElem_cons_zero] at e1 e2;obtain⟨o4,o5⟩:=hb (a,d) (by simp);simp only at o4 o5;have hh:Hid (ends (q ++ [(a,d)])=a+d.size):=by
   show _=_
   have e:EM.nxt 0 (q ++ [(a,d)])=a+d.size+1:=EM.nxt_snoc 0 q (a,d)
   cases hq:q ++ [(a,d)] with
   | nil=>simp at hq
   | cons x r=>rw[hq] at e;show EM.nxt 0 (x :: r)-1=_;omega
  have n1:((q.length:Int)+1 == 0)=false:=by simp;omega
  have n2:((q.length:Int)+1-1)=q.length:=by omega
  have bel:=(Below.refl w.heap.size w).alloc (Nat.le_refl _) (.cells #[.int .i64 a,.string d] 211);clear h hb g1;go_enter func164,ntmps164
  go_wp2_with fail
  go_ret
  exact⟨ret_int hh.out.symm,bel⟩
theorem rStored_any (ao:Option Addr)(n cap:Nat)(l:List (Int×ByteArray))(w:World)(h:XS w ao n cap l)(hf:XFit l) :
 Calls prog 128 #[.slice ao n cap] w fun e w'=>e=.returned (.tuple #[.int .i64 (stV l),.int .i64 (stE l)])/\Below w.heap.size w w':=by
 have hval:=XRight_any ao n cap l w h hf;have H:=Wd h
 cases hv:EM.ok 0 l with
 | false=>
   have e1:Hid (stV l=0/\stE l=2):=by unfold stV stE;rw[hv];exact⟨rfl,rfl⟩
   rw[hv] at hval;have hval:=Wd hval;clear hv h;go_enter func128,ntmps128
   go_wp2_with fail
   refine hval.out.mono ?_;rintro e w1 ⟨rfl,bel1⟩;go_wp2_with fail
   go_ret2
   exact⟨by rw[e1.out.1,e1.out.2];rfl,bel1⟩
 | true=>
   have e1:Hid (stV l=EM.cnt l/\stE l=0):=by unfold stV stE;rw[hv];exact⟨rfl,rfl⟩
   have hle:=Wd (fun k=>Nat.le_trans (EM.cnt_take l k) (ok_nums hv).2);have hn:n<=1048576:=by have:=(ok_nums hv).1;have:=h.1;omega
   have L:=Wd h.1;rw[hv] at hval;have hval:=Wd hval;clear hv h;go_enter func128,ntmps128
   go_wp2_with fail
   refine hval.out.mono ?_;rintro e w1 ⟨rfl,bel1⟩;go_wp2_with fail
   have H1:=Wd (H.out.below bel1 (Nat.le_refl _));go_loop [5,6] (fun f i=>∃ (k b:Nat),k<=n/\i=.int .i64 k/\f=.int .i64 b/\Hid (EM.cnt (l.take k)=b)) (fun _ i=>n-(intOf i).toNat)
   case atStart=>exact⟨0,0,Nat.zero_le _,rfl,rfl,Wd rfl⟩
   case round=>
    obtain⟨k,b,hk,rfl,rfl,hok⟩:=hrel
    by_cases hlt:k<n
    ·obtain⟨b1,o1,rfl,g1⟩:=H1.out.at_ (by omega);have k1:k<l.length:=by rw[L.out];exact hlt
     obtain⟨e1,e2⟩:=g1 k hlt;have hnext:Hid (EM.cnt (l.take (k+1))=b+l[k].2.size):=by
      show _=_
      rw[EM.take_snoc l k k1,EM.cnt_append,EM.cnt_one,hok.out]
     have hbb:b+l[k].2.size<=1048576:=by rw[<-hnext.out];exact hle.out _
     obtain⟨⟨a,d⟩,hx⟩:∃ x,l[k]=x:=⟨_,rfl⟩;simp only[hx] at e1 e2 hnext hbb;clear hx g1 k1 hok;go_wp2_with fail
     go_round
     case rel=>exact⟨k+1,b+d.size,by omega,by go_num,by go_num,hnext⟩
     case measure=>simp[intOf];omega
    ·obtain rfl:k=n:=by omega
     have hh:Hid (EM.cnt l=b):=by
      have:=hok.out;rwa[List.take_of_length_le (by rw[L.out];exact Nat.le_refl _)] at this
     clear hok;go_wp2_with fail
     go_ret2
     exact⟨by rw[e1.out.1,e1.out.2,hh.out];rfl,bel1⟩
theorem rcut_any (a:Int)(d:ByteArray)(lo hi:Int)(w:World)(ha:0<=a)(had:a+d.size<=1048576)(hlo:I64 lo)(hhi:I64 hi) :
 Calls prog 165 #[.agg #[.int .i64 a,.string d],.int .i64 lo,.int .i64 hi] w fun e w'=>∃ ao n c,e=.returned (.slice ao n c)/\XS w' ao n c (EM.piece lo hi (a,d)).toList/\Below w.heap.size w w':=by
 obtain⟨l1,l2⟩:=hlo;obtain⟨r1,r2⟩:=hhi;obtain⟨A,hA⟩:∃ A,(if a<lo then lo else a)=A:=⟨_,rfl⟩;obtain⟨B,hB⟩:∃ B,(if hi<a+d.size then hi else a+d.size)=B:=⟨_,rfl⟩;have HA:Hid (A=max a lo):=by show _=_;rw[<-hA];split <;> omega
 have HB:Hid (B=min (a+d.size) hi):=by show _=_;rw[<-hB];split <;> omega
 have A1:0<=A-a:=by have:=HA.out;omega
 have A2 : -9223372036854775808<=A/\A<=9223372036854775807:=by have:=HA.out;omega
 have B2 : -9223372036854775808<=B/\B<=9223372036854775807:=by have:=HB.out;omega
 have B1:B-a<=d.size:=by have:=HB.out;omega
 have hpc:Hid (EM.piece lo hi (a,d)=if A<B then some (A,d.extract (A-a).toNat (B-a).toNat) else none):=by
  show _=_
  rw[HA.out,HB.out];rfl
 have bel:=below_al (Below.refl w.heap.size w) (.cells #[.int .i64 a,.string d] 211)
 by_cases hAB:A<B
 ·obtain⟨p,hp⟩:∃ p,p=d.extract (A-a).toNat (B-a).toNat:=⟨_,rfl⟩;have hsl:∀ w,(Instr.slice 9 (.string d) (some (.int .i64 (A-a))) (some (.int .i64 (B-a))) none).run prog w=.ok (.string p) w:=fun w=>by
   rw[run_slice_string w _ d _ _ _ _ underlying9 (by omega) (by omega) (by omega),hp]
  have hnext:Hid ((EM.piece lo hi (a,d)).toList=[(A,p)]):=by
   show _=_
   rw[hpc.out,if_pos hAB,hp];rfl
  have hx:Hid (XS ((w.alloc (.cells #[.int .i64 a,.string d] 211)).alloc (.cells #[.int .i64 A,.string p] 211)) (some ⟨w.heap.size+1,0,none⟩) 1 1 [(A,p)]):=by
   obtain⟨_,_,_,h1,h2⟩:=XV_new (w:=w.alloc (.cells #[.int .i64 a,.string d] 211)) (g:=w.heap.size+1) (f:=A) (d:=p) (t:=211) (by simp);simp only[Value.slice.injEq] at h1;obtain⟨rfl,rfl,rfl⟩:=h1;exact h2
  have hge:¬ B<=A:=by omega
  clear hp hpc;go_enter func165,ntmps165
  go_wp2_with fail
  go_ret
  refine⟨_,_,_,rfl,?_,below_al bel _⟩;rw[hnext.out];exact hx.out
 ·have hnext:Hid ((EM.piece lo hi (a,d)).toList=[]):=by
   show _=_
   rw[hpc.out,if_neg hAB];rfl
  have hge:B<=A:=by omega
  clear hpc;go_enter func165,ntmps165
  go_wp2_with fail
  go_ret
  refine⟨_,_,_,rfl,?_,bel⟩;rw[hnext.out];exact XS.nil _
theorem rCut_any (ao:Option Addr)(n cap:Nat)(l:List (Int×ByteArray))(s:Int)(w:World)(h:XS w ao n cap l)(hf:XFit l)(hs:I64 s) :
 Calls prog 161 #[.slice ao n cap,.int .i64 s] w (Gave (ctL l s) (ctE l s) w):=by
 have hval:=XRight_any ao n cap l w h hf;have H:=Wd h
 cases hv:EM.ok 0 l with
 | false=>
   have HE:=Wd (fun w'=>@gave_no (ctL l s) (ctE l s) w w' 2 (by unfold ctL ctE;rw[hv];exact⟨if_neg (by simp),if_neg (by simp)⟩));rw[hv] at hval;have hval:=Wd hval;clear hv h;go_enter func161,ntmps161
   go_wp2_with fail
   refine hval.out.mono ?_;rintro e w1 ⟨rfl,bel1⟩;go_wp2_with fail
   go_ret2
   exact HE.out _ bel1
 | true=>
   by_cases hs0:s<0
   ·have HE:=Wd (fun w'=>@gave_no (ctL l s) (ctE l s) w w' 2 (by unfold ctL ctE;rw[hv];exact⟨if_neg (by omega),if_neg (by omega)⟩));rw[hv] at hval;have hval:=Wd hval;clear hv h;go_enter func161,ntmps161
    go_wp2_with fail
    refine hval.out.mono ?_;rintro e w1 ⟨rfl,bel1⟩;go_wp2_with fail
    go_ret2
    exact HE.out _ bel1
   ·have e1:Hid (ctL l s=EM.part 0 s l/\ctE l s=0):=by unfold ctL ctE;rw[hv];exact⟨if_pos ⟨rfl,by omega⟩,if_pos ⟨rfl,by omega⟩⟩
    have hn:n<=1048576:=by have:=(ok_nums hv).1;have:=h.1;omega
    have hok:=Wd (fun k hk=>ok_each hv k hk);have htk:=Wd (fun k hk=>EM.part_take 0 s l k hk);have hlen:=Wd (fun k=>EM.part_length 0 s (l.take k));have L:=Wd h.1;have hss:=Wd hs;rw[hv] at hval;have hval:=Wd hval;clear hv h;go_enter func161,ntmps161
    go_wp2_with fail
    refine hval.out.mono ?_;rintro e w1 ⟨rfl,bel1⟩;go_wp2_with fail
    go_loopw [7,8] (fun v i wr=>∃ (k m:Nat) (q:List (Int×ByteArray)),k<=n/\m<=k/\i=.int .i64 k/\Hid (EM.part 0 s (l.take k)=q/\q.length=m)/\wr.ownsRow w.heap.size 211 2 v m (ecl q)/\Below w.heap.size w wr) (fun _ i _=>n-(intOf i).toNat)
    case atStart=>exact⟨0,0,[],Nat.zero_le _,Nat.le_refl _,rfl,Wd ⟨rfl,rfl⟩,World.ownsRow_nil _ _ _ _,bel1⟩
    case round=>
     clear bel1;obtain⟨k,m,q,hk,hmk,rfl,hq,hown,bel⟩:=hrel;obtain⟨ox,cx,rfl⟩:=Own.form hown
     by_cases hlt:k<n
     ·obtain⟨b1,o1,rfl,g1⟩:=(H.out.below bel (Nat.le_refl _)).at_ (by omega);have k1:k<l.length:=by rw[L.out];exact hlt
      obtain⟨e2,e3⟩:=g1 k hlt;have hft:=hok.out k k1;have hnx:=Wd (htk.out k k1);obtain⟨⟨a,d⟩,hx⟩:∃ x,l[k]=x:=⟨_,rfl⟩;simp only[hx] at e2 e3 hft hnx;obtain⟨hd,ha,had⟩:=hft;have hc:=Wd (fun w=>rcut_any a d 0 s w ha had (by unfold I64;omega) hss.out);have hnext:Hid (EM.part 0 s (l.take (k+1))=q ++ (EM.piece 0 s (a,d)).toList):=by
       show _=_
       rw[hnx.out,hq.out.1]
      have hm:Hid (m=q.length):=hq.out.2.symm;have hlk:Hid ((EM.part 0 s (l.take (k+1))).length<=k+1):=by
       have:=hlen.out (k+1);rw[List.length_take] at this;exact Nat.le_trans this (Nat.min_le_left _ _)
      clear hx g1 k1 hnx hq;go_wp2_with fail
      refine (hc.out _).mono ?_;rintro e w2 ⟨ao,nn,c,rfl,hxs,bel2⟩;have hown2:=Own.below hown bel2;have bel3:=below_tr bel bel2;have hmn:m+nn<=k+1:=by
       have h1:=hlk.out;rw[hnext.out,List.length_append,hxs.1,<-hm.out] at h1;exact h1
      have hxs:=Wd hxs;clear hown bel bel2 hc;go_wp2_with (at_builtin;apply Hid.out)
      refine Wd ?_;refine wpList_append_ext rfl (.tmp 23) (.tmp 29) rfl w.heap.size _ m _ rfl hown2 ao nn c _ rfl hxs.out (by omega) bel3.size ?_;intro v2 w3 hown3 hgrow;obtain⟨o2,c2,rfl⟩:=Own.form hown3;have bel4:=bel3.grown hgrow bel3.size (fun k h=>Own.ge hown2 k h);have hfin:Hid (EM.part 0 s (l.take (k+1))=q ++ (EM.piece 0 s (a,d)).toList/\(q ++ (EM.piece 0 s (a,d)).toList).length=m+nn):=⟨hnext.out,by rw[List.length_append,hxs.out.1,<-hm.out]⟩;rw[<-ecl_append] at hown3;clear hown2 bel3 hgrow hxs hnext hm;go_wp2_with fail
      go_roundw
      case rel=>exact⟨k+1,m+nn,_,by omega,hmn,by go_num,hfin,hown3,bel4⟩
      case measure=>simp[intOf];omega
     ·obtain rfl:k=n:=by omega
      have hh:Hid (EM.part 0 s l=q):=by
       have:=hq.out.1;rwa[List.take_of_length_le (by rw[L.out];exact Nat.le_refl _)] at this
      have hm:=Wd hq.out.2;clear hq;go_wp2_with fail
      go_ret2
      refine⟨_,by rw[e1.out.2];rfl,?_,bel⟩;rw[e1.out.1,hh.out,hm.out];exact hown
theorem XS.drew {w:World}{ao:Option Addr}{n cap:Nat}{l:List (Int×ByteArray)}(h:XS w ao n cap l):XS w.drew ao n cap l:=h
theorem ecl_set (p:List (Int×ByteArray))(a:Int)(y z:ByteArray):(ecl (p ++ [(a,y)])).set (p.length*2+1) (.string z)=ecl (p ++ [(a,z)]):=by
 induction p with
 | nil=>simp[ecl]
 | cons x r ih=>
   rw[List.cons_append,ecl_cons,List.length_cons,Nat.succ_mul]
   show Value.int .i64 x.1 :: Value.string x.2 :: (ecl (r ++ [(a,y)])).set (r.length*2+1) _=_
   rw[ih,List.cons_append,ecl_cons]
theorem ends_snoc (q:List (Int×ByteArray))(x:Int×ByteArray):ends (q ++ [x])=EM.fin x:=by
 have e:EM.nxt 0 (q ++ [x])=EM.fin x+1:=EM.nxt_snoc 0 q x
 cases hq:q ++ [x] with
 | nil=>simp at hq
 | cons y r=>rw[hq] at e;show EM.nxt 0 (y :: r)-1=_;omega
theorem ok_mem {l:List (Int×ByteArray)}(h:EM.ok 0 l=true):∀ x∈l,0<=x.1/\x.1+x.2.size<=1048576:=by
 intro x hx;obtain⟨k,hk,rfl⟩:=List.mem_iff_getElem.1 hx;have:=ok_each h k hk;exact⟨this.2.1,this.2.2⟩
theorem Own.lies {w:World}{base e size n:Nat}{v:Value}{xs:List Value}(h:w.ownsRow base e size v n xs)(hn:0<n):∃ g cap,v=.slice (some ⟨g,0,none⟩) n cap/\base<=g/\g<w.heap.size/\n<=cap:=by
 rcases h.2 with ⟨_,h0⟩|⟨g,cap,cur,h1,h2,h3,h4,_⟩
 ·omega
 ·refine⟨g,cap,h1,h2,?_,h4⟩;rcases Nat.lt_or_ge g w.heap.size with hlt|hge
  ·exact hlt
  ·rw[Array.getElem?_eq_none hge] at h3;cases h3
theorem rWrite_in (ao:Option Addr)(n cap:Nat)(l:List (Int×ByteArray))(f:Int)(d:ByteArray)(w:World)(h:XS w ao n cap l)(hf:XFit l)(hv:EM.ok 0 l=true)(h0:0<=f)(h1:f+d.size<=1048576)(hd:d.size≠0) :
 Calls prog 127 #[.slice ao n cap,.int .i64 f,.string d] w (Gave (EM.wr l f d) 0 w):=by
 obtain⟨i0,hi0,hz0,hz1,hz2⟩:=info_parts info_ext;have hval:=XRight_any ao n cap l w h hf;have H:=Wd h;obtain⟨s1,s2⟩:=xfull hd;have hwr:Hid (EM.wr l f d=EM.merge (EM.part 0 f l ++ [(f,d)] ++ EM.part (f+d.size) 1048576 l)):=by show _=_;unfold EM.wr;rw[if_neg hd]
 have hwk:=Wd (EM.wk_write hv h0 h1 (by omega));have hn:n<=1048576:=by have:=(ok_nums hv).1;have:=h.1;omega
 have hok:=Wd (fun k hk=>ok_each hv k hk);have htk:=Wd (fun lo hi k hk=>EM.part_take lo hi l k hk);have hlen:=Wd (fun lo hi k=>EM.part_length lo hi (l.take k));have L:=Wd h.1;rw[hv] at hval;have hval:=Wd hval;have g1:decide (f<0)=false:=by simp;omega
 have g2:decide (1048576<f)=false:=by simp;omega
 have g3:decide (1048576-f<(d.size:Int))=false:=by simp;omega
 clear hv h;go_enter func127,ntmps127
 go_wp2_with fail
 refine hval.out.mono ?_;rintro e w1 ⟨rfl,bel1⟩;go_wp2_with fail
 clear g1 g2 g3;go_loopw [10,11] (fun v i wr=>∃ (k m:Nat) (q:List (Int×ByteArray)),k<=n/\m<=k/\i=.int .i64 k/\Hid (EM.part 0 f (l.take k)=q/\q.length=m)/\wr.ownsRow w.heap.size 211 2 v m (ecl q)/\Below w.heap.size w wr) (fun _ i _=>n-(intOf i).toNat)
 case atStart=>exact⟨0,0,[],Nat.zero_le _,Nat.le_refl _,rfl,Wd ⟨rfl,rfl⟩,World.ownsRow_nil _ _ _ _,bel1⟩
 case round=>
  clear bel1 hval;obtain⟨k,m,q,hk,hmk,rfl,hq,hown,bel⟩:=hrel;obtain⟨ox,cx,rfl⟩:=Own.form hown
  by_cases hlt:k<n
  ·obtain⟨b1,o1,rfl,g1⟩:=(H.out.below bel (Nat.le_refl _)).at_ (by omega);have k1:k<l.length:=by rw[L.out];exact hlt
   obtain⟨e2,e3⟩:=g1 k hlt;have hft:=hok.out k k1;have hnx:=Wd (htk.out 0 f k k1);obtain⟨⟨a,c⟩,hx⟩:∃ x,l[k]=x:=⟨_,rfl⟩;simp only[hx] at e2 e3 hft hnx;obtain⟨hc0,ha,had⟩:=hft;have hc:=Wd (fun w=>rcut_any a c 0 f w ha had (by unfold I64;omega) (by unfold I64;omega));have hnext:Hid (EM.part 0 f (l.take (k+1))=q ++ (EM.piece 0 f (a,c)).toList):=by
    show _=_
    rw[hnx.out,hq.out.1]
   have hm:Hid (m=q.length):=hq.out.2.symm;have hlk:Hid ((EM.part 0 f (l.take (k+1))).length<=k+1):=by
    have:=hlen.out 0 f (k+1);rw[List.length_take] at this;exact Nat.le_trans this (Nat.min_le_left _ _)
   clear hx g1 k1 hnx hq;go_wp2_with fail
   refine (hc.out _).mono ?_;rintro e w2 ⟨ao,nn,c',rfl,hxs,bel2⟩;have hown2:=Own.below hown bel2;have bel3:=below_tr bel bel2;have hmn:m+nn<=k+1:=by
    have h1:=hlk.out;rw[hnext.out,List.length_append,hxs.1,<-hm.out] at h1;exact h1
   have hxs:=Wd hxs;clear hown bel bel2 hc;go_wp2_with (at_builtin;apply Hid.out)
   refine Wd ?_;refine wpList_append_ext rfl (.tmp 50) (.tmp 56) rfl w.heap.size _ m _ rfl hown2 ao nn c' _ rfl hxs.out (by omega) bel3.size ?_;intro v2 w3 hown3 hgrow;obtain⟨o2,c2,rfl⟩:=Own.form hown3;have bel4:=bel3.grown hgrow bel3.size (fun k h=>Own.ge hown2 k h);have hfin:Hid (EM.part 0 f (l.take (k+1))=q ++ (EM.piece 0 f (a,c)).toList/\(q ++ (EM.piece 0 f (a,c)).toList).length=m+nn):=⟨hnext.out,by rw[List.length_append,hxs.out.1,<-hm.out]⟩;rw[<-ecl_append] at hown3;clear hown2 bel3 hgrow hxs hnext hm;go_wp2_with fail
   go_roundw
   case rel=>exact⟨k+1,m+nn,_,by omega,hmn,by go_num,hfin,hown3,bel4⟩
   case measure=>simp[intOf];omega
  ·obtain rfl:n=k:=by omega
   have hh:Hid (EM.part 0 f l=q):=by
    have:=hq.out.1;rwa[List.take_of_length_le (by rw[L.out];exact Nat.le_refl _)] at this
   have hm:=Wd hq.out.2;clear hq;go_wp2_with (at_builtin;apply Hid.out)
   refine Wd ?_;refine wpList_append_own_wide _ rfl (.tmp 58) (.tmp 62) 123 rfl w.heap.size 211 i0 (.agg #[.int .i64 0,.string ByteArray.empty]) 2 24 underlying123 hi0 hz0 hz1 hz2 rfl (by decide) _ m (ecl q) rfl (hown.alloc _) ⟨wr.heap.size,0,none⟩ 1 1 [.int .i64 f,.string d] rfl rfl (Own.cells_two _ _ _ _ _) (by intro u hu;simp at hu;rcases hu with rfl|rfl <;> rfl) (by unfold maxLen;omega) (by omega) (by simp;have:=bel.size;omega) ?_
   intro v2 w2 hown2 hgrow _;obtain⟨ao2,cap2,rfl⟩:=Own.form hown2;have bel2:=(bel.alloc bel.size _).grown hgrow (by simp;have:=bel.size;omega) (fun k h=>Own.ge hown k h);have hown3:w2.ownsRow w.heap.size 211 2 (.slice ao2 (m+1) cap2) (m+1+0) (ecl (q ++ [(f,d)] ++ [])):=by
    rw[ecl_append,ecl_append];simpa[ecl] using hown2
   clear hown bel hgrow hown2;go_wp2_with fail
   go_loopw [10,12] (fun v i wr=>∃ (k m2:Nat) (q2:List (Int×ByteArray)),k<=n/\m2<=k/\i=.int .i64 k/\Hid (EM.part (f+d.size) 1048576 (l.take k)=q2/\q2.length=m2)/\wr.ownsRow w.heap.size 211 2 v (m+1+m2) (ecl (q ++ [(f,d)] ++ q2))/\Below w.heap.size w wr) (fun _ i _=>n-(intOf i).toNat)
   case atStart=>exact⟨0,0,[],Nat.zero_le _,Nat.le_refl _,rfl,Wd ⟨rfl,rfl⟩,hown3,bel2⟩
   case round=>
    clear bel2 hown3;obtain⟨k,m2,q2,hk,hmk2,rfl,hq,hown,bel⟩:=hrel;obtain⟨ox,cx,rfl⟩:=Own.form hown
    by_cases hlt:k<n
    ·obtain⟨b1,o1,rfl,g1⟩:=(H.out.below bel (Nat.le_refl _)).at_ (by omega);have k1:k<l.length:=by rw[L.out];exact hlt
     obtain⟨e2,e3⟩:=g1 k hlt;have hft:=hok.out k k1;have hnx:=Wd (htk.out (f+d.size) 1048576 k k1);obtain⟨⟨a,c⟩,hx⟩:∃ x,l[k]=x:=⟨_,rfl⟩;simp only[hx] at e2 e3 hft hnx;obtain⟨hc0,ha,had⟩:=hft;have hc:=Wd (fun w=>rcut_any a c (f+d.size) 1048576 w ha had (by unfold I64;omega) (by unfold I64;omega));have hnext:Hid (EM.part (f+d.size) 1048576 (l.take (k+1))=q2 ++ (EM.piece (f+d.size) 1048576 (a,c)).toList):=by
      show _=_
      rw[hnx.out,hq.out.1]
     have hm2:Hid (m2=q2.length):=hq.out.2.symm;have hlk:Hid ((EM.part (f+d.size) 1048576 (l.take (k+1))).length<=k+1):=by
      have:=hlen.out (f+d.size) 1048576 (k+1);rw[List.length_take] at this;exact Nat.le_trans this (Nat.min_le_left _ _)
     clear hx g1 k1 hnx hq;go_wp2_with fail
     refine (hc.out _).mono ?_;rintro e w2 ⟨ao,nn,c',rfl,hxs,bel2⟩;have hown2:=Own.below hown bel2;have bel3:=below_tr bel bel2;have hmn:m2+nn<=k+1:=by
      have h1:=hlk.out;rw[hnext.out,List.length_append,hxs.1,<-hm2.out] at h1;exact h1
     have hxs:=Wd hxs;clear hown bel bel2 hc;go_wp2_with (at_builtin;apply Hid.out)
     refine Wd ?_;refine wpList_append_ext rfl (.tmp 70) (.tmp 76) rfl w.heap.size _ (m+1+m2) _ rfl hown2 ao nn c' _ rfl hxs.out (by omega) bel3.size ?_;intro v2 w3 hown3 hgrow;obtain⟨o2,c2,rfl⟩:=Own.form hown3;have bel4:=bel3.grown hgrow bel3.size (fun k h=>Own.ge hown2 k h);have hfin:Hid (EM.part (f+d.size) 1048576 (l.take (k+1))=q2 ++ (EM.piece (f+d.size) 1048576 (a,c)).toList/\(q2 ++ (EM.piece (f+d.size) 1048576 (a,c)).toList).length=m2+nn):=⟨hnext.out,by rw[List.length_append,hxs.out.1,<-hm2.out]⟩;rw[<-ecl_append,List.append_assoc] at hown3;clear hown2 bel3 hgrow hxs hnext hm2;go_wp2_with fail
     go_roundw
     case rel=>exact⟨k+1,m2+nn,_,by omega,hmn,by go_num,hfin,(by rw[show m+1+(m2+nn)=m+1+m2+nn from (Nat.add_assoc _ _ _).symm];exact hown3),bel4⟩
     case measure=>simp[intOf];omega
    ·obtain rfl:n=k:=by omega
     have hh2:Hid (EM.part (f+d.size) 1048576 l=q2):=by
      have:=hq.out.1;rwa[List.take_of_length_le (by rw[L.out];exact Nat.le_refl _)] at this
     obtain⟨all,hall⟩:∃ all,q ++ [(f,d)] ++ q2=all:=⟨_,rfl⟩;obtain⟨N,hN⟩:∃ N,m+1+m2=N:=⟨_,rfl⟩;have hNl:Hid (all.length=N):=by
      show _=_
      rw[<-hall,List.length_append,List.length_append,hm.out,hq.out.2];exact hN
     have hN2:N<=2097153:=by omega
     rw[hall,hN] at hown;rw[hN];have hmg:Hid (EM.wr l f d=EM.merge all):=by
      show _=_
      rw[hwr.out,hh.out,hh2.out,hall]
     have hwka:Hid (EM.wk 0 all):=by
      have:=hwk.out;rw[hh.out,hh2.out,hall] at this;exact this
     have HX:=Wd (XS_own hown);have hsz:w.heap.size<=wr.heap.size:=bel.size;clear hq hall hh hh2 hm hwr hwk hlen htk hok H L hN hown;obtain⟨wa,rfl⟩:∃ wa,wa=wr:=⟨wr,rfl⟩;go_wp2_with fail
     go_loopw [13,14] (fun v i w'=>∃ (k c:Nat) (o:List (Int×ByteArray)),k<=N/\c<=k/\i=.int .i64 k/\Hid (EM.merge (all.take k)=o/\o.length=c)/\w'.ownsRow wa.heap.size 211 2 v c (ecl o)/\Below wa.heap.size wa w') (fun _ i _=>N-(intOf i).toNat)
     case atStart=>exact⟨0,0,[],Nat.zero_le _,Nat.le_refl _,rfl,Wd ⟨rfl,rfl⟩,World.ownsRow_nil _ _ _ _,Below.refl _ _⟩
     case round=>
      obtain⟨k,c,o,hk,hck,rfl,ho,hown,bel2⟩:=hrel
      by_cases hlt:k<N
      ·obtain⟨b1,o1,rfl,g1⟩:=(HX.out.below bel2 (Nat.le_refl _)).at_ (by omega);have k1:k<all.length:=by rw[hNl.out];exact hlt
       obtain⟨e1,e2⟩:=g1 k hlt;obtain⟨hd0,ha,had,-⟩:=EM.wk_at hwka.out k k1;have hput:Hid (EM.merge (all.take (k+1))=EM.put o all[k]):=by
        show _=_
        rw[EM.merge_take all k k1,ho.out.1]
       have hoo:=Wd (ok_mem (EM.ok_merge (EM.wk_take hwka.out k)));rw[ho.out.1] at hoo;obtain⟨⟨a,x⟩,hx⟩:∃ x,all[k]=x:=⟨_,rfl⟩;simp only[hx,EM.fin] at e1 e2 hd0 ha had hput;clear hx g1;rcases List.eq_nil_or_concat o with rfl|⟨p,⟨ya,yd⟩,rfl⟩
       ·obtain rfl:c=0:=ho.out.2.symm;obtain⟨oo,co,rfl⟩:=Own.form hown;have hnm:Hid (EM.merge (all.take (k+1))=[(a,x)]):=by show _=_;rw[hput.out];exact EM.put_nil _
        clear ho hput hoo;go_wp2_with fail
        go_quiet (fail)
        obtain⟨W,hW⟩:∃ W,wr.drewN nq=W:=⟨_,rfl⟩;have c0:W.cell? ⟨b1,o1+k*2,none⟩=some (.int .i64 a):=by rw[<-hW];exact e1
        have c1:W.cell? ⟨b1,o1+k*2+1,none⟩=some (.string x):=by rw[<-hW];exact e2
        have hown4:W.ownsRow wa.heap.size 211 2 (.slice oo 0 co) 0 (ecl []):=by rw[<-hW];exact hown
        have bel4:Below wa.heap.size wa W:=by rw[<-hW];exact below_drewN bel2 _
        rw[hW];clear hW e1 e2 hown bel2;go_wp2_with (at_builtin;apply Hid.out)
        refine Wd ?_;refine wpList_append_own_wide _ rfl (.tmp 115) (.tmp 120) 123 rfl wa.heap.size 211 i0 (.agg #[.int .i64 0,.string ByteArray.empty]) 2 24 underlying123 hi0 hz0 hz1 hz2 rfl (by decide) _ 0 (ecl []) rfl (hown4.alloc _) ⟨W.heap.size,0,none⟩ 1 1 [.int .i64 a,.string x] rfl rfl (Own.cells_two _ _ _ _ _) (by intro u hu;simp at hu;rcases hu with rfl|rfl <;> rfl) (by unfold maxLen;omega) (by omega) (by simp;have:=bel4.size;omega) ?_
        intro v2 w2 hown5 hgrow _;obtain⟨ao2,cap2,rfl⟩:=Own.form hown5;have bel5:=(bel4.alloc bel4.size _).grown hgrow (by simp;have:=bel4.size;omega) (fun k h=>Own.ge hown4 k h);clear c0 c1 hown4 bel4 hgrow;go_wp2_with fail
        go_roundw
        case rel=>exact⟨k+1,1,[(a,x)],by omega,by omega,by go_num,Wd ⟨hnm.out,rfl⟩,hown5,bel5⟩
        case measure=>simp[intOf];omega
       ·rw[List.concat_eq_append] at *;obtain rfl:c=p.length+1:=by have:=ho.out.2;rw[<-this];simp
        obtain⟨y1,y2⟩:=hoo.out (ya,yd) (by simp);simp only at y1 y2;obtain⟨g,co,hvv,hgb,hgl,hco⟩:=Own.lies hown (by omega);subst hvv;have hend:Hid (∀ W,XS W (some ⟨g,0,none⟩) (p.length+1) co (p ++ [(ya,yd)])->W.cell? ⟨b1,o1+k*2,none⟩=some (.int .i64 a)->Calls prog 164 #[.slice (some ⟨g,0,none⟩) (p.length+1) co] W fun e W'=>e=.returned (.int .i64 (ya+yd.size))/\Below W.heap.size W W'/\W'.cell? ⟨b1,o1+k*2,none⟩=some (.int .i64 a)):=by
         intro W hxs hc;have:=rend_any _ _ _ _ W hxs (fun z hz=>by have:=hoo.out z hz;omega);rw[ends_snoc] at this;refine this.mono ?_;rintro e W' ⟨rfl,belp⟩;exact⟨rfl,belp,by rw[belp.cell (World.block_lt_of_cell? W _ hc)];exact hc⟩
        have hxo:=XS_own hown;have hps:EM.put (p ++ [(ya,yd)]) (a,x)=if ya+yd.size=a then p ++ [(ya,yd ++ x)] else p ++ [(ya,yd)] ++ [(a,x)]:=EM.put_snoc _ _ _;have n1:((p.length:Int)+1-1)=p.length:=by omega
        have n2:(0:Int)<(p.length:Int)+1:=by omega
        go_wp2_with fail
        go_region_held3 (fun w'=>w'.cell? ⟨b1,o1+k*2,none⟩=some (.int .i64 a)) (first|assumption|go_keep)
         (first
          | (go_at_call 164;refine (hend.out _ (XS.drew hxo) (by assumption)).mono ?_;rintro e w5 ⟨rfl,bel5,k0⟩))
        have hown5:=Own.below hown (Own.bundrew bel5);have bel6:=below_tr bel2 (Own.bundrew bel5);have k1':w5.cell? ⟨b1,o1+k*2+1,none⟩=some (.string x):=by rw[(Own.bundrew bel5).cell (World.block_lt_of_cell? wr _ e2)];exact e2
        have f2:w5.cell? ⟨g,p.length*2+1,none⟩=some (.string yd):=by
         rw[hown5.cellAt (p.length*2+1) (by omega)];have:=(ecl_get (p ++ [(ya,yd)]) p.length (by simp)).2;rw[this];simp
        have ff:=hown5.frozenAt (p.length*2+1);clear hown bel2 bel5 e1 e2 hend hxo hoo
        by_cases hya:ya+yd.size=a
        ·have hyq:((ya+(yd.size:Int)) == a)=true:=by simpa using hya
         have hnm:Hid (EM.merge (all.take (k+1))=p ++ [(ya,yd ++ x)]):=by show _=_;rw[hput.out,hps,if_pos hya]
         have hst:=hown5.stored (p.length*2+1) (.string (yd ++ x));rw[ecl_set] at hst;have hst:=Wd hst;clear hps hput ho hown5;go_wp2_with fail
         go_region
         have bel7:=(bel6.setCell (p:=⟨g,p.length*2+1,none⟩) hgb (.string (yd ++ x))).drew;have hown7:=hst.out.1.drew;clear k0 k1' f2 ff bel6 hst;go_wp2_with fail
         go_roundw
         case rel=>exact⟨k+1,p.length+1,p ++ [(ya,yd ++ x)],by omega,by omega,by go_num,Wd ⟨hnm.out,by simp⟩,hown7,bel7⟩
         case measure=>simp[intOf];omega
        ·have hyq:((ya+(yd.size:Int)) == a)=false:=by simpa using hya
         have hnm:Hid (EM.merge (all.take (k+1))=p ++ [(ya,yd)] ++ [(a,x)]):=by show _=_;rw[hput.out,hps,if_neg hya]
         clear hps hput ho f2 ff;go_wp2_with (at_builtin;apply Hid.out)
         refine Wd ?_;refine wpList_append_own_wide _ rfl (.tmp 115) (.tmp 120) 123 rfl wa.heap.size 211 i0 (.agg #[.int .i64 0,.string ByteArray.empty]) 2 24 underlying123 hi0 hz0 hz1 hz2 rfl (by decide) _ (p.length+1) (ecl (p ++ [(ya,yd)])) rfl (hown5.alloc _) ⟨w5.heap.size,0,none⟩ 1 1 [.int .i64 a,.string x] rfl rfl (Own.cells_two _ _ _ _ _) (by intro u hu;simp at hu;rcases hu with rfl|rfl <;> rfl) (by unfold maxLen;omega) (by omega) (by simp;have:=bel6.size;omega) ?_
         intro v2 w2 hown6 hgrow _;obtain⟨ao2,cap2,rfl⟩:=Own.form hown6;have bel7:=(bel6.alloc bel6.size _).grown hgrow (by simp;have:=bel6.size;omega) (fun k h=>Own.ge hown5 k h);clear k0 k1' hown5 bel6 hgrow;go_wp2_with fail
         go_roundw
         case rel=>exact⟨k+1,p.length+1+1,(p ++ [(ya,yd)]) ++ [(a,x)],by omega,by omega,by go_num,Wd ⟨hnm.out,by simp⟩,(by rw[ecl_append];exact hown6),bel7⟩
         case measure=>simp[intOf];omega
      ·obtain rfl:k=N:=by omega
       have hh:Hid (EM.merge all=o):=by
        have:=ho.out.1;rwa[List.take_of_length_le (by rw[hNl.out];exact Nat.le_refl _)] at this
       have hc:=Wd ho.out.2;clear ho;go_wp2_with fail
       go_ret2
       refine⟨_,rfl,?_,bel.trans (bel2.mono bel.size)⟩;rw[hmg.out,hh.out,hc.out];exact Own.low hsz hown
theorem rWrite_none (ao:Option Addr)(n cap:Nat)(l:List (Int×ByteArray))(f:Int)(d:ByteArray)(w:World)(h:XS w ao n cap l)(hf:XFit l)(hv:EM.ok 0 l=true)(h0:0<=f)(h1:f+d.size<=1048576)(hd:d.size=0) :
 Calls prog 127 #[.slice ao n cap,.int .i64 f,.string d] w (Gave (EM.wr l f d) 0 w):=by
 obtain⟨i0,hi0,hz0,hz1,hz2⟩:=info_parts info_ext;have hval:=XRight_any ao n cap l w h hf;have H:=Wd h;obtain⟨s1,s2⟩:=xempty hd;have hwr:=Wd (EM.wr_nil (f:=f) hv hd);have hn:n<=1048576:=by have:=(ok_nums hv).1;have:=h.1;omega
 have L:=Wd h.1;rw[hv] at hval;have hval:=Wd hval;have hf1:f<=1048576:=by omega
 have g1:decide (f<0)=false:=by simp;omega
 have g2:decide (1048576<f)=false:=by simp;omega
 have g3:decide (1048576-f<(d.size:Int))=false:=by simp;omega
 clear h hv;go_enter func127,ntmps127
 go_wp2_with fail
 refine hval.out.mono ?_;rintro e w1 ⟨rfl,bel1⟩;go_wp2_with (at_make;apply Hid.out)
 refine Wd ?_;refine wpList_make_own _ rfl _ _ 123 rfl w.heap.size 211 i0 (.agg #[.int .i64 0,.string ByteArray.empty]) 2 underlying123 hi0 hz0 hz1 .i64 .i64 _ n rfl rfl rfl (by rw[hz2];omega) (by unfold maxLen;omega) bel1.size ?_;intro w2 hown hgrow;have bel2:=bel1.grown hgrow bel1.size (fun k hk=>by cases hk);have hxs:=Wd (H.out.below bel2 (Nat.le_refl _));clear hgrow bel1 hval g1 g2 g3;go_wp2_with (at_builtin;apply Hid.out)
 refine Wd ?_;refine wpList_append_ext rfl (.tmp 37) (.tmp 38) rfl w.heap.size _ 0 _ rfl hown ao n cap _ rfl hxs.out (by omega) bel2.size ?_;intro v2 w3 hown3 hgrow;have bel4:=bel2.grown hgrow bel2.size (fun k h=>Own.ge hown k h);rw[Nat.zero_add,List.nil_append] at hown3;go_wp2_with fail
 go_ret2
 refine⟨_,rfl,?_,bel4⟩;rw[hwr.out,L.out];exact hown3
theorem rWrite_any (ao:Option Addr)(n cap:Nat)(l:List (Int×ByteArray))(f:Int)(d:ByteArray)(w:World)(h:XS w ao n cap l)(hf:XFit l)(hff:I64 f)(hd:d.size<=maxLen) :
 Calls prog 127 #[.slice ao n cap,.int .i64 f,.string d] w (Gave (wrL l f d) (wrE l f d) w):=by
 have hval:=XRight_any ao n cap l w h hf;obtain⟨f1,f2⟩:=hff;unfold maxLen at hd
 cases hv:EM.ok 0 l with
 | false=>
   have HE:=Wd (fun w'=>@gave_no (wrL l f d) (wrE l f d) w w' 2 (wr_no (by unfold wrE;rw[hv];exact if_neg (by simp)) (by decide)));rw[hv] at hval;have hval:=Wd hval;clear hv h;go_enter func127,ntmps127
   go_wp2_with fail
   refine hval.out.mono ?_;rintro e w1 ⟨rfl,bel1⟩;go_wp2_with fail
   go_ret2
   exact HE.out _ bel1
 | true=>
   by_cases h0:f<0
   ·have HE:=Wd (fun w'=>@gave_no (wrL l f d) (wrE l f d) w w' 2 (wr_no (by unfold wrE;rw[hv];exact if_neg (by omega)) (by decide)));rw[hv] at hval;have hval:=Wd hval;clear hv h;go_enter func127,ntmps127
    go_wp2_with fail
    refine hval.out.mono ?_;rintro e w1 ⟨rfl,bel1⟩;go_wp2_with fail
    go_ret2
    exact HE.out _ bel1
   by_cases h1:f+d.size<=1048576
   ·have he:wrE l f d=0:=by unfold wrE;rw[hv,if_pos ⟨rfl,by omega⟩,if_pos h1]
    have hL:wrL l f d=EM.wr l f d:=by unfold wrL;rw[if_pos he]
    rw[he,hL]
    by_cases hd0:d.size=0
    ·exact rWrite_none ao n cap l f d w h hf hv (by omega) h1 hd0
    ·exact rWrite_in ao n cap l f d w h hf hv (by omega) h1 hd0
   ·have HE:=Wd (fun w'=>@gave_no (wrL l f d) (wrE l f d) w w' 28 (wr_no (by unfold wrE;rw[hv,if_pos ⟨rfl,by omega⟩,if_neg h1]) (by decide)));rw[hv] at hval;have hval:=Wd hval;clear hv h
    by_cases h2:1048576<f
    ·go_enter func127,ntmps127
     go_wp2_with fail
     refine hval.out.mono ?_;rintro e w1 ⟨rfl,bel1⟩;go_wp2_with fail
     go_ret2
     exact HE.out _ bel1
    ·have h3:1048576-f<(d.size:Int):=by omega
     go_enter func127,ntmps127
     go_wp2_with fail
     refine hval.out.mono ?_;rintro e w1 ⟨rfl,bel1⟩;go_wp2_with fail
     go_ret2
     exact HE.out _ bel1
end Go.Proofs.YtfffibepcdlldaaGreat

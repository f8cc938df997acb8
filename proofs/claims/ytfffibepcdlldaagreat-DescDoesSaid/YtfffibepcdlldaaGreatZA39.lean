/- A part. -/
import Derived.Test.YtfffibepcdlldaaGreatZA38
import Derived.Test.YtfffibepcdlldaaGreatZA01
import Derived.Deep.RegionHeld3
import Derived.OrdersHeld
set_option linter.unusedVariables false
set_option linter.unusedSimpArgs false
set_option maxRecDepth 100000
set_option maxHeartbeats 64000000
open Go.Proofs.Tryz

namespace Go.Proofs.YtfffibepcdlldaaGreat
open Go.ChangeShapes Go.WideShapes Go.ChangeAt Go.RowKit
namespace RD
open DC (Of Ls Ps Ou Sm lk fx fx_le flg lowO lowO_spec lowO_full cntO updO setP opnR reaR isFlags_any)
open IN (Keeps lt_of_some cellkept)
open IS (I64)
section
variable {K:Cd}{c q:Nat}{S:Sm}{D:NT.Ds}{P:Ps}{O:Ou}{vo vp:Value}{qo:List Of}{qp:List PE}{w w':World}
def zx (q:List Of):Nat:=q.findIdx fun o=>decide (o.refs=0)
theorem zx_le (q:List Of):zx q<=q.length:=List.findIdx_le_length
theorem zx_ne (q:List Of)(j:Nat)(hj:j<q.length)(h:j<zx q):q[j].refs≠0:=by
 have:=List.not_of_lt_findIdx h;simpa using this
theorem zx_at (q:List Of)(h:zx q<q.length):q[zx q].refs=0:=by
 exact of_decide_eq_true (List.findIdx_getElem (p:=fun o:Of=>decide (o.refs=0)) (w:=h))
theorem Oq_ne {j:Nat}(h:j<zx qo):Oq qo j≠none:=by
 have hj:j<qo.length:=Nat.lt_of_lt_of_le h (zx_le qo);have:=zx_ne qo j hj h;unfold Oq;rw[List.getElem?_eq_getElem hj];simp[this]
theorem Oq_zx:Oq qo (zx qo)=none:=by
 unfold Oq;rcases Nat.lt_or_ge (zx qo) qo.length with h|h
 ·rw[List.getElem?_eq_getElem h];simp[zx_at qo h]
 ·rw[List.getElem?_eq_none h]
theorem low_zx {m:Nat}(h:zx qo<=m):lowO (Oq qo) m=zx qo:=by
 obtain⟨h1,h2,h3⟩:=lowO_spec (Oq qo) m;rcases Nat.lt_trichotomy (lowO (Oq qo) m) (zx qo) with h4|h4|h4
 ·exact absurd (h3 (by omega)) (Oq_ne h4)
 ·exact h4
 ·exact absurd Oq_zx (h2 _ h4)
theorem Oq_snoc:Oq (qo ++ [o0])=Oq qo:=by
 funext k
 unfold Oq;rcases Nat.lt_trichotomy k qo.length with h|h|h
 ·rw[List.getElem?_append_left h]
 ·subst h;simp[o0]
 ·rw[List.getElem?_eq_none (by simp;omega),List.getElem?_eq_none (by omega)]
theorem room_any (w:World)(h:QT K vo vp qo qp w)(hol:qo.length<=K.opens)(hop:K.opens<=1024) :
 Calls prog 82 #[.pointer (some ⟨K.d,0,none⟩)] w fun e w'=>e=.returned (.int .i64 (if cntO (Oq qo) K.opens<K.opens then (lowO (Oq qo) K.opens:Int) else -1))/\∃ vo2 qo2,QT K vo2 vp qo2 qp w'/\Oq qo2=Oq qo/\qo2.length<=K.opens/\(cntO (Oq qo) K.opens<K.opens->lowO (Oq qo) K.opens<qo2.length)/\Keeps K.base OT w w':=by
 have hz:=zx_le qo;have hlow:=low_zx (qo:=qo) (m:=K.opens) (by omega);have hfull:=lowO_full (Oq qo) K.opens;rw[hlow] at hfull ⊢;rcases Nat.lt_or_ge (zx qo) qo.length with h1|h1
 ·refine (room_at (zx qo) w h h1 (fun j hj=>zx_ne qo j hj) (zx_at qo h1) (by omega)).mono ?_;rintro e w' ⟨rfl,rfl⟩;exact⟨by rw[if_pos (by omega)],_,_,h,rfl,hol,fun _=>h1,Keeps.refl _ _ _⟩
 ·have hall:∀ j (hj:j<qo.length),qo[j].refs≠0:=fun j hj=>zx_ne qo j hj (by omega);rcases Nat.lt_or_ge qo.length K.opens with h2|h2
  ·refine (room_grow w h hall (by omega) h2 hop).mono ?_;rintro e w' ⟨rfl,vo2,h3,h4⟩;exact⟨by rw[if_pos (by omega),show zx qo=qo.length by omega],_,_,h3,Oq_snoc,by simp;omega,fun _=>by simp;omega,h4⟩
  ·refine (room_none w h hall (by omega) (by omega)).mono ?_;rintro e w' ⟨rfl,hb⟩;exact⟨by rw[if_neg (by omega)],_,_,h.keep hb,rfl,hol,fun h3=>by omega,Keeps.new hb h.low⟩
theorem QT.setO4 {g cap N:Nat}(h:QT K (.slice (some ⟨g,0,none⟩) N cap) vp qo qp w){i:Nat}(hi:i<qo.length)(x:Of) :
 QT K (.slice (some ⟨g,0,none⟩) N cap) vp (qo.set i x) qp ((((w.setCell ⟨g,i*4,none⟩ (.int .i64 x.ino)).setCell ⟨g,i*4+1,none⟩ (.int .i64 x.off)).setCell ⟨g,i*4+2,none⟩ (.int .i64 x.flags)).setCell ⟨g,i*4+3,none⟩ (.int .i64 x.refs))/\Keeps K.base OT w ((((w.setCell ⟨g,i*4,none⟩ (.int .i64 x.ino)).setCell ⟨g,i*4+1,none⟩ (.int .i64 x.off)).setCell ⟨g,i*4+2,none⟩ (.int .i64 x.flags)).setCell ⟨g,i*4+3,none⟩ (.int .i64 x.refs)):=by
 have s1:=h.setO hi 0 (.int .i64 x.ino) (by decide) { qo[i] with ino:=x.ino } rfl;rw[Nat.add_zero] at s1;have s2:=s1.1.setO (i:=i) (by rw[List.length_set];exact hi) 1 (.int .i64 x.off) (by decide) { qo[i] with ino:=x.ino,off:=x.off } (by rw[List.getElem_set_self];rfl);rw[List.set_set] at s2;have s3:=s2.1.setO (i:=i) (by rw[List.length_set];exact hi) 2 (.int .i64 x.flags) (by decide) { qo[i] with ino:=x.ino,off:=x.off,flags:=x.flags } (by rw[List.getElem_set_self];rfl);rw[List.set_set] at s3;have s4:=s3.1.setO (i:=i) (by rw[List.length_set];exact hi) 3 (.int .i64 x.refs) (by decide) x (by rw[List.getElem_set_self];rfl);rw[List.set_set] at s4;exact⟨s4.1,s1.2.trans (s2.2.trans (s3.2.trans s4.2))⟩
end
end RD
namespace RD
open DC (Of Ls Ps Ou Sm lk fx fx_le flg lowO lowO_spec lowO_full cntO updO setP opnR reaR rea_ok isFlags_any)
open IN (Keeps lt_of_some cellkept)
open IS (I64)
section
variable {K:Cd}{c q:Nat}{S:Sm}{D:NT.Ds}{P:Ps}{O:Ou}{vo vp:Value}{qo:List Of}{qp:List PE}{w w':World}
theorem opn_none (pid:Int)(p:ByteArray)(fl:Int)(w:World)(h:RT K c S D P O w)(hk:Kn K q S D P O)(e:lk P pid=none) :
 Calls prog 42 #[.pointer (some ⟨K.d,0,none⟩),.int .i64 pid,.string p,.int .i64 fl] w fun e w'=>e=.returned (.tuple #[.int .i64 0,.int .i64 19])/\RO K c S D P O w w':=by
 have h0:=Wd (h.same (Below.refl _ _));obtain⟨⟨vo,vp,qo,qp,h1,rfl,rfl,hol⟩,htr⟩:=h;have hlen:qp.length<=100000:=by have:=hk.few;rw[Pq_len] at this;have:=hk.lim;omega
 have cA:=at_any pid h1 hlen;unfold atA at cA;rw[if_pos e] at cA;have cA:=Wd cA;clear h1 htr hk e hol hlen;go_enter func42,ntmps42
 go_wp2_with fail
 refine cA.out.mono ?_;rintro e w1 ⟨rfl,rfl⟩;go_wp2_with fail
 go_ret2
 exact⟨rfl,h0.out⟩
theorem opn_flag (pid:Int)(p:ByteArray)(fl:Int)(w:World)(h:RT K c S D P O w)(hk:Kn K q S D P O){L:Ls}(e:lk P pid=some L)(hf:flg fl=false) :
 Calls prog 42 #[.pointer (some ⟨K.d,0,none⟩),.int .i64 pid,.string p,.int .i64 fl] w fun e w'=>e=.returned (.tuple #[.int .i64 0,.int .i64 2])/\RO K c S D P O w w':=by
 have h0:=Wd (h.same (Below.refl _ _));obtain⟨⟨vo,vp,qo,qp,h1,rfl,rfl,hol⟩,htr⟩:=h;have hlen:qp.length<=100000:=by have:=hk.few;rw[Pq_len] at this;have:=hk.lim;omega
 have cA:=at_any pid h1 hlen;unfold atA at cA;rw[if_neg (by rw[e];simp)] at cA;have cA:=Wd cA;have cI:=isFlags_any fl w;rw[hf] at cI;have cI:=Wd cI;clear h1 htr hk e hol hlen hf;generalize px qp pid=i at *;go_enter func42,ntmps42
 go_wp2_with fail
 refine cA.out.mono ?_;rintro e w1 ⟨rfl,rfl⟩;go_wp2_with fail
 refine cI.out.mono ?_;rintro e w2 ⟨rfl,rfl⟩;go_wp2_with fail
 go_ret2
 exact⟨rfl,h0.out⟩
theorem opn_full (pid:Int)(p:ByteArray)(fl:Int)(w:World)(h:RT K c S D P O w)(hk:Kn K q S D P O){L:Ls}(e:lk P pid=some L)(hf:flg fl=true)(hx:¬ fx L<K.files) :
 Calls prog 42 #[.pointer (some ⟨K.d,0,none⟩),.int .i64 pid,.string p,.int .i64 fl] w fun e w'=>e=.returned (.tuple #[.int .i64 0,.int .i64 22])/\RO K c S D P O w w':=by
 have h0:=Wd (h.same (Below.refl _ _));obtain⟨⟨vo,vp,qo,qp,h1,rfl,rfl,hol⟩,htr⟩:=h;have hlen:qp.length<=100000:=by have:=hk.few;rw[Pq_len] at this;have:=hk.lim;omega
 have cA:=at_any pid h1 hlen;unfold atA at cA;rw[if_neg (by rw[e];simp)] at cA;have cA:=Wd cA;have cI:=isFlags_any fl w;rw[hf] at cI;have cI:=Wd cI;obtain⟨hi,hL⟩:=px_some e;have hl:=hk.di.lks e;have hcap:=hk.cap;have cF:=free_any _ h1 hi (by rw[hL];omega);rw[hL,if_neg (by omega)] at cF;have cF:=Wd cF;clear h1 htr hk e hol hlen hf hx hi hL hl hcap;generalize px qp pid=i at *;go_enter func42,ntmps42
 go_wp2_with fail
 refine cA.out.mono ?_;rintro e w1 ⟨rfl,rfl⟩;go_wp2_with fail
 refine cI.out.mono ?_;rintro e w2 ⟨rfl,rfl⟩;go_wp2_with fail
 refine cF.out.mono ?_;rintro e w2 ⟨rfl,rfl⟩;go_wp2_with fail
 go_ret2
 exact⟨rfl,h0.out⟩
theorem opn_many (pid:Int)(p:ByteArray)(fl:Int)(w:World)(h:RT K c S D P O w)(hk:Kn K q S D P O){L:Ls}(e:lk P pid=some L)(hf:flg fl=true)(hx:fx L<K.files)(hm:¬ cntO O K.opens<K.opens) :
 Calls prog 42 #[.pointer (some ⟨K.d,0,none⟩),.int .i64 pid,.string p,.int .i64 fl] w fun e w'=>e=.returned (.tuple #[.int .i64 0,.int .i64 23])/\RO K c S D P O w w':=by
 obtain⟨⟨vo,vp,qo,qp,h1,rfl,rfl,hol⟩,htr⟩:=h;have hlen:qp.length<=100000:=by have:=hk.few;rw[Pq_len] at this;have:=hk.lim;omega
 have cA:=at_any pid h1 hlen;unfold atA at cA;rw[if_neg (by rw[e];simp)] at cA;have cA:=Wd cA;have cI:=isFlags_any fl w;rw[hf] at cI;have cI:=Wd cI;obtain⟨hi,hL⟩:=px_some e;have hl:=hk.di.lks e;have hcap:=hk.cap;have cF:=free_any _ h1 hi (by rw[hL];omega);rw[hL,if_pos (by omega)] at cF;have cF:=Wd cF;have cR:=room_any w h1 hol (by omega);rw[if_neg hm] at cR
 have cR:=Wd (cR.mono (R':=fun e w'=>e=.returned (.int .i64 (-1))/\RO K c S D (Pq qp) (Oq qo) w w') (by
  rintro e w' ⟨rfl,vo2,qo2,g1,g2,g3,-,g4⟩;rw[<-g2]
  exact⟨rfl,(RT.of g1 g3 (tr_own htr g4)).more (by omega),ZT_own g4⟩))
 clear h1 htr hk e hol hlen hf hi hL hl hcap hm hx;generalize px qp pid=i at *;generalize fx L=fd at *;go_enter func42,ntmps42
 go_wp2_with fail
 refine cA.out.mono ?_;rintro e w1 ⟨rfl,rfl⟩;go_wp2_with fail
 refine cI.out.mono ?_;rintro e w2 ⟨rfl,rfl⟩;go_wp2_with fail
 refine cF.out.mono ?_;rintro e w2 ⟨rfl,rfl⟩;go_wp2_with fail
 refine cR.out.mono ?_;rintro e w2 ⟨rfl,hr⟩;have hr:=Wd hr;go_wp2_with fail
 go_ret2
 exact⟨rfl,hr.out⟩
end
end RD
namespace RD
open DC (Of Ls Ps Ou Sm lk fx fx_le flg lowO lowO_spec lowO_full cntO updO setP opnR reaR rea_ok isFlags_any)
open IN (Keeps lt_of_some cellkept)
open IS (I64)
section
variable {K:Cd}{c q:Nat}{S:Sm}{D:NT.Ds}{P:Ps}{O:Ou}{vo vp:Value}{qo:List Of}{qp:List PE}{w w':World}
theorem opn_err (pid:Int)(p:ByteArray)(fl:Int)(w:World)(h:RT K c S D P O w)(hk:Kn K q S D P O){L:Ls}(e:lk P pid=some L)(hf:flg fl=true)(hx:fx L<K.files)(hm:cntO O K.opens<K.opens)(hp:p.size<=maxLen)(hc:c<60000)(hr:(reaR K.I S D p fl).1.2≠0) :
 Calls prog 42 #[.pointer (some ⟨K.d,0,none⟩),.int .i64 pid,.string p,.int .i64 fl] w fun e w'=>e=.returned (.tuple #[.int .i64 0,.int .i64 (reaR K.I S D p fl).1.2])/\RO K c (reaR K.I S D p fl).2.1 (reaR K.I S D p fl).2.2 P O w w':=by
 obtain⟨⟨vo,vp,qo,qp,h1,rfl,rfl,hol⟩,htr⟩:=h;have hlen:qp.length<=100000:=by have:=hk.few;rw[Pq_len] at this;have:=hk.lim;omega
 have cA:=at_any pid h1 hlen;unfold atA at cA;rw[if_neg (by rw[e];simp)] at cA;have cA:=Wd cA;have cI:=isFlags_any fl w;rw[hf] at cI;have cI:=Wd cI;obtain⟨hi,hL⟩:=px_some e;have hl:=hk.di.lks e;have hcap:=hk.cap;have cF:=free_any _ h1 hi (by rw[hL];omega);rw[hL,if_pos (by omega)] at cF;have cF:=Wd cF;have cR:=room_any w h1 hol (by omega);rw[if_pos hm] at cR
 have cR:=Wd (cR.mono (R':=fun e w'=>e=.returned (.int .i64 (lowO (Oq qo) K.opens:Int))/\Hid (Calls prog 83 #[.pointer (some ⟨K.d,0,none⟩),.string p,.int .i64 fl] w' fun e w2=>e=.returned (.tuple #[.int .i64 (reaR K.I S D p fl).1.1,.int .i64 (reaR K.I S D p fl).1.2])/\RO K c (reaR K.I S D p fl).2.1 (reaR K.I S D p fl).2.2 (Pq qp) (Oq qo) w w2)) (by
  rintro e w' ⟨rfl,vo2,qo2,g1,g2,g3,-,g4⟩;refine⟨rfl,Wd ((found_d p fl w' g1 (tr_own htr g4) hk hp hc).mono ?_)⟩;rintro e w2 ⟨rfl,f1,f2,f3⟩;rw[<-g2]
  exact⟨rfl,RT.of f1 g3 f2,(ZT_own g4).trans f3⟩))
 have hne:((reaR K.I S D p fl).1.2 != 0)=true:=by simpa using hr
 generalize reaR K.I S D p fl=r at *;clear h1 htr hk e hol hlen hf hi hL hl hcap hm hx hr;generalize px qp pid=i at *;generalize fx L=fd at *;generalize lowO (Oq qo) K.opens=k at *;go_enter func42,ntmps42
 go_wp2_with fail
 refine cA.out.mono ?_;rintro e w1 ⟨rfl,rfl⟩;go_wp2_with fail
 refine cI.out.mono ?_;rintro e w2 ⟨rfl,rfl⟩;go_wp2_with fail
 refine cF.out.mono ?_;rintro e w2 ⟨rfl,rfl⟩;go_wp2_with fail
 refine cR.out.mono ?_;rintro e w2 ⟨rfl,cD⟩;go_wp2_with fail
 refine cD.out.mono ?_;rintro e w3 ⟨rfl,hr⟩;have hr:=Wd hr;go_wp2_with fail
 go_ret2
 exact⟨rfl,hr.out⟩
end
end RD
namespace RD
open DC (Of Ls Ps Ou Sm lk fx fx_le flg lowO lowO_spec lowO_full cntO updO setP opnR reaR rea_ok isFlags_any)
open IN (Keeps lt_of_some cellkept)
open IS (I64)
section
variable {K:Cd}{c q:Nat}{S:Sm}{D:NT.Ds}{P:Ps}{O:Ou}{vo vp:Value}{qo:List Of}{qp:List PE}{w w':World}
theorem opn_yes (pid:Int)(p:ByteArray)(fl:Int)(w:World)(h:RT K c S D P O w)(hk:Kn K q S D P O){L:Ls}(e:lk P pid=some L)(hf:flg fl=true)(hx:fx L<K.files)(hm:cntO O K.opens<K.opens)(hp:p.size<=maxLen)(hc:c<60000){n:Int}{S2:Sm}{D2:NT.Ds}(hr:reaR K.I S D p fl=((n,0),S2,D2)){q2:Nat}(hq2:q2<1000000)(hf2:IN.Fine K.I K.L K.B q2 S2) :
 Calls prog 42 #[.pointer (some ⟨K.d,0,none⟩),.int .i64 pid,.string p,.int .i64 fl] w fun e w'=>e=.returned (.tuple #[.int .i64 ((fx L:Nat):Int),.int .i64 0])/\RO K c (IN.opS S2 n) D2 (setP P pid (L.set (fx L) (some (lowO O K.opens)))) (updO O (lowO O K.opens) (some ⟨n,0,fl,1⟩)) w w':=by
 obtain⟨⟨vo,vp,qo,qp,h1,rfl,rfl,hol⟩,htr⟩:=h;have hlen:qp.length<=100000:=by have:=hk.few;rw[Pq_len] at this;have:=hk.lim;omega
 have cA:=at_any pid h1 hlen;unfold atA at cA;rw[if_neg (by rw[e];simp)] at cA;have cA:=Wd cA;have cI:=isFlags_any fl w;rw[hf] at cI;have cI:=Wd cI;obtain⟨hi,hL⟩:=px_some e;have hpid:=px_at qp pid hi;have hl:=hk.di.lks e;have hcap:=hk.cap;have cF:=free_any _ h1 hi (by rw[hL];omega);rw[hL,if_pos (by omega)] at cF;have cF:=Wd cF;have cR:=room_any w h1 hol (by omega);rw[if_pos hm] at cR;have hfL:((fx L:Nat):Int)<(L.length:Int):=by omega
 have hasc:=hk.di.asc;have hlim:=hk.lim;obtain⟨k,hkk⟩:∃ k,lowO (Oq qo) K.opens=k:=⟨_,rfl⟩;rw[hkk] at cR ⊢;have hcap64:K.opens<=1024:=by omega
 -- behind room: found;behind found: the store's Open;behind it: the two stores
 have cR:=Wd (cR.mono (R':=fun e w1=>e=.returned (.int .i64 (k:Int))/\Hid (Calls prog 83 #[.pointer (some ⟨K.d,0,none⟩),.string p,.int .i64 fl] w1 fun e w2=>e=.returned (.tuple #[.int .i64 n,.int .i64 0])/\w2.cell? ⟨K.d,0,none⟩=some (.pointer (some ⟨K.rg,0,none⟩))/\Hid (Calls prog 84 #[.pointer (some ⟨K.rg,0,none⟩),.int .i64 n] w2 fun e w3=>(∃ r,e=.returned (.int .i64 r))/\∃ vo2 qo2,∃ (hk2:k<qo2.length),QT K vo2 vp qo2 qp w3/\Oq qo2=Oq qo/\qo2.length<=K.opens/\RN.RW K.base K.rt K.rg K.I K.B K.L (c+2) (IN.opS S2 n) D2 (RN.kap D2) w3/\Keeps K.base ZT w w3))) (by
  rintro e w1 ⟨rfl,vo2,qo2,g1,g2,g3,g5,g4⟩;refine⟨rfl,Wd ((found_d p fl w1 g1 (tr_own htr g4) hk hp hc).mono ?_)⟩;rw[hr];rintro e w2 ⟨rfl,f1,f2,f3⟩;refine⟨rfl,f1.box.cell rfl,Wd ((IN.rOpen_any n w2 hf2 hlim.1 hq2 f2.rs).mono ?_)⟩;rintro e w3 ⟨rfl,hrs,k3⟩
  exact⟨⟨_,rfl⟩,vo2,qo2,g5 hm,f1.store k3,g2,g3,tr_store f2 k3 hrs,((ZT_own g4).trans f3).trans (ZT_store k3)⟩))
 have fin:Hid (∀ (w3:World) (vo2:Value) (qo2:List Of) (hk2:k<qo2.length),QT K vo2 vp qo2 qp w3->Oq qo2=Oq qo->qo2.length<=K.opens->RN.RW K.base K.rt K.rg K.I K.B K.L (c+2) (IN.opS S2 n) D2 (RN.kap D2) w3->Keeps K.base ZT w w3 ->
  ∃ og N cap pg Np pcap o,vo2=.slice (some ⟨og,0,none⟩) N cap/\vp=.slice (some ⟨pg,0,none⟩) Np pcap/\(k:Int)<(N:Int)/\N<=cap/\cap<=maxLen/\((px qp pid:Nat):Int)<(Np:Int)/\Np<=pcap/\pcap<=maxLen/\L.length<=qp[px qp pid].cap/\qp[px qp pid].cap<=maxLen/\FO K (.slice (some ⟨og,0,none⟩) N cap) og k o w3/\LO K (.slice (some ⟨pg,0,none⟩) Np pcap) pg qp[px qp pid].g L.length qp[px qp pid].cap (px qp pid) w3/\w3.cell? ⟨qp[px qp pid].g,fx L,none⟩=some (.int .i64 (-1))/\¬ og=K.d/\¬ K.d=og/\¬ qp[px qp pid].g=og/\¬ og=qp[px qp pid].g/\¬ og=pg/\¬ pg=og /\
  Hid (RO K c (IN.opS S2 n) D2 (setP (Pq qp) pid (L.set (fx L) (some k))) (updO (Oq qo) k (some ⟨n,0,fl,1⟩)) w (((((w3.setCell ⟨og,k*4,none⟩ (.int .i64 n)).setCell ⟨og,k*4+1,none⟩ (.int .i64 0)).setCell ⟨og,k*4+2,none⟩ (.int .i64 fl)).setCell ⟨og,k*4+3,none⟩ (.int .i64 1)).setCell ⟨qp[px qp pid].g,fx L,none⟩ (.int .i64 (k:Int))))):=Wd (by
  intro w3 vo2 qo2 hk2 q3 e2 e3 tr3 k3;obtain⟨og,cap,rfl,hgd,-,hkN,hNc,hcm,hF⟩:=q3.fo hk2;obtain⟨pg,pcap,hvp,hiN,hPc,hpm,hlc,hlm,hG⟩:=q3.lo hi;rw[hL] at hlc hG;have n3:¬ qp[px qp pid].g=og:=own_far (q3.rl _ (List.getElem_mem hi)) q3.ro (by decide) rfl rfl;have n5:¬ og=pg:=own_far q3.ro q3.rp (by decide) rfl (by rw[hvp];rfl);have old:w3.cell? ⟨qp[px qp pid].g,fx L,none⟩=some (.int .i64 (-1)):=(q3.atL hi).2.2.2.2.2.2 (fx L) none (by rw[hL];exact DC.fx_none (by omega));have s4:=q3.setO4 hk2 (⟨n,0,fl,1⟩:Of);have s5:=s4.1.setL hi (j:=fx L) (some k);have hO:=Oq_set hk2 (⟨n,0,fl,1⟩:Of);rw[if_neg (by simp),e2] at hO;have hP:=Pq_set hasc hi (qp[px qp pid].L.set (fx L) (some k));have hP2:setP (Pq qp) pid (qp[px qp pid].L.set (fx L) (some k))=setP (Pq qp) pid (L.set (fx L) (some k)):=by rw[hL]
  rw[hpid] at hP;have f3:=hF _ q3;have l3:=hG _ q3;subst hvp;refine⟨og,_,cap,pg,_,pcap,_,rfl,rfl,hkN,hNc,hcm,hiN,hPc,hpm,hlc,hlm,f3,l3,old,hgd,fun e=>hgd e.symm,n3,fun e=>n3 e.symm,n5,fun e=>n5 e.symm,Wd ?_⟩;rw[<-hO,<-hP2,<-hP]
  exact⟨RT.of s5.1 (by rw[List.length_set];exact e3) (tr_own (tr_own tr3 s4.2) s5.2),k3.trans ((ZT_own s4.2).trans (ZT_own s5.2))⟩)
 clear h1 htr hk e hol hlen hf hL hl hcap hm hx hr hf2 hpid hasc hlim hkk hcap64;generalize px qp pid=i at *;generalize hlg:qp[i].g=lg at *;generalize hlcc:qp[i].cap=lc at *;clear hlg hlcc hi;generalize L.length=nn at *;generalize hfd2:fx L=fd at *;clear hfd2;go_enter func42,ntmps42
 go_wp2_with fail
 refine cA.out.mono ?_;rintro e w1 ⟨rfl,rfl⟩;go_wp2_with fail
 refine cI.out.mono ?_;rintro e w2 ⟨rfl,rfl⟩;go_wp2_with fail
 refine cF.out.mono ?_;rintro e w2 ⟨rfl,rfl⟩;go_wp2_with fail
 refine cR.out.mono ?_;rintro e w2 ⟨rfl,cD⟩;go_wp2_with fail
 refine cD.out.mono ?_;rintro e w3 ⟨rfl,s0,cS⟩;go_wp2_with fail
 refine cS.out.mono ?_;rintro e w4 ⟨⟨r,rfl⟩,vo2,qo2,hk2,g1,g2,g3,g4,g5⟩;obtain⟨og,N,cap,pg,Np,pcap,o,rfl,rfl,u1,u2,u3,u4,u5,u6,u7,u8,f3,l3,old,m1,m2,m3,m4,m5,m6,hfin⟩:=fin.out w4 vo2 qo2 hk2 g1 g2 g3 g4 g5;have t1:=f3.s9;have t2:=f3.o0;have t3:=f3.o1;have t4:=f3.o2;have t5:=f3.o3;have t6:=f3.fz;have t7:=l3.s10;have t8:=l3.p1;have t9:=l3.fz;clear f3 l3 g1 g2 g3 g4 g5 hk2;go_wp2_with fail
 go_ret2
 exact⟨rfl,hfin.out⟩
end
end RD
namespace RD
open DC (Of Ls Ps Ou Sm lk fx flg lowO cntO updO setP opnR reaR rdyR)
open IN (Fine Good)
open IS (I64)
section
variable {I L B k:Nat}{S:Sm}{D:NT.Ds}
theorem fine_t (hf:Fine I L B k S)(n s:Int):Fine I L B k (IN.tS S n s):=by
 unfold IN.tS
 cases hS:S n with
 | none=>exact hf
 | some d=>
   simp only
   split
   ·rename_i h
    have hg:=hf.good n d hS;have hle:EM.cnt (EM.part 0 s d.l)<=EM.cnt d.l:=IN.cnt_part 0 s d.l;have ht:=hf.tot;exact (IN.turn_left hf hS (IN.t_good hg h.1 h.2.1 h.2.2).1 (by simp only[IN.tNd];omega)).1
   ·exact hf
theorem fine_mk (hf:Fine I L B k S)(hL:1<=L)(p:ByteArray)(kind:Int):Fine I L B k (NT.mk I S D p kind).2.1:=by
 unfold NT.mk
 split
 ·rename_i hk
  split
  ·exact hf
  ·split
   ·exact hf
   ·split
    ·exact hf
    ·rename_i h1
     obtain⟨n,hn,hlow⟩:=NT.mkR_low hk (by simpa using h1);rw[NT.lowN_eq hlow]
     exact hf.turn hlow.1 hn (fun d hd=>by
      cases hd
      exact⟨hk,by simp[IN.newNd];omega,by simp[IN.newNd],by simp[IN.newNd],by simp[IN.newNd],rfl,by simp[IN.newNd,ends],fun _=>⟨rfl,rfl⟩⟩) (by have:=hf.tot;simp[IN.cntOf,IN.newNd,EM.cnt_nil];omega)
 ·exact hf
theorem fine_rea (hf:Fine I L B k S)(hL:1<=L)(p:ByteArray)(fl:Int):Fine I L B k (reaR I S D p fl).2.1:=by
 have hr:∀ n,Fine I L B k (rdyR S n fl).2:=fun n=>by
  unfold rdyR
  split
  ·exact hf
  ·split
   ·exact hf
   ·split
    ·exact hf
    ·split
     ·exact fine_t hf n 0
     ·exact hf
 unfold reaR
 split
 ·split
  ·exact fine_mk hf hL p 1
  ·exact hf
 ·split
  ·exact hr _
  ·exact hr _
end
section
variable {K:Cd}{c q:Nat}{S:Sm}{D:NT.Ds}{P:Ps}{O:Ou}{w:World}
theorem open_d (pid:Int)(p:ByteArray)(fl:Int)(w:World)(h:RT K c S D P O w)(hk:Kn K q S D P O)(hp:p.size<=maxLen)(hc:c<60000) :
 Calls prog 42 #[.pointer (some ⟨K.d,0,none⟩),.int .i64 pid,.string p,.int .i64 fl] w fun e w'=>e=.returned (.tuple #[.int .i64 (opnR K.I K.files K.opens S D P O pid p fl).1.1,.int .i64 (opnR K.I K.files K.opens S D P O pid p fl).1.2])/\RO K c (opnR K.I K.files K.opens S D P O pid p fl).2.1 (opnR K.I K.files K.opens S D P O pid p fl).2.2.1 (opnR K.I K.files K.opens S D P O pid p fl).2.2.2.1 (opnR K.I K.files K.opens S D P O pid p fl).2.2.2.2 w w':=by
 unfold opnR
 cases e:lk P pid with
 | none=>exact opn_none pid p fl w h hk e
 | some L=>
   simp only
   by_cases hf:flg fl=false
   ·rw[if_pos hf];exact opn_flag pid p fl w h hk e hf
   ·rw[if_neg hf];have hf:flg fl=true:=by simpa using hf
    by_cases hx:fx L<K.files
    ·rw[if_pos hx]
     by_cases hm:cntO O K.opens<K.opens
     ·rw[if_pos hm]
      by_cases hr:(reaR K.I S D p fl).1.2=0
      ·rw[if_pos hr];have hl:=hk.lim;exact opn_yes pid p fl w h hk e hf hx hm hp hc (n:=(reaR K.I S D p fl).1.1) (S2:=(reaR K.I S D p fl).2.1) (D2:=(reaR K.I S D p fl).2.2) (by rw[<-hr]) (q2:=q) (by omega) (fine_rea hk.fine hl.2.1 p fl)
      ·rw[if_neg hr];exact opn_err pid p fl w h hk e hf hx hm hp hc hr
     ·rw[if_neg hm];exact opn_many pid p fl w h hk e hf hx hm
    ·rw[if_neg hx];exact opn_full pid p fl w h hk e hf hx
end
end RD
namespace RD
open DC (Of Ls Ps Ou Sm)
open IN (Keeps)
section
variable {K:Cd}{c q:Nat}{S:Sm}{D:NT.Ds}{P:Ps}{O:Ou}{w w':World}
theorem RT.tree {S':Sm}{D':NT.Ds}(h:RT K c S D P O w)(hr:RN.RP K.base K.rt K.rg K.I K.B K.L (c+2) S' D' w w'):RO K c S' D' P O w w':=by
 obtain⟨⟨vo,vp,qo,qp,h1,h2⟩,h3⟩:=h;exact⟨⟨⟨vo,vp,qo,qp,h1.tree hr.2,h2⟩,hr.1⟩,ZT_tree hr.2⟩
theorem unlink_d (s:ByteArray)(hs:s.size<=maxLen)(w:World)(h:RT K c S D P O w)(hk:Kn K q S D P O) :
 Calls prog 98 #[.pointer (some ⟨K.rt,0,none⟩),.string s] w fun e w'=>e=.returned (.int .i64 (NT.er (NT.unlR D s)))/\RO K c (NT.unlS S D s).1 (NT.unlS S D s).2 P O w w':=
 (RN.rUnlink_all s hs w h.tr hk.fine hk.lim.1 hk.lim.2.2.1 (by have:=hk.lim;omega)).mono fun e w' hh=>⟨hh.1,h.tree hh.2⟩
theorem link_d (s t:ByteArray)(hs:s.size<=maxLen)(ht:t.size<=maxLen)(w:World)(h:RT K c S D P O w)(hk:Kn K q S D P O)(hc:c<65000) :
 Calls prog 100 #[.pointer (some ⟨K.rt,0,none⟩),.string s,.string t] w fun e w'=>e=.returned (.int .i64 (NT.lnk K.L S D s t).1)/\RO K c (NT.lnk K.L S D s t).2.1 (NT.lnk K.L S D s t).2.2 P O w w':=
 (RN.rLink_all s t hs ht w h.tr hk.ti hk.fine hk.lim.1 hk.lim.2.2.1 hc).mono fun e w' hh=>⟨hh.1,h.tree hh.2⟩
theorem all_d (w:World)(h:RT K c S D P O w)(hk:Kn K q S D P O) :
 Calls prog 20 #[.pointer (some ⟨K.rg,0,none⟩)] w fun e w'=>∃ v,e=.returned v/\w'.ownsRow w.heap.size 65 6 v (IN.lst S K.I).length (IN.stcl (IN.lst S K.I))/\Below w.heap.size w w':=
 IN.rAll_any w hk.fine hk.lim.1 h.tr.rs
end
end RD
namespace RD
open DC (Of Ls Ps Ou Sm fileR fileR_ok updO rdR)
open IN (Keeps)
open IS (I64)
section
variable {K:Cd}{c q:Nat}{S:Sm}{D:NT.Ds}{P:Ps}{O:Ou}{w w':World}
theorem read_d (pid fd n:Int)(w:World)(h:RT K c S D P O w)(hk:Kn K q S D P O)(hn:I64 n) :
 Calls prog 45 #[.pointer (some ⟨K.d,0,none⟩),.int .i64 pid,.int .i64 fd,.int .i64 n] w fun e w'=>e=.returned (.tuple #[.string (rdR S P O pid fd n).1.1,.int .i64 (rdR S P O pid fd n).1.2])/\RO K c S D P (rdR S P O pid fd n).2 w w':=by
 unfold rdR
 cases e:fileR P O pid fd 1 with
 | error c0=>exact read_no pid fd n w h hk e
 | ok k=>
   obtain⟨L,o,j,h2,hfd,h3,h4,h5,h6⟩:=fileR_ok e;obtain⟨x,hx,hkd⟩:=hk.di.ino k o h5;simp only[h5,hx];have:=read_at k o x pid fd n w h hk hn e h5 hx rfl rfl
   by_cases hE:rdE x.l x.size o.off n=0
   ·rw[if_pos hE];rw[if_pos hE,hE] at this;exact this
   ·have hno:strOf (rdV x.l x.size o.off n)=ByteArray.empty:=by
     unfold rdV;rw[if_neg hE]
     rfl
    rw[if_neg hE];rw[if_neg hE,hno] at this;exact this
end
end RD
namespace RD
open DC (Of Ls Ps Ou Sm Asc delP insP)
open IN (Keeps)
theorem info_proc:Own.Info prog 108 (.agg #[.int .i64 0,.slice none 0 0]) 2 32:=Own.info_of (by kernel_rfl) rfl (by decide)
theorem elem_proc:prog.elem 53=108:=by kernel_rfl
theorem pcl_ones (q:List PE):∀ u∈pcl q,u.oneCell'=true:=by
 intro u hu;unfold pcl at hu;obtain⟨r,hr,hu⟩:=List.mem_flatten.1 hu;obtain⟨x,-,rfl⟩:=List.mem_map.1 hr;simp only[prow,List.mem_cons,List.not_mem_nil,or_false] at hu;rcases hu with rfl|rfl <;> rfl
section
variable {K:Cd}{vo vp:Value}{qo:List Of}{qp:List PE}{w w':World}
theorem QT.newP (h:QT K vo vp qo qp w){w1:World}(hb:Below w.heap.size w w1){v':Value}{qp':List PE}(ho:w1.ownsRow w.heap.size 108 2 v' qp'.length (pcl qp'))(hrl:∀ x∈qp',w1.ownsRow K.base 3 1 (pval x) x.L.length (lcl x.L))(hdis:(qp'.map (·.g)).Nodup) :
 QT K vo v' qo qp' (w1.setCell ⟨K.d,10,none⟩ v')/\Keeps K.base OT w (w1.setCell ⟨K.d,10,none⟩ v'):=by
 have h1:=h.keep hb;have hlt:=h.box.lt;refine⟨⟨h1.box.set 10 v',own_setFar h1.ro (p:=⟨K.d,10,none⟩) (fun g hg=>own_ne h1.ro h1.box (by decide) hg) v',Own.low h.low (Own.set ho (p:=⟨K.d,10,none⟩) hlt v'),fun x hx=>own_setFar (hrl x hx) (p:=⟨K.d,10,none⟩) (fun g hg=>own_ne (hrl x hx) h1.box (by decide) hg) v',hdis,h.ge⟩,?_⟩;exact (Keeps.new hb h.low).trans ((Keeps.refl K.base OT w1).setCell (p:=⟨K.d,10,none⟩) h1.box ⟨_,_,_,rfl,.inl rfl⟩ h.ge v')
theorem QT.lessP (h:QT K vo vp qo qp w){w1:World}(hb:Below w.heap.size w w1){v':Value}(p:Nat)(ho:w1.ownsRow w.heap.size 108 2 v' (qp.take p ++ qp.drop (p+1)).length (pcl (qp.take p ++ qp.drop (p+1)))) :
 QT K vo v' qo (qp.take p ++ qp.drop (p+1)) (w1.setCell ⟨K.d,10,none⟩ v')/\Keeps K.base OT w (w1.setCell ⟨K.d,10,none⟩ v'):=by
 have hsub:(qp.take p ++ qp.drop (p+1)).Sublist qp:=by
  conv=>rhs;rw[<-List.take_append_drop p qp]
  refine List.Sublist.append_left ?_ _;rw[<-List.drop_drop];exact List.drop_sublist 1 _
 exact h.newP hb ho (fun x hx=>Own.below (h.rl x (hsub.subset hx)) hb) ((hsub.map _).nodup h.dis)
end
theorem Pq_del:∀ {q:List PE} {pid:Int},Asc (Pq q)->px q pid<q.length->Pq (q.take (px q pid) ++ q.drop (px q pid+1))=delP (Pq q) pid
 | [],pid,_,h=>by simp at h
 | x :: l,pid,ha,h=>by
   have ha':=DC.asc_cons (x:=(x.pid,x.L)) (P:=Pq l) ha
   by_cases e:x.pid=pid
   ·have h0:px (x :: l) pid=0:=by simp only[px];rw[if_pos e]
    rw[h0]
    show Pq l=delP ((x.pid,x.L) :: Pq l) pid
    unfold delP;rw[List.filter_cons,if_neg (by simp[e]),List.filter_eq_self.2 fun y hy=>?_];have:=DC.lk_none.1 ha'.2 y hy;simp only[decide_eq_true_eq];intro e2;exact this (e2.trans e.symm)
   ·have h0:px (x :: l) pid=px l pid+1:=by simp only[px];rw[if_neg e]
    rw[h0] at h ⊢;rw[List.length_cons] at h;have ih:=Pq_del (q:=l) (pid:=pid) ha'.1 (by omega);have hd:delP ((x.pid,x.L) :: Pq l) pid=(x.pid,x.L) :: delP (Pq l) pid:=by simp[delP,e]
    show (x.pid,x.L) :: Pq (l.take (px l pid) ++ l.drop (px l pid+1))=delP ((x.pid,x.L) :: Pq l) pid
    rw[hd,ih]
def lx:List PE->Int->Nat
 | [],_=>0
 | x :: l,n=>if x.pid<n then lx l n+1 else 0
theorem lx_le:∀ (l:List PE) (n:Int),lx l n<=l.length
 | [],_=>Nat.le_refl _
 | x :: l,n=>by
   unfold lx
   split
   ·have:=lx_le l n;rw[List.length_cons];omega
   ·omega
theorem lx_lt:∀ (l:List PE) (n:Int) (j:Nat) (hj:j<l.length),j<lx l n->l[j].pid<n
 | [],n,j,hj,_=>by cases hj
 | x :: l,n,j,hj,h=>by
   unfold lx at h
   split at h
   ·rename_i e
    cases j with
    | zero=>exact e
    | succ j=>
      simp only[List.getElem_cons_succ];exact lx_lt l n j (by rw[List.length_cons] at hj;omega) (by omega)
   ·omega
theorem lx_at:∀ (l:List PE) (n:Int) (h:lx l n<l.length),¬ l[lx l n].pid<n
 | [],n,h=>by cases h
 | x :: l,n,h=>by
   by_cases e:x.pid<n
   ·have h2:lx (x :: l) n=lx l n+1:=by simp only[lx];rw[if_pos e]
    rw[h2,List.length_cons] at h;simp only[h2,List.getElem_cons_succ];exact lx_at l n (by omega)
   ·have h2:lx (x :: l) n=0:=by simp only[lx];rw[if_neg e]
    simp only[h2,List.getElem_cons_zero];exact e
theorem Pq_ins (x:PE):∀ q:List PE,Pq (q.take (lx q x.pid) ++ x :: q.drop (lx q x.pid))=insP x.pid x.L (Pq q)
 | []=>rfl
 | y :: l=>by
   have ih:=Pq_ins x l
   show _=insP x.pid x.L ((y.pid,y.L) :: Pq l)
   unfold insP
   by_cases e:y.pid<x.pid
   ·have h2:lx (y :: l) x.pid=lx l x.pid+1:=by simp only[lx];rw[if_pos e]
    rw[h2,if_pos e,<-ih]
    rfl
   ·have h2:lx (y :: l) x.pid=0:=by simp only[lx];rw[if_neg e]
    rw[h2,if_neg e]
    rfl
end RD
namespace RD
open DC (Of Ls Ps Ou Sm)
open IN (Keeps lt_of_some cellkept)
section
variable {K:Cd}{vo vp:Value}{qo:List Of}{qp:List PE}{w w':World}
theorem QT.moreP (h:QT K vo vp qo qp w)(x:PE)(hx:w.ownsRow K.base 3 1 (pval x) x.L.length (lcl x.L))(hd:∀ y∈qp,y.g≠x.g)(p N:Nat)(hN:qp.length=N)(hp:p<=N){b:Nat}(hb:w.heap.size<=b)(w4:World)(v:Value)(b4:Below w.heap.size w w4)(ho:w4.ownsRow b 108 2 v (p+1+(N-p)) ([] ++ (pcl qp).take (p*2) ++ prow x ++ (pcl qp).drop (p*2))) :
 QT K vo v qo (qp.take p ++ x :: qp.drop p) (w4.setCell ⟨K.d,10,none⟩ v)/\Keeps K.base OT w (w4.setCell ⟨K.d,10,none⟩ v):=by
 have hmem:∀ y∈qp.take p ++ x :: qp.drop p,y∈qp∨y=x:=by
  intro y hy;rcases List.mem_append.1 hy with hy|hy
  ·exact .inl (List.mem_of_mem_take hy)
  ·rcases List.mem_cons.1 hy with rfl|hy
   ·exact .inr rfl
   ·exact .inl (List.mem_of_mem_drop hy)
 refine h.newP b4 ?_ ?_ ?_
 ·have e1:(qp.take p ++ x :: qp.drop p).length=p+1+(N-p):=by
   rw[List.length_append,List.length_take,List.length_cons,List.length_drop,hN];omega
  have e2:pcl (qp.take p ++ x :: qp.drop p)=[] ++ (pcl qp).take (p*2) ++ prow x ++ (pcl qp).drop (p*2):=by
   rw[pcl_take,pcl_drop,show qp.take p ++ x :: qp.drop p=qp.take p ++ ([x] ++ qp.drop p) from rfl,pcl_app,pcl_app,pcl_one];simp only[List.nil_append,List.append_assoc]
  rw[e1,e2];exact Own.low hb ho
 ·intro y hy;rcases hmem y hy with h1|rfl
  ·exact Own.below (h.rl y h1) b4
  ·exact Own.below hx b4
 ·have hp1:((qp.take p ++ x :: qp.drop p).map (·.g)).Perm (x.g :: qp.map (·.g)):=by
   have h1:(qp.take p ++ x :: qp.drop p).Perm (x :: qp):=by
    have h2:=List.perm_middle (a:=x) (l₁:=qp.take p) (l₂:=qp.drop p);rw[List.take_append_drop] at h2;exact h2
   exact h1.map (·.g)
  refine hp1.nodup_iff.2 (List.nodup_cons.2 ⟨fun hm=>?_,h.dis⟩);obtain⟨y,hy,e⟩:=List.mem_map.1 hm;exact hd y hy e
theorem lay_any (x:PE)(w:World)(h:QT K vo vp qo qp w)(hlen:qp.length<=100000)(hx:w.ownsRow K.base 3 1 (pval x) x.L.length (lcl x.L))(hd:∀ y∈qp,y.g≠x.g) :
 Calls prog 41 #[.pointer (some ⟨K.d,0,none⟩),.agg #[.int .i64 x.pid,.slice (some ⟨x.g,0,none⟩) x.L.length x.cap]] w fun e w'=>e=.returned (.tuple #[])/\∃ vp',QT K vo vp' qo (qp.take (lx qp x.pid) ++ x :: qp.drop (lx qp x.pid)) w'/\Keeps K.base OT w w':=by
 have b0:=(Below.refl w.heap.size w).alloc (Nat.le_refl _) (.cells #[.int .i64 x.pid,.slice (some ⟨x.g,0,none⟩) x.L.length x.cap] 108);have p0:Blk (w.alloc (.cells #[.int .i64 x.pid,.slice (some ⟨x.g,0,none⟩) x.L.length x.cap] 108)) w.heap.size 108 [.int .i64 x.pid,.slice (some ⟨x.g,0,none⟩) x.L.length x.cap]:=Blk.new _ _ _ rfl;have hrow:=h.rp;have c1:=h.box.cell (j:=10) rfl;have hdl:=h.box.lt;have hbox:=Wd h.box;have hE:=Wd (fun i (hi:i<qp.length)=>h.atP hi);obtain⟨ao,cap,rfl⟩:=Own.form hrow;obtain⟨N,hN⟩:∃ N,qp.length=N:=⟨_,rfl⟩;have hle:=lx_le qp x.pid;have hlt:=lx_lt qp x.pid;have hat:=lx_at qp x.pid;generalize lx qp x.pid=P at *;have hnew:=Wd (fun (w4:World) (v:Value)=>h.moreP x hx hd P N hN (by omega) (Nat.le_refl w.heap.size) w4 v);rw[hN] at c1 hrow hle hlen;have hPN:P<=N:=hle;have hcaps:N<=cap/\cap<=9223372036854775807/\(ao=none/\cap=0∨∃ b o,ao=some ⟨b,o,none⟩):=by
  rcases hrow.2 with ⟨h1,h2⟩|⟨g,cap',cur,h1,h2,h3,h4,h5,h6⟩
  ·simp only[Value.slice.injEq] at h1;exact⟨by omega,by omega,.inl ⟨h1.1,h1.2.2⟩⟩
  ·simp only[Value.slice.injEq] at h1;obtain⟨rfl,e1,rfl⟩:=h1;exact⟨by omega,by unfold maxLen at h5;omega,.inr ⟨_,_,rfl⟩⟩
 obtain⟨hc1,hc2,hao⟩:=hcaps;have hhi:=Own.cut_hi (t:=53) underlying53 elem_proc info_proc ao N cap P hPN hc1 (hao.imp (·.1) id);have hS1:Own.Src w 2 (.slice ao P cap) P ((pcl qp).take (P*2)):=Own.src_take hrow rfl P hPN;obtain⟨ad,hlo,hS3⟩:∃ ad:Value,(∀ W:World,(Instr.slice 53 (.slice ao N cap) (some (.int .i64 (P:Int))) none none).run prog W=.ok ad W)/\Own.Src w 2 ad (N-P) ((pcl qp).drop (P*2)):=by
  rcases hao with ⟨e1,e2⟩|⟨b1,o1,e1⟩
  ·subst e1;subst e2;obtain rfl:N=0:=by omega
   obtain rfl:P=0:=by omega
   refine⟨.slice none 0 0,Own.cut_none (t:=53) underlying53 elem_proc info_proc,.inl ⟨rfl,rfl,?_⟩⟩;rw[Nat.zero_mul,List.drop_zero];exact List.eq_nil_of_length_eq_zero (by rw[pcl_len,hN])
  ·subst e1;obtain⟨ad,hl1,hl2,hl3⟩:=Own.cut_lo (t:=53) underlying53 elem_proc info_proc b1 o1 N cap P (P:Int) rfl hPN hc1;exact⟨_,hl1,Own.src_drop hrow P hPN ad _ hl3⟩
 obtain⟨XX,hmk,hmo⟩:=Own.make_room (t:=53) underlying53 info_proc (N+1) ((N:Int)+1) (by omega) (by omega) (by omega);have HS:=Wd (And.intro hS1 (And.intro hS3 hmo));have hone1:Hid (∀ u∈(pcl qp).take (P*2),u.oneCell'=true):=Wd (fun u hu=>pcl_ones qp u (List.mem_of_mem_take hu));have hone3:Hid (∀ u∈(pcl qp).drop (P*2),u.oneCell'=true):=Wd (fun u hu=>pcl_ones qp u (List.mem_of_mem_drop hu));have hone2:Hid (∀ u∈prow x,u.oneCell'=true):=Wd (fun u hu=>pcl_ones [x] u (by rw[pcl_one];exact hu));have hxr:prow x=[.int .i64 x.pid,.slice (some ⟨x.g,0,none⟩) x.L.length x.cap]:=rfl;rw[hxr] at hone2;have hwN:IntKind.i64.wrap ((N:Int)+1)=(N:Int)+1:=IntWalk.i64_in _ (by omega);have hPc:(P:Int)<=(N:Int):=by omega
 replace hnew:Hid (∀ (w4:World) (v:Value),Below w.heap.size w w4->w4.ownsRow w.heap.size 108 2 v (P+1+(N-P)) ([] ++ (pcl qp).take (P*2) ++ [.int .i64 x.pid,.slice (some ⟨x.g,0,none⟩) x.L.length x.cap] ++ (pcl qp).drop (P*2))->QT K vo v qo (qp.take P ++ x :: qp.drop P) (w4.setCell ⟨K.d,10,none⟩ v)/\Keeps K.base OT w (w4.setCell ⟨K.d,10,none⟩ v)):=Wd hnew.out;replace hlt:=Wd (fun j (hj:j<qp.length) (hjP:j<P)=>show decide (qp[j].pid<x.pid)=true from decide_eq_true (hlt j hj hjP));replace hat:=Wd (fun (hj:P<qp.length)=>show decide (qp[P].pid<x.pid)=false from decide_eq_false (hat hj));clear hS1 hS3 hmo hao hrow h hx hd hxr;replace hN:=Wd hN;have HC:=Wd c1;have c1:=cellkept b0 c1;have d0:=p0.cell (j:=0) rfl;have d1:=p0.cell (j:=1) rfl;generalize hxp:x.pid=pid at *;generalize hxL:x.L.length=n at *;generalize hxc:x.cap=lc at *;generalize hxg:x.g=lg at *;have p0:=Wd p0;have b0:=Wd b0;clear hxp hxL hxc hxg;go_enter func41,ntmps41
 go_wp2_with fail
 obtain⟨w1,hw1⟩:∃ w1,w.alloc (.cells #[.int .i64 pid,.slice (some ⟨lg,0,none⟩) n lc] 108)=w1:=⟨_,rfl⟩;rw[hw1] at p0 b0 ⊢;clear c1 d0 d1 hw1;go_loopw [4] (fun i wr=>∃ (j:Nat),j<=P/\i=.int .i64 (j:Int)/\Hid (Below w1.heap.size w1 wr)) (fun i _=>N+1-(intOf i).toNat)
 case atStart=>exact⟨0,Nat.zero_le _,rfl,Wd (Below.refl _ _)⟩
 case round=>
  obtain⟨j,hj,rfl,hb1⟩:=hrel;have hb:=Wd (b0.out.trans (hb1.out.mono b0.out.size));have d0:=(p0.out.keep hb1.out).cell (j:=0) rfl;have c1:=cellkept hb.out HC.out
  by_cases hjn:j<N
  ·have hjq:j<qp.length:=by rw[hN.out];exact hjn
   have hjN:(j:Int)<(N:Int):=by omega
   obtain⟨g2,cc2,hv,-,-,-,-,-,-,s0,-⟩:=hE.out j hjq;rw[hN.out] at hv;simp only[Value.slice.injEq] at hv;obtain⟨rfl,-,rfl⟩:=hv;replace s0:=cellkept hb.out s0
   by_cases hjP:j<P
   ·have hx:=hlt.out j hjq hjP;obtain⟨y,hy⟩:∃ y,qp[j].pid=y:=⟨_,rfl⟩;rw[hy] at s0 hx;have hwj:IntKind.i64.wrap ((j:Int)+1)=(j:Int)+1:=IntWalk.i64_in _ (by omega);clear hjq hy;go_wp2_with fail
    go_quiet (fail)
    go_wp2_with fail
    go_roundw
    case rel=>exact⟨j+1,by omega,by go_num,Wd ⟨hb1.out.os,hb1.out.tape,hb1.out.output,hb1.out.size,hb1.out.block⟩⟩
    case measure=>simp[intOf];omega
   ·obtain rfl:j=P:=by omega
    have hx:=hat.out hjq;obtain⟨y,hy⟩:∃ y,qp[j].pid=y:=⟨_,rfl⟩;rw[hy] at s0 hx;clear hjq hy;go_wp2_with fail
    go_quiet (fail)
    go_wp2_with fail
    obtain⟨W0,hW0⟩:∃ W0,wr.drewN nq=W0:=⟨_,rfl⟩;rw[hW0];have hbW:Below w.heap.size w W0:=by rw[<-hW0];exact⟨hb.out.os,hb.out.tape,hb.out.output,hb.out.size,hb.out.block⟩
    have hbW1:Below w1.heap.size w1 W0:=by rw[<-hW0];exact⟨hb1.out.os,hb1.out.tape,hb1.out.output,hb1.out.size,hb1.out.block⟩
    have d7:W0.cell? ⟨K.d,10,none⟩=some (.slice (some ⟨g2,0,none⟩) N cap):=cellkept hbW HC.out;have xa:∀ ob,(W0.drew.alloc ob).cell? ⟨K.d,10,none⟩=some (.slice (some ⟨g2,0,none⟩) N cap):=fun ob=>cellkept (((Below.refl W0.heap.size W0).drew).alloc (Nat.le_refl _) ob) d7;have A1:Hid ((W0.drew.alloc XX).ownsRow w1.heap.size 108 2 (.slice (some ⟨W0.heap.size,0,none⟩) 0 (N+1)) 0 []):=Wd (HS.out.2.2 W0.drew w1.heap.size hbW1.size);have hbX:=((Below.refl W0.heap.size W0).drew).alloc (Nat.le_refl _) XX;have S1:=Wd (HS.out.1.keep (hbW.trans (hbX.mono hbW.size)));have hBX:=Wd (hbW1.trans (hbX.mono hbW1.size));have hs0:=hbW1.size;have hbW1:=Wd hbW1;have hhi':=hhi;clear hW0 hbW hbX c1 d0;go_wp2_with fail
    refine wp_region_held_drew (S:=(fun w'=>w'.cell? ⟨K.d,10,none⟩=some (.slice (some ⟨g2,0,none⟩) N cap))) (by kernel_rfl) d7 (fun hHeld=>?_);refine wt (i:=0) (v:=.pointer (some ⟨K.d,0,none⟩)) hHeld ?_;refine wt (i:=1) (v:=.pointer (some ⟨K.d,0,none⟩)) hHeld ?_;refine wt (i:=2) (v:=.pointer (some ⟨K.d,10,none⟩)) hHeld ?_;refine wt (i:=3) (v:=.slice (some ⟨g2,0,none⟩) N cap) hHeld ?_;refine wt (i:=4) (v:=.int .i64 (N:Int)) hHeld ?_;refine wt (i:=5) (v:=.int .i64 ((N:Int)+1)) hHeld ?_;refine wt (i:=7) (v:=.pointer (some ⟨K.d,0,none⟩)) hHeld ?_;refine wt (i:=8) (v:=.pointer (some ⟨K.d,0,none⟩)) hHeld ?_;refine wt (i:=9) (v:=.pointer (some ⟨K.d,10,none⟩)) hHeld ?_;refine wt (i:=10) (v:=.slice (some ⟨g2,0,none⟩) N cap) hHeld ?_;refine wt (i:=11) (v:=.int .i64 (j:Int)) hHeld ?_;refine wt (i:=12) (v:=.slice (some ⟨g2,0,none⟩) j cap) hHeld ?_;refine wpAnyH_ready (rs:=[6]) (by kernel_rfl) (by simp) ?_;refine AllReadyH.cons rfl (fun K hK=>?_) AllReadyH.nil;go_simp
    refine hK.out _ _ (xa XX) (fun hHeld1=>?_);clear hK K
    try simp only[Act.put,List.setIfInBounds_toArray,List.set_cons_zero,List.set_cons_succ,List.getElem_toArray,List.getElem_cons_zero,List.getElem_cons_succ]
    refine wpAnyH_ready (rs:=[13]) (by kernel_rfl) (by simp) ?_;refine AllReadyH.cons rfl (fun K hK=>?_) AllReadyH.nil;refine Own.step_app rfl (.tmp 34) (.tmp 40) 53 rfl underlying53 info_proc (.slice (some ⟨W0.heap.size,0,none⟩) 0 (N+1)) (.slice (some ⟨g2,0,none⟩) j cap) rfl rfl A1.out (by simp;omega) S1.out hone1.out (by unfold maxLen;omega) (by omega) ?_;intro v2 w2 ho2 hg2 hob2;rw[Nat.zero_add] at ho2;obtain⟨a2,c2,rfl⟩:=Own.form ho2;have A2:=Wd ho2;have B2:=Wd (hBX.out.grown hg2 (by simp;omega) (fun jj hj=>Own.ge A1.out jj hj));have y2:=cellkept (b0.out.trans (B2.out.mono b0.out.size)) HC.out;clear ho2 hg2 hob2;refine hK.out _ _ y2 (fun hHeld2=>?_);clear hK K
    try simp only[Act.put,List.setIfInBounds_toArray,List.set_cons_zero,List.set_cons_succ,List.getElem_toArray,List.getElem_cons_zero,List.getElem_cons_succ]
    refine wt (i:=14) (v:=.slice a2 j c2) hHeld2 ?_;refine wpAnyH_done (by kernel_rfl) ?_ _;have p2:=p0.out.keep B2.out;have q0:=p2.cell (j:=0) rfl;have q1:=p2.cell (j:=1) rfl;have hblk:=Blk.new w2 108 [.int .i64 pid,.slice (some ⟨lg,0,none⟩) n lc] rfl;have B2a:=Wd (B2.out.alloc B2.out.size (.cells #[.int .i64 pid,.slice (some ⟨lg,0,none⟩) n lc] 108));have A2a:=Wd (Own.below A2.out ((Below.refl w2.heap.size w2).alloc (Nat.le_refl _) (.cells #[.int .i64 pid,.slice (some ⟨lg,0,none⟩) n lc] 108)))
    have S2a:Hid (Own.Src (w2.alloc (.cells #[.int .i64 pid,.slice (some ⟨lg,0,none⟩) n lc] 108)) 2 (.slice (some ⟨w2.heap.size,0,none⟩) 1 1) 1 [.int .i64 pid,.slice (some ⟨lg,0,none⟩) n lc]):=Wd (.inr ⟨_,_,rfl,rfl,fun i u hi=>by
     have:=hblk.cell hi;rw[Addr.add_lit,Nat.zero_add]
     exact this⟩)
    clear hblk p2
    go_wp2_with (first
     | (at_builtin;refine Own.wpList_app rfl (.tmp 42) (.tmp 44) 53 rfl underlying53 info_proc (.slice a2 j c2) (.slice (some ⟨w2.heap.size,0,none⟩) 1 1) rfl rfl A2a.out B2a.out.size S2a.out hone2.out (by unfold maxLen;omega) (by omega) ?_;intro v3 w3 ho3 hg3 hob3;obtain⟨a3,c3,rfl⟩:=Own.form ho3;have A3:=Wd ho3;have B3:=Wd (B2a.out.grown hg3 B2a.out.size (fun k h=>Own.ge A2a.out k h));have S3:=Wd (HS.out.2.1.keep (b0.out.trans (B3.out.mono b0.out.size)));have y7:=cellkept (b0.out.trans (B3.out.mono b0.out.size)) HC.out;clear ho3 hg3 hob3)
     | (at_builtin;refine Own.wpList_app rfl (.tmp 47) (.tmp 53) 53 rfl underlying53 info_proc (.slice a3 (j+1) c3) ad rfl rfl A3.out B3.out.size S3.out hone3.out (by unfold maxLen;omega) (by omega) ?_;intro v4 w4 ho4 hg4 hob4;obtain⟨a4,c4,rfl⟩:=Own.form ho4;have B4:=Wd (B3.out.grown hg4 B3.out.size (fun k h=>Own.ge A3.out k h));have A4:=Wd ho4;have B5:=Wd (b0.out.trans (B4.out.mono b0.out.size));have f4:=(hbox.out.keep B5.out).fz;have z7:=(hbox.out.keep B5.out).cell (j:=10) rfl;clear ho4 hg4 hob4))
    go_wp2_with fail
    go_end0
    exact⟨rfl,_,hnew.out w4 _ B5.out (Own.low b0.out.size A4.out)⟩
  ·obtain rfl:j=P:=by omega
   have hjN:=Wd (show j=N by omega);have hge:(N:Int)<=(j:Int):=by have:=hjN.out;omega
   go_wp2_with fail
   go_quiet (fail)
   go_wp2_with fail
   obtain⟨W0,hW0⟩:∃ W0,wr.drewN nq=W0:=⟨_,rfl⟩;rw[hW0];have hbW:Below w.heap.size w W0:=by rw[<-hW0];exact⟨hb.out.os,hb.out.tape,hb.out.output,hb.out.size,hb.out.block⟩
   have hbW1:Below w1.heap.size w1 W0:=by rw[<-hW0];exact⟨hb1.out.os,hb1.out.tape,hb1.out.output,hb1.out.size,hb1.out.block⟩
   have d7:W0.cell? ⟨K.d,10,none⟩=some (.slice ao N cap):=cellkept hbW HC.out;have xa:∀ ob,(W0.drew.alloc ob).cell? ⟨K.d,10,none⟩=some (.slice ao N cap):=fun ob=>cellkept (((Below.refl W0.heap.size W0).drew).alloc (Nat.le_refl _) ob) d7;have A1:Hid ((W0.drew.alloc XX).ownsRow w1.heap.size 108 2 (.slice (some ⟨W0.heap.size,0,none⟩) 0 (N+1)) 0 []):=Wd (HS.out.2.2 W0.drew w1.heap.size hbW1.size);have hbX:=((Below.refl W0.heap.size W0).drew).alloc (Nat.le_refl _) XX;have S1:=Wd (HS.out.1.keep (hbW.trans (hbX.mono hbW.size)));have hBX:=Wd (hbW1.trans (hbX.mono hbW1.size));have hs0:=hbW1.size;have hbW1:=Wd hbW1;have hhi':=hhi;clear hW0 hbW hbX c1 d0;go_wp2_with fail
   refine wp_region_held_drew (S:=(fun w'=>w'.cell? ⟨K.d,10,none⟩=some (.slice ao N cap))) (by kernel_rfl) d7 (fun hHeld=>?_);refine wt (i:=0) (v:=.pointer (some ⟨K.d,0,none⟩)) hHeld ?_;refine wt (i:=1) (v:=.pointer (some ⟨K.d,0,none⟩)) hHeld ?_;refine wt (i:=2) (v:=.pointer (some ⟨K.d,10,none⟩)) hHeld ?_;refine wt (i:=3) (v:=.slice ao N cap) hHeld ?_;refine wt (i:=4) (v:=.int .i64 (N:Int)) hHeld ?_;refine wt (i:=5) (v:=.int .i64 ((N:Int)+1)) hHeld ?_;refine wt (i:=7) (v:=.pointer (some ⟨K.d,0,none⟩)) hHeld ?_;refine wt (i:=8) (v:=.pointer (some ⟨K.d,0,none⟩)) hHeld ?_;refine wt (i:=9) (v:=.pointer (some ⟨K.d,10,none⟩)) hHeld ?_;refine wt (i:=10) (v:=.slice ao N cap) hHeld ?_;refine wt (i:=11) (v:=.int .i64 (j:Int)) hHeld ?_;refine wt (i:=12) (v:=.slice ao j cap) hHeld ?_;refine wpAnyH_ready (rs:=[6]) (by kernel_rfl) (by simp) ?_;refine AllReadyH.cons rfl (fun K hK=>?_) AllReadyH.nil;go_simp
   refine hK.out _ _ (xa XX) (fun hHeld1=>?_);clear hK K
   try simp only[Act.put,List.setIfInBounds_toArray,List.set_cons_zero,List.set_cons_succ,List.getElem_toArray,List.getElem_cons_zero,List.getElem_cons_succ]
   refine wpAnyH_ready (rs:=[13]) (by kernel_rfl) (by simp) ?_;refine AllReadyH.cons rfl (fun K hK=>?_) AllReadyH.nil;refine Own.step_app rfl (.tmp 34) (.tmp 40) 53 rfl underlying53 info_proc (.slice (some ⟨W0.heap.size,0,none⟩) 0 (N+1)) (.slice ao j cap) rfl rfl A1.out (by simp;omega) S1.out hone1.out (by unfold maxLen;omega) (by omega) ?_;intro v2 w2 ho2 hg2 hob2;rw[Nat.zero_add] at ho2;obtain⟨a2,c2,rfl⟩:=Own.form ho2;have A2:=Wd ho2;have B2:=Wd (hBX.out.grown hg2 (by simp;omega) (fun jj hj=>Own.ge A1.out jj hj));have y2:=cellkept (b0.out.trans (B2.out.mono b0.out.size)) HC.out;clear ho2 hg2 hob2;refine hK.out _ _ y2 (fun hHeld2=>?_);clear hK K
   try simp only[Act.put,List.setIfInBounds_toArray,List.set_cons_zero,List.set_cons_succ,List.getElem_toArray,List.getElem_cons_zero,List.getElem_cons_succ]
   refine wt (i:=14) (v:=.slice a2 j c2) hHeld2 ?_;refine wpAnyH_done (by kernel_rfl) ?_ _;have p2:=p0.out.keep B2.out;have q0:=p2.cell (j:=0) rfl;have q1:=p2.cell (j:=1) rfl;have hblk:=Blk.new w2 108 [.int .i64 pid,.slice (some ⟨lg,0,none⟩) n lc] rfl;have B2a:=Wd (B2.out.alloc B2.out.size (.cells #[.int .i64 pid,.slice (some ⟨lg,0,none⟩) n lc] 108));have A2a:=Wd (Own.below A2.out ((Below.refl w2.heap.size w2).alloc (Nat.le_refl _) (.cells #[.int .i64 pid,.slice (some ⟨lg,0,none⟩) n lc] 108)))
   have S2a:Hid (Own.Src (w2.alloc (.cells #[.int .i64 pid,.slice (some ⟨lg,0,none⟩) n lc] 108)) 2 (.slice (some ⟨w2.heap.size,0,none⟩) 1 1) 1 [.int .i64 pid,.slice (some ⟨lg,0,none⟩) n lc]):=Wd (.inr ⟨_,_,rfl,rfl,fun i u hi=>by
    have:=hblk.cell hi;rw[Addr.add_lit,Nat.zero_add]
    exact this⟩)
   clear hblk p2
   go_wp2_with (first
    | (at_builtin;refine Own.wpList_app rfl (.tmp 42) (.tmp 44) 53 rfl underlying53 info_proc (.slice a2 j c2) (.slice (some ⟨w2.heap.size,0,none⟩) 1 1) rfl rfl A2a.out B2a.out.size S2a.out hone2.out (by unfold maxLen;omega) (by omega) ?_;intro v3 w3 ho3 hg3 hob3;obtain⟨a3,c3,rfl⟩:=Own.form ho3;have A3:=Wd ho3;have B3:=Wd (B2a.out.grown hg3 B2a.out.size (fun k h=>Own.ge A2a.out k h));have S3:=Wd (HS.out.2.1.keep (b0.out.trans (B3.out.mono b0.out.size)));have y7:=cellkept (b0.out.trans (B3.out.mono b0.out.size)) HC.out;clear ho3 hg3 hob3)
    | (at_builtin;refine Own.wpList_app rfl (.tmp 47) (.tmp 53) 53 rfl underlying53 info_proc (.slice a3 (j+1) c3) ad rfl rfl A3.out B3.out.size S3.out hone3.out (by unfold maxLen;omega) (by omega) ?_;intro v4 w4 ho4 hg4 hob4;obtain⟨a4,c4,rfl⟩:=Own.form ho4;have B4:=Wd (B3.out.grown hg4 B3.out.size (fun k h=>Own.ge A3.out k h));have A4:=Wd ho4;have B5:=Wd (b0.out.trans (B4.out.mono b0.out.size));have f4:=(hbox.out.keep B5.out).fz;have z7:=(hbox.out.keep B5.out).cell (j:=10) rfl;clear ho4 hg4 hob4))
   go_wp2_with fail
   go_end0
   exact⟨rfl,_,hnew.out w4 _ B5.out (Own.low b0.out.size A4.out)⟩
end
end RD
namespace RD
open DC (Of Ls Ps Ou Sm lk vacP insP addR)
open IN (Keeps lt_of_some cellkept)
open IS (I64)
section
variable {K:Cd}{c q:Nat}{S:Sm}{D:NT.Ds}{P:Ps}{O:Ou}{vo vp:Value}{qo:List Of}{qp:List PE}{w w':World}
theorem lay_d (x:PE)(w wr:World)(h1:QT K vo vp qo qp w)(hol:qo.length<=K.opens)(htr:RN.RW K.base K.rt K.rg K.I K.B K.L c S D (RN.kap D) w)(hlen:qp.length<=100000)(hb:Below w.heap.size w wr)(hx:wr.ownsRow w.heap.size 3 1 (pval x) x.L.length (lcl x.L)) :
 Calls prog 41 #[.pointer (some ⟨K.d,0,none⟩),.agg #[.int .i64 x.pid,.slice (some ⟨x.g,0,none⟩) x.L.length x.cap]] wr fun e w'=>e=.returned (.tuple #[])/\RO K c S D (insP x.pid x.L (Pq qp)) (Oq qo) w w':=by
 have hg:=Own.ge hx x.g rfl;refine (lay_any x wr (h1.keep hb) hlen (Own.low h1.low hx) (fun y hy e=>?_)).mono ?_
 ·have:=((h1.rl y hy).lt y.g rfl).2
  omega
 ·rintro e w' ⟨rfl,vp',q1,k1⟩;refine⟨rfl,?_,(Keeps.new hb h1.low).trans (ZT_own k1)⟩;rw[<-Pq_ins x qp];exact (RT.of q1 hol (tr_own (htr.keep hb) k1)).more (by omega)
theorem rep_cells (n:Nat):lcl (List.replicate n none)=List.replicate n (.int .i64 (-1)):=by
 unfold lcl;rw[List.map_replicate]
 rfl
theorem add_d (pid:Int)(w:World)(h:RT K c S D P O w)(hk:Kn K q S D P O) :
 Calls prog 15 #[.pointer (some ⟨K.d,0,none⟩),.int .i64 pid] w fun e w'=>e=.returned (.int .i64 (addR K.files P pid).1)/\RO K c S D (addR K.files P pid).2 O w w':=by
 have h0:=Wd h;obtain⟨⟨vo,vp,qo,qp,h1,rfl,rfl,hol⟩,htr⟩:=h;have hlen:qp.length<=100000:=by have:=hk.few;rw[Pq_len] at this;have:=hk.lim;omega
 have cM:=may_any pid h1 hlen;have hcap:=hk.cap;unfold addR
 by_cases hv:vacP (Pq qp) pid=0
 ·rw[if_pos hv];rw[hv] at cM;simp only;have cM:=Wd cM
  have fin:Hid (∀ (wr:World) (v:Value),Below w.heap.size w wr->wr.ownsRow (w.heap.size+1) 3 1 v K.files (List.replicate K.files (.int .i64 (-1)))->Calls prog 41 #[.pointer (some ⟨K.d,0,none⟩),.agg #[.int .i64 pid,v]] wr fun e w'=>e=.returned (.tuple #[])/\RO K c S D (insP pid (List.replicate K.files none) (Pq qp)) (Oq qo) w w'):=Wd (by
   intro wr v hb ho;obtain⟨g,cap,rfl⟩:∃ g cap,v=.slice (some ⟨g,0,none⟩) K.files cap:=by
    rcases ho.2 with ⟨-,h2⟩|⟨g,cap,cur,h2,-⟩
    ·omega
    ·exact⟨g,cap,h2⟩
   have:=lay_d ⟨pid,g,cap,List.replicate K.files none⟩ w wr h1 hol htr hlen hb (by
    simp only[pval,List.length_replicate,rep_cells]
    exact Own.low (by omega) ho)
   simp only[List.length_replicate] at this
   exact this)
  have c5:Hid (∀ W,Below w.heap.size w W->W.cell? ⟨K.d,5,none⟩=some (.int .i64 (K.files:Int))):=Wd fun W hb=>(h1.keep hb).box.cell rfl;have hF:K.files<=64:=hcap.2.1;clear h1 hol htr hk hv hcap hlen h0;generalize K.files=F at *;go_enter func15,ntmps15
  go_wp2_with fail
  refine cM.out.mono ?_;rintro e w1 ⟨rfl,rfl⟩;go_wp2_with fail
  go_loopw [7] (fun i wr=>∃ (j:Nat) (v:Value),j<=F/\i=.int .i64 (j:Int)/\Hid (Blk wr w.heap.size 108 [.int .i64 pid,v])/\Hid (wr.ownsRow (w.heap.size+1) 3 1 v j (List.replicate j (.int .i64 (-1))))/\Hid (Below w.heap.size w wr)/\w.heap.size<wr.heap.size) (fun i _=>F-(intOf i).toNat)
  case atStart=>
   refine⟨0,.slice none 0 0,Nat.zero_le _,rfl,?_,?_,?_,?_⟩
   ·first
     | exact Wd (Blk.new w 108 [.int .i64 pid,.slice none 0 0] rfl)
     | exact Wd (((Blk.new w 108 [.int .i64 0,.slice none 0 0] rfl).set 0 (.int .i64 pid)).set 1 (.slice none 0 0))
   ·exact Wd (World.ownsRow_nil _ _ _ _)
   ·first
     | exact Wd ((Below.refl w.heap.size w).alloc (Nat.le_refl _) _)
     | exact Wd ((((Below.refl w.heap.size w).alloc (Nat.le_refl _) _).setCell (Nat.le_refl _) _).setCell (Nat.le_refl _) _)
   ·first
     | exact (Blk.new w 108 [.int .i64 pid,.slice none 0 0] rfl).lt
     | exact (((Blk.new w 108 [.int .i64 0,.slice none 0 0] rfl).set 0 (.int .i64 pid)).set 1 (.slice none 0 0)).lt
  case round=>
   obtain⟨j,v,hj,rfl,hB,hO,hb,hsz⟩:=hrel;have x5:=c5.out wr hb.out
   by_cases hlt:j<F
   ·have r1:=hB.out.cell (j:=1) rfl;have fz:=hB.out.fz;obtain⟨a,cp,rfl⟩:=Own.form hO.out;have hsrc:=Wd (int_cells (wr.alloc (.cells #[.int .i64 (-1)] 3)) (-1) wr.heap.size (Blk.new wr 3 [.int .i64 (-1)] rfl));have hbX:Hid (Below (w.heap.size+1) wr (wr.alloc (.cells #[.int .i64 (-1)] 3))):=Wd ((Below.refl (w.heap.size+1) wr).alloc (by omega) _);have hown7:=Wd (Own.below hO.out ((Below.refl wr.heap.size wr).alloc (Nat.le_refl _) (.cells #[.int .i64 (-1)] 3)));have hw7:=hbX.out.size
    go_wp2_with (first
     | (at_builtin;refine Own.wpList_app rfl (.tmp 25) (.tmp 26) 57 rfl underlying57 info_int (.slice a j cp) (.slice (some ⟨wr.heap.size,0,none⟩) 1 1) rfl rfl hown7.out (by omega) hsrc.out (int_one _) (by unfold maxLen;omega) (by omega) ?_;intro v' w8 ho8 hg8 hob8;obtain⟨a8,c8,rfl⟩:=Own.form ho8;have B8:=Wd (hbX.out.grown hg8 (by omega) (fun k h=>Own.ge hown7.out k h));have ho8:=Wd ho8;have B8w:=Wd (hB.out.below B8.out (by omega));have g1:=B8w.out.cell (j:=1) rfl;have g2:=B8w.out.fz;have g3:=B8.out.size;clear hg8 hob8))
    have hfin:Hid (Blk (w8.setCell ⟨w.heap.size,1,none⟩ (.slice a8 (j+1) c8)) w.heap.size 108 [.int .i64 pid,(.slice a8 (j+1) c8)]):=Wd (B8w.out.set 1 (.slice a8 (j+1) c8))
    have hrow:Hid ((w8.setCell ⟨w.heap.size,1,none⟩ (.slice a8 (j+1) c8)).ownsRow (w.heap.size+1) 3 1 (.slice a8 (j+1) c8) (j+1) (List.replicate (j+1) (.int .i64 (-1)))):=Wd (Own.set (by
     rw[List.replicate_succ']
     exact ho8.out) (p:=⟨w.heap.size,1,none⟩) (Nat.lt_succ_self _) (.slice a8 (j+1) c8))
    have hbf:Hid (Below w.heap.size w (w8.setCell ⟨w.heap.size,1,none⟩ (.slice a8 (j+1) c8))):=Wd ((hb.out.trans (B8.out.mono (by omega))).setCell (p:=⟨w.heap.size,1,none⟩) (Nat.le_refl _) (.slice a8 (j+1) c8));have hsf:=hfin.out.lt;go_wp2_with fail
    go_roundw
    case rel=>exact⟨j+1,(.slice a8 (j+1) c8),by omega,by go_num,hfin,hrow,hbf,hsf⟩
    case measure=>simp[intOf];omega
   ·obtain rfl:j=F:=by omega
    have r0:=hB.out.cell (j:=0) rfl;have r1:=hB.out.cell (j:=1) rfl;have cL:=Wd (fin.out wr v hb.out hO.out);obtain⟨a,cp,rfl⟩:=Own.form hO.out;go_wp2_with fail
    refine cL.out.mono ?_;rintro e w9 ⟨rfl,hr⟩;have hr:=Wd hr;go_wp2_with fail
    go_ret
    exact⟨rfl,hr.out⟩
 ·rw[if_neg hv];obtain⟨r,hr⟩:∃ r,vacP (Pq qp) pid=r:=⟨_,rfl⟩;rw[hr] at cM hv ⊢;have hne:(r == 0)=false:=by simpa using hv
  have cM:=Wd cM;clear h1 hol htr hk hv hcap hlen hr;go_enter func15,ntmps15
  go_wp2_with fail
  refine cM.out.mono ?_;rintro e w1 ⟨rfl,rfl⟩;go_wp2_with fail
  go_ret
  exact⟨rfl,h0.out.same (Below.refl _ _)⟩
end
end RD
end Go.Proofs.YtfffibepcdlldaaGreat

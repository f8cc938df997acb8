/- A part. -/
import Derived.Test.YtfffibepcdlldaaGreatZA36
import Derived.Test.YtfffibepcdlldaaGreatZA30
import Derived.Test.YtfffibepcdlldaaGreatZA20
import Derived.Test.YtfffibepcdlldaaGreatZA33
import Derived.Test.YtfffibepcdlldaaGreatZA19
import Derived.Test.YtfffibepcdlldaaGreatZA32
import Derived.Test.YtfffibepcdlldaaGreatZA34
set_option linter.unusedVariables false
set_option linter.unusedSimpArgs false
set_option maxRecDepth 100000
set_option maxHeartbeats 64000000
open Go.Proofs.Tryz

namespace Go.Proofs.YtfffibepcdlldaaGreat
open Go.ChangeShapes Go.WideShapes Go.ChangeAt Go.RowKit
namespace RD
open DC (Of Ls Ps Ou Sm lk fx fx_le fx_lt fx_at fileR fileR_ok getL getL_none getL_at getL_some vacP)
open IN (Keeps lt_of_some)
structure Kn (K:Cd)(q:Nat)(S:Sm)(D:NT.Ds)(P:Ps)(O:Ou):Prop where
 di:DC.DI K.files K.opens S P O []
 ti:NT.TI K.I q NT.e0 S D
 fine:IN.Fine K.I K.L K.B q S
 lim:K.I<=4096/\1<=K.L/\K.L<=32768/\q<60000
 cap:1<=K.files/\K.files<=64/\1<=K.opens/\K.opens<=1024
 few:P.length<=q
def ZT (k:Nat)(o:Obj):Prop:=RN.UT k o∨OT k o
structure RT (K:Cd)(c:Nat)(S:Sm)(D:NT.Ds)(P:Ps)(O:Ou)(w:World):Prop where
 ex:∃ vo vp qo qp,QT K vo vp qo qp w/\Pq qp=P/\Oq qo=O/\qo.length<=K.opens
 tr:RN.RW K.base K.rt K.rg K.I K.B K.L c S D (RN.kap D) w
def RO (K:Cd)(c:Nat)(S:Sm)(D:NT.Ds)(P:Ps)(O:Ou)(w w':World):Prop:=RT K (c+2) S D P O w'/\Keeps K.base ZT w w'
section
variable {K:Cd}{c q:Nat}{S:Sm}{D:NT.Ds}{P:Ps}{O:Ou}{vo vp:Value}{qo:List Of}{qp:List PE}{w w':World}
theorem QT.tree (h:QT K vo vp qo qp w)(hK:Keeps K.base RN.UT w w'):QT K vo vp qo qp w':=h.keeps hK (by
 rintro k c ty s (rfl|rfl|rfl|rfl) <;> simp[RN.UT,RN.RT,IN.DT])
theorem QT.store (h:QT K vo vp qo qp w)(hK:Keeps K.base IN.DT w w'):QT K vo vp qo qp w':=h.keeps hK (by
 rintro k c ty s (rfl|rfl|rfl|rfl) <;> simp[IN.DT])
theorem tr_store {S':Sm}(h:RN.RW K.base K.rt K.rg K.I K.B K.L c S D (RN.kap D) w)(hK:Keeps K.base IN.DT w w')(hs:IN.RS K.base w' K.rg (K.I:Int) (K.B:Int) (K.L:Int) (IN.lst S' K.I)):RN.RW K.base K.rt K.rg K.I K.B K.L c S' D (RN.kap D) w':=
 ⟨h.ex.keeps hK (by simp[IN.DT]) (by simp[IN.DT]) (by simp[IN.DT]),hs⟩
theorem tr_own (h:RN.RW K.base K.rt K.rg K.I K.B K.L c S D (RN.kap D) w)(hK:Keeps K.base OT w w'):RN.RW K.base K.rt K.rg K.I K.B K.L c S D (RN.kap D) w':=
 ⟨h.ex.keeps hK (by simp[OT]) (by simp[OT]) (by simp[OT]),h.rs.keeps hK (by simp[OT]) (by simp[OT]) (by simp[OT])⟩
theorem ZT_tree (h:Keeps K.base RN.UT w w'):Keeps K.base ZT w w':=NT.keeps_wide h fun k o _ hT=>.inl hT
theorem ZT_store (h:Keeps K.base IN.DT w w'):Keeps K.base ZT w w':=NT.keeps_wide h fun k o _ hT=>.inl (.inr hT)
theorem ZT_own (h:Keeps K.base OT w w'):Keeps K.base ZT w w':=NT.keeps_wide h fun k o _ hT=>.inr hT
theorem RT.keep (h:RT K c S D P O w)(hb:Below w.heap.size w w'):RT K c S D P O w':=by
 obtain⟨⟨vo,vp,qo,qp,h1,h2⟩,h3⟩:=h;exact⟨⟨vo,vp,qo,qp,h1.keep hb,h2⟩,h3.keep hb⟩
theorem RT.low (h:RT K c S D P O w):K.base<=w.heap.size:=by
 obtain⟨⟨vo,vp,qo,qp,h1,h2⟩,h3⟩:=h;exact h1.low
theorem RT.more (h:RT K c S D P O w){c':Nat}(hc:c<=c'):RT K c' S D P O w:=⟨h.ex,h.tr.more hc⟩
theorem RT.same (h:RT K c S D P O w)(hb:Below w.heap.size w w'):RO K c S D P O w w':=⟨(h.keep hb).more (by omega),Keeps.new hb h.low⟩
theorem Pq_len (qp:List PE):(Pq qp).length=qp.length:=by simp[Pq]
theorem open_raw (pid fd fl:Int)(h:QT K vo vp qo qp w)(hk:Kn K q S D (Pq qp) (Oq qo))(hol:qo.length<=K.opens) :
 Calls prog 85 #[.pointer (some ⟨K.d,0,none⟩),.int .i64 pid,.int .i64 fd,.int .i64 fl] w fun e w'=>e=.returned (.tuple #[.int .i64 (fileA (fileR (Pq qp) (Oq qo) pid fd fl)).1,.int .i64 (fileA (fileR (Pq qp) (Oq qo) pid fd fl)).2])/\Below w.heap.size w w':=by
 have hlen:qp.length<=100000:=by have:=hk.few;rw[Pq_len] at this;have:=hk.lim;omega
 have hcap:=hk.cap;unfold fileR
 cases e:lk (Pq qp) pid with
 | none=>exact open_none pid fd fl h hlen e
 | some L=>
   have hL:=hk.di.lks e;simp only
   by_cases h0:fd<0∨(L.length:Int)<=fd
   ·rw[getL_none h0];exact open_out pid fd fl h hlen e h0
   ·obtain⟨j,rfl⟩:∃ j:Nat,fd=j:=⟨fd.toNat,by omega⟩;have hj:j<L.length:=by omega
    cases e2:L[j]? with
    | none=>rw[List.getElem?_eq_none_iff] at e2;omega
    | some x=>
      rw[getL_at e2]
      cases x with
      | none=>exact open_gone pid fl j h hlen e e2 (by omega)
      | some k=>
        obtain⟨o,ho⟩:=hk.di.has e e2;simp only[ho];have:=open_at pid fl j k o h hlen (by omega) e e2 (by omega) ho
        split
        ·rename_i h3
         simp only[if_pos h3] at this;exact this
        ·rename_i h3
         simp only[if_neg h3] at this;exact this
end
end RD
namespace RD
open DC (Of Ls Ps Ou Sm lk fx fileR fileR_ok fileR_ne getL updO truR rdR)
open IN (Keeps lt_of_some)
open IS (I64)
structure FO (K:Cd)(vo:Value)(og k:Nat)(o:Of)(W:World):Prop where
 s0:W.cell? ⟨K.d,0,none⟩=some (.pointer (some ⟨K.rg,0,none⟩))
 s9:W.cell? ⟨K.d,9,none⟩=some vo
 o0:W.cell? ⟨og,k*4,none⟩=some (.int .i64 o.ino)
 o1:W.cell? ⟨og,k*4+1,none⟩=some (.int .i64 o.off)
 o2:W.cell? ⟨og,k*4+2,none⟩=some (.int .i64 o.flags)
 o3:W.cell? ⟨og,k*4+3,none⟩=some (.int .i64 o.refs)
 fz:∀ j,W.frozen? ⟨og,j,none⟩=false
section
variable {K:Cd}{c q:Nat}{S:Sm}{D:NT.Ds}{P:Ps}{O:Ou}{vo vp:Value}{qo:List Of}{qp:List PE}{w w':World}
theorem QT.fo (h:QT K vo vp qo qp w){k:Nat}(hk:k<qo.length):∃ og cap,vo=.slice (some ⟨og,0,none⟩) qo.length cap/\og≠K.d/\K.base<=og/\(k:Int)<(qo.length:Int)/\qo.length<=cap/\cap<=maxLen/\∀ W,QT K vo vp qo qp W->FO K vo og k qo[k] W:=by
 obtain⟨og,cap,rfl,h1,-,h3,h4,h5,-⟩:=h.atO hk;refine⟨og,cap,rfl,h3,h1,by omega,h4,h5,fun W hW=>?_⟩;obtain⟨og',cap',e,-,-,-,-,-,f,e0,e1,e2,e3⟩:=hW.atO hk;simp only[Value.slice.injEq,Option.some.injEq,Addr.mk.injEq,and_true,true_and] at e;obtain⟨rfl,rfl⟩:=e;exact⟨hW.box.cell rfl,hW.box.cell rfl,e0,e1,e2,e3,f⟩
theorem RT.of (h:QT K vo vp qo qp w)(hol:qo.length<=K.opens)(ht:RN.RW K.base K.rt K.rg K.I K.B K.L c S D (RN.kap D) w):RT K c S D (Pq qp) (Oq qo) w:=⟨⟨vo,vp,qo,qp,h,rfl,rfl,hol⟩,ht⟩
theorem store_next {S':Sm}{w1 w3:World}(h:QT K vo vp qo qp w)(hol:qo.length<=K.opens)(ht:RN.RW K.base K.rt K.rg K.I K.B K.L c S D (RN.kap D) w)(b1:Below w.heap.size w w1)(hrs:IN.RS K.base w3 K.rg (K.I:Int) (K.B:Int) (K.L:Int) (IN.lst S' K.I))(k3:Keeps K.base IN.DT w1 w3):QT K vo vp qo qp w3/\RO K c S' D (Pq qp) (Oq qo) w w3:=by
 have q3:=(h.keep b1).store k3;exact⟨q3,(RT.of q3 hol (tr_store (ht.keep b1) k3 hrs)).more (by omega),(Keeps.new b1 h.low).trans (ZT_store k3)⟩
theorem drew1_below (w:World):Below w.heap.size w w.drew:=⟨rfl,rfl,rfl,Nat.le_refl _,fun _ _=>rfl⟩
theorem trunc_d (pid fd n:Int)(w:World)(h:RT K c S D P O w)(hk:Kn K q S D P O)(hn:I64 n) :
 Calls prog 91 #[.pointer (some ⟨K.d,0,none⟩),.int .i64 pid,.int .i64 fd,.int .i64 n] w fun e w'=>e=.returned (.int .i64 (truR S P O pid fd n).1)/\RO K c (truR S P O pid fd n).2 D P O w w':=by
 have h0:=Wd h;obtain⟨⟨vo,vp,qo,qp,h1,rfl,rfl,hol⟩,htr⟩:=h;have cO:=open_raw pid fd 2 h1 hk hol;unfold truR
 cases e:fileR (Pq qp) (Oq qo) pid fd 2 with
 | error c0=>
   rw[e] at cO;have hne:(c0 != 0)=true:=by simpa using fileR_ne e
   have cO:=Wd cO;clear h1 hk hol htr e;go_enter func91,ntmps91
   go_wp2_with fail
   refine cO.out.mono ?_;rintro e w1 ⟨rfl,b1⟩;have b1:=Wd b1;simp only[fileA];go_wp2_with fail
   go_ret
   exact⟨rfl,h0.out.same b1.out⟩
 | ok k=>
   rw[e] at cO;obtain⟨L,o,j,h2,hfd,h3,h4,h5,h6⟩:=fileR_ok e;obtain⟨hko,he,hr⟩:=Oq_some h5;obtain⟨x,hx,hkind⟩:=hk.di.ino k o h5;simp only[h5];obtain⟨og,cap,rfl,hgd,-,hkN,hNc,hcm,hF⟩:=h1.fo hko;rw[he] at hF;have cO:=Wd cO;have sA:=Wd (fun (w1:World) (b1:Below w.heap.size w w1)=>hF _ ((h1.keep b1).keep (drew1_below w1)));have cT:=Wd (fun (w1:World) (b1:Below w.heap.size w w1)=>IN.rTr_yes o.ino n x w1.drew hk.fine hk.lim.1 ((htr.rs.keep b1).keep (drew1_below w1)) hn hx hkind)
   have next:=Wd (fun (w1 w3:World) (b1:Below w.heap.size w w1) (hrs:IN.RS K.base w3 K.rg (K.I:Int) (K.B:Int) (K.L:Int) (IN.lst (IN.tS S o.ino n) K.I)) (k3:Keeps K.base IN.DT w1.drew w3)=>
    have hh:=store_next h1 hol htr b1 hrs k3.undrew
    And.intro (hF _ hh.1) (Wd hh.2))
   clear h1 hk hol htr e hfd h2 h3 h4 h5 h6 hx hkind hF h0 he hko hr;generalize qo.length=N at *;generalize IN.tErr S o.ino n=E at *;generalize IN.tS S o.ino n=S2 at *;go_enter func91,ntmps91
   go_wp2_with fail
   refine cO.out.mono ?_;rintro e w1 ⟨rfl,b1⟩;have sA1:=sA.out w1 b1;have t1:=sA1.s0;have t2:=sA1.s9;have t3:=sA1.o0;clear sA1;have cT1:=Wd (cT.out w1 b1);have next1:=Wd (fun w3=>next.out w1 w3 b1);clear cT next sA b1;simp only[fileA];go_wp2_with fail
   go_region_held3 (fun w'=>w'.cell? ⟨K.d,0,none⟩=some (.pointer (some ⟨K.rg,0,none⟩))/\w'.cell? ⟨K.d,9,none⟩=some (.slice (some ⟨og,0,none⟩) N cap)/\w'.cell? ⟨og,k*4,none⟩=some (.int .i64 o.ino)) (with_reducible (first|assumption|exact⟨t1,t2,t3⟩))
    (first
     | (go_at_call 122;refine cT1.out.mono ?_;rintro e w3 ⟨rfl,hp3,k3⟩;obtain⟨f3,hfin⟩:=next1.out w3 hp3 k3;have S3:=And.intro f3.s0 (And.intro f3.s9 f3.o0);clear f3 hp3 k3))
   all_goals
    go_wp2_with fail
    go_ret
    exact⟨rfl,hfin.out⟩
end
end RD
namespace RD
open DC (Of Ls Ps Ou Sm lk fx fx_le fx_at fileR fileR_ok fileR_ne getL updO updO_at updO_ne setP dupR)
open IN (Keeps lt_of_some)
open IS (I64)
section
variable {K:Cd}{c q:Nat}{S:Sm}{D:NT.Ds}{P:Ps}{O:Ou}{vo vp:Value}{qo:List Of}{qp:List PE}{w w':World}
theorem Oq_set {k:Nat}(hk:k<qo.length)(o:Of):Oq (qo.set k o)=updO (Oq qo) k (if o.refs=0 then none else some o):=by
 funext j
 by_cases e:j=k
 ·subst e;rw[updO_at];unfold Oq;rw[List.getElem?_set_self hk]
 ·rw[updO_ne e];unfold Oq;rw[List.getElem?_set_ne fun e'=>e e'.symm]
theorem Pq_set (ha:DC.Asc (Pq qp)){i:Nat}(hi:i<qp.length)(L:Ls):Pq (qp.set i { qp[i] with L:=L })=setP (Pq qp) qp[i].pid L:=by
 unfold Pq setP;rw[List.map_map];refine List.ext_getElem (by simp) fun j h1 h2=>?_;rw[List.getElem_map,List.getElem_map,List.getElem_set];simp only[Function.comp];have hj:j<qp.length:=by simpa using h2
 by_cases e:i=j
 ·subst e;simp
 ·have hne:qp[j].pid≠qp[i].pid:=by
   have hp:=List.pairwise_iff_getElem.1 ha;rcases Nat.lt_or_gt_of_ne e with h3|h3
   ·have:=hp i j (by simpa[Pq] using hi) (by simpa[Pq] using hj) h3;simp only[Pq,List.getElem_map] at this
    omega
   ·have:=hp j i (by simpa[Pq] using hj) (by simpa[Pq] using hi) h3;simp only[Pq,List.getElem_map] at this
    omega
  rw[if_neg e,if_neg hne]
structure LO (K:Cd)(vp:Value)(pg lg n lc i:Nat)(W:World):Prop where
 s10:W.cell? ⟨K.d,10,none⟩=some vp
 p1:W.cell? ⟨pg,i*2+1,none⟩=some (.slice (some ⟨lg,0,none⟩) n lc)
 fz:∀ j,W.frozen? ⟨lg,j,none⟩=false
theorem QT.lo (h:QT K vo vp qo qp w){i:Nat}(hi:i<qp.length):∃ pg cap,vp=.slice (some ⟨pg,0,none⟩) qp.length cap/\(i:Int)<(qp.length:Int)/\qp.length<=cap/\cap<=maxLen/\qp[i].L.length<=qp[i].cap/\qp[i].cap<=maxLen/\∀ W,QT K vo vp qo qp W->LO K vp pg qp[i].g qp[i].L.length qp[i].cap i W:=by
 obtain⟨pg,cap,rfl,h1,-,h3,h4,h5,-⟩:=h.atP hi;obtain⟨-,-,-,h6,h7,-⟩:=h.atL hi;refine⟨pg,cap,rfl,by omega,h4,h5,h6,h7,fun W hW=>?_⟩;obtain⟨pg',cap',e,-,-,-,-,-,-,-,e1⟩:=hW.atP hi;obtain⟨-,-,-,-,-,f,-⟩:=hW.atL hi;simp only[Value.slice.injEq,Option.some.injEq,Addr.mk.injEq,and_true,true_and] at e;obtain⟨rfl,rfl⟩:=e;exact⟨hW.box.cell rfl,e1,f⟩
theorem dup_d (pid fd:Int)(w:World)(h:RT K c S D P O w)(hk:Kn K q S D P O) :
 Calls prog 44 #[.pointer (some ⟨K.d,0,none⟩),.int .i64 pid,.int .i64 fd] w fun e w'=>e=.returned (.tuple #[.int .i64 (dupR K.files P O pid fd).1.1,.int .i64 (dupR K.files P O pid fd).1.2])/\RO K c S D (dupR K.files P O pid fd).2.1 (dupR K.files P O pid fd).2.2 w w':=by
 have h0:=Wd h;obtain⟨⟨vo,vp,qo,qp,h1,rfl,rfl,hol⟩,htr⟩:=h;have cO:=open_raw pid fd 0 h1 hk hol;have hlen:qp.length<=100000:=by have:=hk.few;rw[Pq_len] at this;have:=hk.lim;omega
 unfold dupR
 cases e:fileR (Pq qp) (Oq qo) pid fd 0 with
 | error c0=>
   rw[e] at cO;have hne:(c0 != 0)=true:=by simpa using fileR_ne e
   have cO:=Wd cO;clear h1 hk hol htr e;go_enter func44,ntmps44
   go_wp2_with fail
   refine cO.out.mono ?_;rintro e w1 ⟨rfl,b1⟩;have b1:=Wd b1;simp only[fileA];go_wp2_with fail
   go_ret2
   exact⟨rfl,h0.out.same b1.out⟩
 | ok k=>
   rw[e] at cO;obtain⟨L,o,j,h2,hfd,h3,h4,h5,h6⟩:=fileR_ok e;obtain⟨hko,he,hr⟩:=Oq_some h5;obtain⟨hi,hL⟩:=px_some h2;have hpid:=px_at qp pid hi;have hl:=hk.di.lks h2;have hcap:=hk.cap;simp only[h2,Option.getD_some,h5,Option.map_some];have cA:=Wd (fun (w1:World) (b1:Below w.heap.size w w1)=>at_any pid (h1.keep b1) hlen);have hat:atA (Pq qp) qp pid=(px qp pid:Int):=by unfold atA;rw[if_neg (by rw[h2];simp)]
   rw[hat] at cA;have cF:=Wd (fun (w1:World) (b1:Below w.heap.size w w1)=>free_any _ (h1.keep b1) hi (by rw[hL];omega));rw[hL] at cF;have cO:=Wd cO
   by_cases hf:fx L<K.files
   ·rw[if_pos hf];rw[if_pos (by omega)] at cF;obtain⟨og,cap,hvo,hgd,-,hkN,hNc,hcm,hF⟩:=h1.fo hko;obtain⟨pg,pcap,hvp,hiN,hPc,hpm,hlc,hlm,hG⟩:=h1.lo hi;rw[he] at hF;rw[hL] at hlc hG;have hrf:=hk.di.refs k o h5;have hle:o.refs<=4000000:=by
     have h7:=DC.cntP_le (f:=K.files) k hk.di.len;have h8:=hk.few;have h9:=hk.lim;simp only[DC.cntL,List.countP_nil,Nat.add_zero] at hrf;have:(Pq qp).length*K.files<=60000*64:=Nat.mul_le_mul (by omega) (by omega)
     omega
    have hw:IntKind.i64.wrap (o.refs+1)=o.refs+1:=by rw[IntKind.wrap_i64];omega
    have hfL:((fx L:Nat):Int)<(L.length:Int):=by omega
    have n1:¬ qp[px qp pid].g=K.d:=(h1.atL hi).2.2.1;have n2:¬ K.d=qp[px qp pid].g:=fun e=>n1 e.symm;have n3:¬ qp[px qp pid].g=og:=own_far (h1.rl _ (List.getElem_mem hi)) h1.ro (by decide) rfl (by rw[hvo];rfl);have n4:¬ og=qp[px qp pid].g:=fun e=>n3 e.symm
    have next:=Wd (fun (w1:World) (b1:Below w.heap.size w w1)=>
     have q1:=h1.keep b1;have s1:=q1.setL hi (j:=fx L) (some k);have f1:=hG _ q1;have f2:=hF _ q1;have s2:QT K (.slice (some ⟨og,0,none⟩) qo.length cap) vp (qo.set k { o with refs:=o.refs+1 }) _ _/\_:=(hvo▸s1.1).setO hko 3 (.int .i64 (o.refs+1)) (by decide) { o with refs:=o.refs+1 } (by rw[he];rfl);have f3:w1.cell? ⟨qp[px qp pid].g,fx L,none⟩=some (.int .i64 (-1)):=(q1.atL hi).2.2.2.2.2.2 (fx L) none (by rw[hL];exact DC.fx_none (by omega))
     And.intro f1 (And.intro f2 (And.intro f3 (Wd (show RO K c S D (setP (Pq qp) pid (L.set (fx L) (some k))) (updO (Oq qo) k (some { o with refs:=o.refs+1 })) w ((w1.setCell ⟨qp[px qp pid].g,fx L,none⟩ (.int .i64 (cd (some k)))).setCell ⟨og,k*4+3,none⟩ (.int .i64 (o.refs+1))) from by
      have hO:=Oq_set hko { o with refs:=o.refs+1 };rw[if_neg (by simp only;omega)] at hO;have hP:=Pq_set hk.di.asc hi (qp[px qp pid].L.set (fx L) (some k));have hP2:setP (Pq qp) pid (qp[px qp pid].L.set (fx L) (some k))=setP (Pq qp) pid (L.set (fx L) (some k)):=by rw[hL]
      rw[hpid] at hP;rw[<-hO,<-hP2,<-hP]
      exact⟨(RT.of s2.1 (by rw[List.length_set];exact hol) (tr_own (tr_own (htr.keep b1) s1.2) s2.2)).more (by omega),(Keeps.new b1 h1.low).trans ((ZT_own s1.2).trans (ZT_own s2.2))⟩)))))
    subst hvo;subst hvp;simp only[cd] at next;clear h1 hk hol htr e hfd h2 h3 h4 h5 h6 hF hG h0 he hko hr hL hpid hl hcap hat hf hlen hrf hle;generalize px qp pid=i at *;generalize hlg:qp[i].g=lg at *;generalize hlcc:qp[i].cap=lc at *;clear hlg hlcc hi;generalize qo.length=N at *;generalize qp.length=Np at *;generalize L.length=n at *;generalize hfd2:fx L=fd2 at *;go_enter func44,ntmps44
    go_wp2_with fail
    refine cO.out.mono ?_;rintro e w1 ⟨rfl,b1⟩;have cA1:=Wd (cA.out w1 b1);have cF1:=Wd (cF.out w1 b1);obtain⟨f1,f2,t7,hfin⟩:=next.out w1 b1;clear cA cF next b1;have t1:=f1.s10;have t2:=f1.p1;have t3:=f1.fz;have t4:=f2.s9;have t5:=f2.o3;have t6:=f2.fz;clear f1 f2;simp only[fileA];go_wp2_with fail
    refine cA1.out.mono ?_;rintro e w2 ⟨rfl,rfl⟩;go_wp2_with fail
    refine cF1.out.mono ?_;rintro e w2 ⟨rfl,rfl⟩;go_wp2_with fail
    go_ret2
    exact⟨rfl,hfin.out⟩
   ·rw[if_neg hf];rw[if_neg (by omega)] at cF;clear h1 hk hol htr e hfd h2 h3 h4 h5 h6 he hko hr hL hpid hl hcap hat hf hlen;generalize px qp pid=i at *;go_enter func44,ntmps44
    go_wp2_with fail
    refine cO.out.mono ?_;rintro e w1 ⟨rfl,b1⟩;have cA1:=Wd (cA.out w1 b1);have cF1:=Wd (cF.out w1 b1);have b1:=Wd b1;clear cA cF;simp only[fileA];go_wp2_with fail
    refine cA1.out.mono ?_;rintro e w2 ⟨rfl,rfl⟩;go_wp2_with fail
    refine cF1.out.mono ?_;rintro e w2 ⟨rfl,rfl⟩;go_wp2_with fail
    go_ret2
    exact⟨rfl,h0.out.same b1.out⟩
end
end RD
namespace RD
open DC (Of Ls Ps Ou Sm lk fx fx_le fx_at fileR fileR_ok fileR_ne getL updO updO_at updO_ne setP relS relO clsR)
open IN (Keeps lt_of_some)
open IS (I64)
section
variable {K:Cd}{c q:Nat}{S:Sm}{D:NT.Ds}{P:Ps}{O:Ou}{vo vp:Value}{qo:List Of}{qp:List PE}{w w':World}
def ShO (K:Cd)(c:Nat)(S:Sm)(D:NT.Ds)(vo vp:Value)(qo:List Of)(qp:List PE)(w w':World):Prop:=QT K vo vp qo qp w'/\RN.RW K.base K.rt K.rg K.I K.B K.L c S D (RN.kap D) w'/\Keeps K.base ZT w w'
theorem shut_raw (i j k:Nat)(w:World)(h1:QT K vo vp qo qp w)(htr:RN.RW K.base K.rt K.rg K.I K.B K.L c S D (RN.kap D) w)(hf:IN.Fine K.I K.L K.B q S)(hlim:K.I<=4096/\K.L<=32768/\q<1000000)(hi:i<qp.length)(hj:qp[i].L[j]? = some (some k))(hko:k<qo.length)(hr:1<=qo[k].refs/\qo[k].refs<=4000000){qo2:List Of}{qp2:List PE}(hqo:qo.set k { qo[k] with refs:=qo[k].refs-1 }=qo2)(hqp:qp.set i { qp[i] with L:=qp[i].L.set j none }=qp2) :
 Calls prog 86 #[.pointer (some ⟨K.d,0,none⟩),.int .i64 (i:Int),.int .i64 (j:Int)] w fun e w'=>e=.returned (.tuple #[])/\ShO K c (if 1<qo[k].refs then S else IN.clS S qo[k].ino) D vo vp qo2 qp2 w w':=by
 obtain⟨og,cap,hvo,hgd,-,hkN,hNc,hcm,hF⟩:=h1.fo hko;obtain⟨pg,pcap,hvp,hiN,hPc,hpm,hlc,hlm,hG⟩:=h1.lo hi;have n1:¬ qp[i].g=K.d:=(h1.atL hi).2.2.1;have n2:¬ K.d=qp[i].g:=fun e=>n1 e.symm;have n3:¬ qp[i].g=og:=own_far (h1.rl _ (List.getElem_mem hi)) h1.ro (by decide) rfl (by rw[hvo];rfl);have n4:¬ og=qp[i].g:=fun e=>n3 e.symm;have n5:¬ og=pg:=own_far h1.ro h1.rp (by decide) (by rw[hvo];rfl) (by rw[hvp];rfl);have n6:¬ qp[i].g=pg:=own_far (h1.rl _ (List.getElem_mem hi)) h1.rp (by decide) rfl (by rw[hvp];rfl);have n7:¬ K.d=og:=fun e=>hgd e.symm;have n8:¬ og=K.d:=hgd;have hjn:=(List.getElem?_eq_some_iff.1 hj).1;have hjN:(j:Int)<(qp[i].L.length:Int):=by omega
 have f1:=hG _ h1;have f2:=hF _ h1;have t7:w.cell? ⟨qp[i].g,j,none⟩=some (.int .i64 (k:Int)):=(h1.atL hi).2.2.2.2.2.2 j (some k) hj;have s1:=h1.setL hi (j:=j) none;have s2:QT K (.slice (some ⟨og,0,none⟩) qo.length cap) vp (qo.set k { qo[k] with refs:=qo[k].refs-1 }) _ _/\_:=(hvo▸s1.1).setO hko 3 (.int .i64 (qo[k].refs-1)) (by decide) { qo[k] with refs:=qo[k].refs-1 } rfl;simp only[cd] at s1 s2;obtain⟨w2,hw2⟩:∃ w2,(w.setCell ⟨qp[i].g,j,none⟩ (.int .i64 (-1))).setCell ⟨og,k*4+3,none⟩ (.int .i64 (qo[k].refs-1))=w2:=⟨_,rfl⟩;have hw:IntKind.i64.wrap (qo[k].refs-1)=qo[k].refs-1:=by rw[IntKind.wrap_i64];omega
 rw[hw2] at s2;have tr2:=tr_own (tr_own htr s1.2) s2.2;have k2:=(ZT_own s1.2).trans (ZT_own s2.2);have hko2:k<qo2.length:=by rw[<-hqo,List.length_set];exact hko
 have hk2:qo2[k]={ qo[k] with refs:=qo[k].refs-1 }:=by subst hqo;rw[List.getElem_set_self]
 have hln:qo2.length=qo.length:=by rw[<-hqo,List.length_set]
 rw[hqo,hqp] at s2;obtain⟨og',cap',hvo',-,-,-,-,-,hF2⟩:=s2.1.fo hko2;simp only[hln,Value.slice.injEq,Option.some.injEq,Addr.mk.injEq,and_true,true_and] at hvo';obtain⟨rfl,rfl⟩:=hvo';rw[hk2] at hF2;have g2:=hF2 _ s2.1;subst hvo;subst hvp
 by_cases hone:1<qo[k].refs
 ·rw[if_pos hone];have hfin:=Wd (show ShO K c S D _ _ _ _ w w2 from ⟨s2.1,tr2,k2⟩);have x1:=f1.s10;have x2:=f1.p1;have x3:=f1.fz;have x4:=f2.s9;have x5:=f2.o3;have x6:=f2.fz;have y1:=g2.s9;have y2:=g2.o3;simp only at y2;have d1:(qo[k].refs-1 == 0)=false:=by simp;omega
  clear s1 s2 hF hG hF2 htr hf tr2 k2 h1 hj hr hone hlim hk2 hln hko2 hqo hqp hjn f1 f2 g2 y1 y2;subst hw2;generalize hrr:qo[k].refs=rf at *;clear hrr hko;generalize hlg:qp[i].g=lg at *;generalize hlcc:qp[i].cap=lc at *;generalize hLn:qp[i].L.length=n at *;clear hlg hlcc hLn hi;generalize qo.length=N at *;generalize qp.length=Np at *;go_enter func86,ntmps86
  go_wp2_with fail
  go_end0
  exact⟨rfl,hfin.out⟩
 ·rw[if_neg hone];have r1:qo[k].refs-1=0:=by omega
  have g0:=hF2 _ (s2.1.keep (drew1_below w2));have u1:=g0.s0;have u2:=g0.s9;have u3:=g0.o0;simp only at u3;have cC:=Wd (IN.rClose_any qo[k].ino w2.drew hf hlim.1 hlim.2.1 hlim.2.2 (tr2.rs.keep (drew1_below w2)))
  have next:Hid (∀ w3:World,IN.RS K.base w3 K.rg (K.I:Int) (K.B:Int) (K.L:Int) (IN.lst (IN.clS S qo[k].ino) K.I)->Keeps K.base IN.DT w2.drew w3->w3.cell? ⟨K.d,0,none⟩=some (.pointer (some ⟨K.rg,0,none⟩))/\w3.cell? ⟨K.d,9,none⟩=some (.slice (some ⟨og,0,none⟩) qo.length cap)/\w3.cell? ⟨og,k*4,none⟩=some (.int .i64 qo[k].ino)/\Hid (ShO K c (IN.clS S qo[k].ino) D (.slice (some ⟨og,0,none⟩) qo.length cap) (.slice (some ⟨pg,0,none⟩) qp.length pcap) qo2 qp2 w w3)):=Wd (by
   intro w3 hrs k3;have q3:=s2.1.store k3.undrew;have f3:=hF2 _ q3
   exact⟨f3.s0,f3.s9,f3.o0,Wd ⟨q3,tr_store tr2 k3.undrew hrs,k2.trans (ZT_store k3.undrew)⟩⟩)
  have x1:=f1.s10;have x2:=f1.p1;have x3:=f1.fz;have x4:=f2.s9;have x5:=f2.o3;have x6:=f2.fz;have x7:=f2.s0;have x8:=f2.o0;have d1:(qo[k].refs-1 == 0)=true:=by simp;omega
  clear s1 s2 hF hG hF2 htr hf tr2 k2 h1 hj hr hone hlim hk2 hln hko2 hqo hqp hjn f1 f2 g2 g0 r1;subst hw2;generalize hrr:qo[k].refs=rf at *;generalize hin:qo[k].ino=ino at *;generalize IN.clR S ino=cr at *;generalize IN.clS S ino=S2 at *;clear hrr hin hko;generalize hlg:qp[i].g=lg at *;generalize hlcc:qp[i].cap=lc at *;generalize hLn:qp[i].L.length=n at *;clear hlg hlcc hLn hi;generalize qo.length=N at *;generalize qp.length=Np at *;go_enter func86,ntmps86
  go_wp2_with fail
  go_region_held3 (fun w'=>w'.cell? ⟨K.d,0,none⟩=some (.pointer (some ⟨K.rg,0,none⟩))/\w'.cell? ⟨K.d,9,none⟩=some (.slice (some ⟨og,0,none⟩) N cap)/\w'.cell? ⟨og,k*4,none⟩=some (.int .i64 ino)) (with_reducible (first|assumption|exact⟨u1,u2,u3⟩))
   (first
    | (go_at_call 124;refine cC.out.mono ?_;rintro e w3 ⟨rfl,hp3,k3⟩;obtain⟨v1,v2,v3,hfin⟩:=next.out w3 hp3 k3;have S3:=And.intro v1 (And.intro v2 v3);clear v1 v2 v3 hp3 k3))
  all_goals
   go_wp2_with fail
   go_end0
   exact⟨rfl,hfin.out⟩
theorem refs_le {k:Nat}{o:Of}(hk:Kn K q S D P O)(h:O k=some o):1<=o.refs/\o.refs<=4000000:=by
 have hrf:=hk.di.refs k o h;have h7:=DC.cntP_le (f:=K.files) k hk.di.len;have h8:=hk.few;have h9:=hk.lim;have hcap:=hk.cap;simp only[DC.cntL,List.countP_nil,Nat.add_zero] at hrf;have:P.length*K.files<=60000*64:=Nat.mul_le_mul (by omega) (by omega)
 omega
theorem shut_any (pid:Int)(j k:Nat)(w:World){L:Ls}{o:Of}(h1:QT K vo vp qo qp w)(hol:qo.length<=K.opens)(htr:RN.RW K.base K.rt K.rg K.I K.B K.L c S D (RN.kap D) w)(ha:DC.Asc (Pq qp))(hf:IN.Fine K.I K.L K.B q S)(hlim:K.I<=4096/\K.L<=32768/\q<1000000)(h2:lk (Pq qp) pid=some L)(hj:L[j]? = some (some k))(h5:Oq qo k=some o)(hr:1<=o.refs/\o.refs<=4000000) :
 Calls prog 86 #[.pointer (some ⟨K.d,0,none⟩),.int .i64 ((px qp pid:Nat):Int),.int .i64 (j:Int)] w fun e w'=>e=.returned (.tuple #[])/\∃ qo2 qp2,ShO K c (relS S (Oq qo) k) D vo vp qo2 qp2 w w'/\Oq qo2=relO (Oq qo) k/\Pq qp2=setP (Pq qp) pid (L.set j none)/\qo2.length=qo.length/\qp2.length=qp.length/\px qp2 pid=px qp pid:=by
 obtain⟨hko,rfl,hne⟩:=Oq_some h5;obtain⟨hi,rfl⟩:=px_some h2;refine (shut_raw (px qp pid) j k w h1 htr hf hlim hi hj hko hr rfl rfl).mono ?_;rintro e w' ⟨rfl,hs⟩;have hpid:=px_at qp pid hi;have hP:=Pq_set ha hi (qp[px qp pid].L.set j none);rw[hpid] at hP;refine⟨rfl,qo.set k { qo[k] with refs:=qo[k].refs-1 },qp.set (px qp pid) { qp[px qp pid] with L:=qp[px qp pid].L.set j none },?_,?_,hP,by rw[List.length_set],by rw[List.length_set],?_⟩
 ·unfold relS;rw[h5];exact hs
 ·rw[Oq_set hko];unfold relO;rw[h5];simp only
  split
  ·rename_i h3
   rw[if_neg (by omega)]
  ·rename_i h3
   rw[if_pos (by omega)]
 ·have h3:=px_some (l:=qp.set (px qp pid) { qp[px qp pid] with L:=qp[px qp pid].L.set j none }) (n:=pid) (L:=qp[px qp pid].L.set j none) (by rw[hP,DC.lk_set,if_pos ⟨rfl,by rw[h2];simp⟩]);obtain⟨h4,-⟩:=h3;have h6:=px_at _ pid h4;rw[List.length_set] at h4
  by_cases e:px qp pid=px (qp.set (px qp pid) { qp[px qp pid] with L:=qp[px qp pid].L.set j none }) pid
  ·exact e.symm
  ·rw[List.getElem_set_ne e] at h6;rcases Nat.lt_or_gt_of_ne e with h7|h7
   ·exact absurd (px_at qp pid hi) (by
     have:=px_ne (qp.set (px qp pid) { qp[px qp pid] with L:=qp[px qp pid].L.set j none }) pid (px qp pid) (by rw[List.length_set];exact hi) h7;rw[List.getElem_set_self] at this
     exact this)
   ·exact absurd h6 (px_ne qp pid _ (by omega) h7)
theorem close_d (pid fd:Int)(w:World)(h:RT K c S D P O w)(hk:Kn K q S D P O) :
 Calls prog 43 #[.pointer (some ⟨K.d,0,none⟩),.int .i64 pid,.int .i64 fd] w fun e w'=>e=.returned (.int .i64 (clsR S P O pid fd).1)/\RO K c (clsR S P O pid fd).2.1 D (clsR S P O pid fd).2.2.1 (clsR S P O pid fd).2.2.2 w w':=by
 have h0:=Wd h;obtain⟨⟨vo,vp,qo,qp,h1,rfl,rfl,hol⟩,htr⟩:=h;have cO:=open_raw pid fd 0 h1 hk hol;have hlen:qp.length<=100000:=by have:=hk.few;rw[Pq_len] at this;have:=hk.lim;omega
 unfold clsR
 cases e:fileR (Pq qp) (Oq qo) pid fd 0 with
 | error c0=>
   rw[e] at cO;have hne:(c0 == 0)=false:=by simpa using fileR_ne e
   have cO:=Wd cO;clear h1 hk hol htr e;go_enter func43,ntmps43
   go_wp2_with fail
   refine cO.out.mono ?_;rintro e w1 ⟨rfl,b1⟩;have b1:=Wd b1;simp only[fileA];go_wp2_with fail
   go_ret
   exact⟨rfl,h0.out.same b1.out⟩
 | ok k=>
   rw[e] at cO;obtain⟨L,o,j,h2,rfl,h3,h4,h5,h6⟩:=fileR_ok e;simp only[h2,Option.getD_some,Int.toNat_natCast];have cA:=Wd (fun (w1:World) (b1:Below w.heap.size w w1)=>at_any pid (h1.keep b1) hlen);have hat:atA (Pq qp) qp pid=(px qp pid:Int):=by unfold atA;rw[if_neg (by rw[h2];simp)]
   rw[hat] at cA;have hl:=hk.lim;have cS:=Wd (fun (w1:World) (b1:Below w.heap.size w w1)=>shut_any pid j k w1 (h1.keep b1) hol (htr.keep b1) hk.di.asc hk.fine (by omega) h2 h4 h5 (refs_le hk h5))
   have hfin:Hid (∀ w1 w2:World,Below w.heap.size w w1->(∃ qo2 qp2,ShO K c (relS S (Oq qo) k) D vo vp qo2 qp2 w1 w2/\Oq qo2=relO (Oq qo) k/\Pq qp2=setP (Pq qp) pid (L.set j none)/\qo2.length=qo.length/\qp2.length=qp.length/\px qp2 pid=px qp pid)->RO K c (relS S (Oq qo) k) D (setP (Pq qp) pid (L.set j none)) (relO (Oq qo) k) w w2):=Wd (by
    rintro w1 w2 b1 ⟨qo2,qp2,⟨g1,g2,g3⟩,e1,e2,e3,-⟩;rw[<-e1,<-e2]
    exact⟨(RT.of g1 (by omega) g2).more (by omega),(Keeps.new b1 h1.low).trans g3⟩)
   have cO:=Wd cO;clear h1 hk hol htr e h2 h3 h4 h5 h6 hl hat hlen h0;generalize px qp pid=i at *;go_enter func43,ntmps43
   go_wp2_with fail
   refine cO.out.mono ?_;rintro e w1 ⟨rfl,b1⟩;have cA1:=Wd (cA.out w1 b1);have cS1:=Wd (cS.out w1 b1);have hfin1:=Wd (fun w2=>hfin.out w1 w2 b1);clear cA cS hfin b1;simp only[fileA];go_wp2_with fail
   refine cA1.out.mono ?_;rintro e w2 ⟨rfl,rfl⟩;go_wp2_with fail
   refine cS1.out.mono ?_;rintro e w2 ⟨rfl,hs⟩;have hr:=Wd (hfin1.out w2 hs);clear hs;go_wp2_with fail
   go_ret
   exact⟨rfl,hr.out⟩
end
end RD
namespace RD
open DC (Of Ls Ps Ou Sm lk fileR fileR_ok fileR_ne stR)
open IN (Keeps lt_of_some)
open IS (I64)
section
variable {K:Cd}{c q:Nat}{S:Sm}{D:NT.Ds}{P:Ps}{O:Ou}{vo vp:Value}{qo:List Of}{qp:List PE}{w w':World}
theorem stat_d (pid fd:Int)(w:World)(h:RT K c S D P O w)(hk:Kn K q S D P O) :
 Calls prog 96 #[.pointer (some ⟨K.d,0,none⟩),.int .i64 pid,.int .i64 fd] w fun e w'=>e=.returned (.tuple #[.agg (stR S P O pid fd).1.toArray,.int .i64 (stR S P O pid fd).2])/\Below w.heap.size w w':=by
 obtain⟨W0,hW0⟩:∃ W0,w.alloc (.cells #[.int .i64 0,.int .i64 0,.int .i64 0,.int .i64 0,.int .i64 0,.int .i64 0] 65)=W0:=⟨_,rfl⟩;have hb0:Below w.heap.size w W0:=by rw[<-hW0];exact (Below.refl _ _).alloc (Nat.le_refl _) _
 have hr0:Blk W0 w.heap.size 65 IN.zl:=by rw[<-hW0];exact Blk.new w _ IN.zl rfl
 obtain⟨⟨vo,vp,qo,qp,h1,rfl,rfl,hol⟩,htr⟩:=h;have hs0:=hb0.size;have cO:=open_raw pid fd 0 (h1.keep hb0) hk hol;unfold stR
 cases e:fileR (Pq qp) (Oq qo) pid fd 0 with
 | error c0=>
   rw[e] at cO;simp only;have hne:(c0 != 0)=true:=by simpa using fileR_ne e
   have cO:=Wd cO;have hR:=Wd hr0;have hB:=Wd hb0;clear h1 hk hol htr e hr0 hb0;go_enter func96,ntmps96
   go_wp2_with fail
   refine cO.out.mono ?_;rintro e w1 ⟨rfl,b1⟩;have hr1:=hR.out.keep b1;have f1:=hr1.fz;have r0:=hr1.cell (j:=0) rfl;have r1:=hr1.cell (j:=1) rfl;have r2:=hr1.cell (j:=2) rfl;have r3:=hr1.cell (j:=3) rfl;have r4:=hr1.cell (j:=4) rfl;have r5:=hr1.cell (j:=5) rfl;have hfin:=Wd (IN.six_blk hr1 0 0 0 0 0 0);have hbl:=Wd (IN.six_below (hB.out.trans (b1.mono hB.out.size)) (Nat.le_refl _) 0 0 0 0 0 0);clear hr1 b1 hW0;simp only[fileA];go_wp2_with fail
   exact bodyPost_ret (IN.res_two rfl _ _ rfl hfin.out) rfl ⟨rfl,hbl.out⟩
 | ok k=>
   rw[e] at cO;obtain⟨L,o,j,h2,hfd,h3,h4,h5,h6⟩:=fileR_ok e;obtain⟨hko,he,hr⟩:=Oq_some h5;obtain⟨x,hx,hkind⟩:=hk.di.ino k o h5;simp only[h5];obtain⟨og,cap,rfl,hgd,-,hkN,hNc,hcm,hF⟩:=h1.fo hko;rw[he] at hF;have hstv:IN.stV S o.ino=IN.six o.ino x.kind x.links x.opens x.size (EM.cnt x.l:Int):=by unfold IN.stV;rw[hx];rfl
   rw[hstv];have hopr:IN.opR S o.ino=0:=by simp[IN.opR,IN.askR,hx]
   have cO:=Wd cO;have hS:Hid (∀ W,Below w.heap.size w W->(W.cell? ⟨K.d,0,none⟩=some (.pointer (some ⟨K.rg,0,none⟩))/\W.cell? ⟨K.d,9,none⟩=some (.slice (some ⟨og,0,none⟩) qo.length cap)/\W.cell? ⟨og,k*4,none⟩=some (.int .i64 o.ino)/\Below w.heap.size w W)):=Wd fun W hb'=>⟨(hF _ (h1.keep hb')).s0,(hF _ (h1.keep hb')).s9,(hF _ (h1.keep hb')).o0,hb'⟩;have hT:Hid (∀ W (a b c d e f:Int),(W.cell? ⟨K.d,0,none⟩=some (.pointer (some ⟨K.rg,0,none⟩))/\W.cell? ⟨K.d,9,none⟩=some (.slice (some ⟨og,0,none⟩) qo.length cap)/\W.cell? ⟨og,k*4,none⟩=some (.int .i64 o.ino)/\Below w.heap.size w W)->(((((((W.setCell ⟨w.heap.size,0,none⟩ (.int .i64 a)).setCell ⟨w.heap.size,1,none⟩ (.int .i64 b)).setCell ⟨w.heap.size,2,none⟩ (.int .i64 c)).setCell ⟨w.heap.size,3,none⟩ (.int .i64 d)).setCell ⟨w.heap.size,4,none⟩ (.int .i64 e)).setCell ⟨w.heap.size,5,none⟩ (.int .i64 f)).cell? ⟨K.d,0,none⟩=some (.pointer (some ⟨K.rg,0,none⟩))/\((((((W.setCell ⟨w.heap.size,0,none⟩ (.int .i64 a)).setCell ⟨w.heap.size,1,none⟩ (.int .i64 b)).setCell ⟨w.heap.size,2,none⟩ (.int .i64 c)).setCell ⟨w.heap.size,3,none⟩ (.int .i64 d)).setCell ⟨w.heap.size,4,none⟩ (.int .i64 e)).setCell ⟨w.heap.size,5,none⟩ (.int .i64 f)).cell? ⟨K.d,9,none⟩=some (.slice (some ⟨og,0,none⟩) qo.length cap)/\((((((W.setCell ⟨w.heap.size,0,none⟩ (.int .i64 a)).setCell ⟨w.heap.size,1,none⟩ (.int .i64 b)).setCell ⟨w.heap.size,2,none⟩ (.int .i64 c)).setCell ⟨w.heap.size,3,none⟩ (.int .i64 d)).setCell ⟨w.heap.size,4,none⟩ (.int .i64 e)).setCell ⟨w.heap.size,5,none⟩ (.int .i64 f)).cell? ⟨og,k*4,none⟩=some (.int .i64 o.ino)/\Below w.heap.size w ((((((W.setCell ⟨w.heap.size,0,none⟩ (.int .i64 a)).setCell ⟨w.heap.size,1,none⟩ (.int .i64 b)).setCell ⟨w.heap.size,2,none⟩ (.int .i64 c)).setCell ⟨w.heap.size,3,none⟩ (.int .i64 d)).setCell ⟨w.heap.size,4,none⟩ (.int .i64 e)).setCell ⟨w.heap.size,5,none⟩ (.int .i64 f)))):=Wd fun W a b c d e f hh=>hS.out _ (IN.six_below hh.2.2.2 (Nat.le_refl _) a b c d e f)
   have cS:Hid (∀ w1,Below W0.heap.size W0 w1->Calls prog 88 #[.pointer (some ⟨K.rg,0,none⟩),.int .i64 o.ino] w1.drew fun e w'=>e=.returned (.tuple #[.agg #[.int .i64 o.ino,.int .i64 x.kind,.int .i64 x.links,.int .i64 x.opens,.int .i64 x.size,.int .i64 (EM.cnt x.l:Int)],.int .i64 0])/\(w'.cell? ⟨K.d,0,none⟩=some (.pointer (some ⟨K.rg,0,none⟩))/\w'.cell? ⟨K.d,9,none⟩=some (.slice (some ⟨og,0,none⟩) qo.length cap)/\w'.cell? ⟨og,k*4,none⟩=some (.int .i64 o.ino)/\Below w.heap.size w w')/\Blk w' w.heap.size 65 IN.zl):=Wd (by
    intro w1 b1;have bb:=hb0.trans (b1.mono hb0.size);have:=IN.rStat_any o.ino w1.drew hk.fine hk.lim.1 (htr.rs.keep (bb.drew));rw[hstv,hopr] at this;refine this.mono ?_;rintro e w' ⟨rfl,hb⟩;have hb':=bb.trans ((bundrew hb).mono bb.size)
    exact⟨rfl,hS.out _ hb',(hr0.keep b1).keep (bundrew hb)⟩)
   have sA:Hid (∀ w1,Below W0.heap.size W0 w1->(w1.drew.cell? ⟨K.d,0,none⟩=some (.pointer (some ⟨K.rg,0,none⟩))/\w1.drew.cell? ⟨K.d,9,none⟩=some (.slice (some ⟨og,0,none⟩) qo.length cap)/\w1.drew.cell? ⟨og,k*4,none⟩=some (.int .i64 o.ino)/\Below w.heap.size w w1.drew)):=Wd fun w1 b1=>hS.out _ (hb0.trans (b1.mono hb0.size)).drew;have n1:¬ K.d=w.heap.size:=by have:=h1.box.lt;omega
   have n2:¬ og=w.heap.size:=by
    obtain⟨g',cap',e',-,hlt,-⟩:=h1.atO hko;simp only[Value.slice.injEq,Option.some.injEq,Addr.mk.injEq,and_true,true_and] at e'
    omega
   have n3:¬ w.heap.size=K.d:=fun e=>n1 e.symm;have n4:¬ w.heap.size=og:=fun e=>n2 e.symm;clear h1 hk hol htr e hfd h2 h3 h4 h5 h6 hx hkind hF he hko hr hr0 hb0 hstv hopr hS;generalize qo.length=N at *;go_enter func96,ntmps96
   go_wp2_with fail
   refine cO.out.mono ?_;rintro e w1 ⟨rfl,b1⟩;have cS1:=Wd (cS.out w1 b1);have sA1:=Wd (sA.out w1 b1);clear hW0 cS sA b1;simp only[fileA];go_wp2_with fail
   go_region_held3 (fun w'=>w'.cell? ⟨K.d,0,none⟩=some (.pointer (some ⟨K.rg,0,none⟩))/\w'.cell? ⟨K.d,9,none⟩=some (.slice (some ⟨og,0,none⟩) N cap)/\w'.cell? ⟨og,k*4,none⟩=some (.int .i64 o.ino)/\Below w.heap.size w w') (with_reducible (first|exact sA1.out|assumption|exact hT.out _ _ _ _ _ _ _ (by assumption)))
    (first
     | (go_at_call 88;refine cS1.out.mono ?_;rintro e w3 ⟨rfl,S3,hz⟩
        have r0:=hz.cell (j:=0) rfl;have r1:=hz.cell (j:=1) rfl;have r2:=hz.cell (j:=2) rfl;have r3:=hz.cell (j:=3) rfl;have r4:=hz.cell (j:=4) rfl;have r5:=hz.cell (j:=5) rfl;have fz:=hz.fz;have hfin:=Wd (IN.six_blk hz o.ino x.kind x.links x.opens x.size (EM.cnt x.l:Int));have hbl:=Wd (IN.six_below S3.2.2.2 (Nat.le_refl _) o.ino x.kind x.links x.opens x.size (EM.cnt x.l:Int))
        clear hz))
   all_goals
    go_wp2_with fail
    exact bodyPost_ret (IN.res_two rfl _ _ rfl hfin.out) rfl ⟨rfl,hbl.out⟩
end
end RD
namespace RD
open DC (Of Ls Ps Ou Sm lk fileR fileR_ok fileR_ne updO skR skAt)
open IN (Keeps lt_of_some)
open IS (I64)
section
variable {K:Cd}{c q:Nat}{S:Sm}{D:NT.Ds}{P:Ps}{O:Ou}{vo vp:Value}{qo:List Of}{qp:List PE}{w w':World}
theorem seek_fin {vp:Value}{og N cap k:Nat}{o:Of}(h1:QT K (.slice (some ⟨og,0,none⟩) N cap) vp qo qp w)(hol:qo.length<=K.opens)(htr:RN.RW K.base K.rt K.rg K.I K.B K.L c S D (RN.kap D) w)(hko:k<qo.length)(he:qo[k]=o)(hr:o.refs≠0){w1:World}(b1:Below w.heap.size w w1)(v:Int) :
 RO K c S D (Pq qp) (updO (Oq qo) k (some { o with off:=v })) w (w1.setCell ⟨og,k*4+1,none⟩ (.int .i64 v)):=by
 have s2:=(h1.keep b1).setO hko 1 (.int .i64 v) (by decide) { o with off:=v } (by rw[he];rfl);have hO:=Oq_set hko { o with off:=v };rw[if_neg hr] at hO;rw[<-hO];exact⟨(RT.of s2.1 (by rw[List.length_set];exact hol) (tr_own (htr.keep b1) s2.2)).more (by omega),(Keeps.new b1 h1.low).trans (ZT_own s2.2)⟩
theorem seek_no (pid fd by_ wh:Int)(w:World)(h:RT K c S D P O w)(hk:Kn K q S D P O){c0:Int}(e:fileR P O pid fd 0=.error c0) :
 Calls prog 90 #[.pointer (some ⟨K.d,0,none⟩),.int .i64 pid,.int .i64 fd,.int .i64 by_,.int .i64 wh] w fun e w'=>e=.returned (.tuple #[.int .i64 0,.int .i64 c0])/\RO K c S D P O w w':=by
 have h0:=Wd h;obtain⟨⟨vo,vp,qo,qp,h1,rfl,rfl,hol⟩,htr⟩:=h;have cO:=open_raw pid fd 0 h1 hk hol;rw[e] at cO;have hne:(c0 != 0)=true:=by simpa using fileR_ne e
 have cO:=Wd cO;clear h1 hk hol htr e;go_enter func90,ntmps90
 go_wp2_with fail
 refine cO.out.mono ?_;rintro e w1 ⟨rfl,b1⟩;have b1:=Wd b1;simp only[fileA];go_wp2_with fail
 go_ret2
 exact⟨rfl,h0.out.same b1.out⟩
theorem seek_what (k:Nat)(o:Of)(x:IN.Nd)(pid fd by_ wh:Int)(w:World)(h:RT K c S D P O w)(hk:Kn K q S D P O)(hby:I64 by_)(e:fileR P O pid fd 0=.ok k)(ho:O k=some o)(hx:S o.ino=some x)(h0':wh≠0)(h1':wh≠1)(h2':wh≠2) :
 Calls prog 90 #[.pointer (some ⟨K.d,0,none⟩),.int .i64 pid,.int .i64 fd,.int .i64 by_,.int .i64 wh] w fun e w'=>e=.returned (.tuple #[.int .i64 0,.int .i64 2])/\RO K c S D P O w w':=by
 have h0:=Wd h;obtain⟨⟨vo,vp,qo,qp,h1,rfl,rfl,hol⟩,htr⟩:=h;have cO:=open_raw pid fd 0 h1 hk hol;rw[e] at cO;obtain⟨hko,he,hr⟩:=Oq_some ho;have hoff:=hk.di.off k o ho;obtain⟨og,cap,rfl,hgd,-,hkN,hNc,hcm,hF⟩:=h1.fo hko;rw[he] at hF;have cO:=Wd cO;have hb1:=hby.1;have hb2:=hby.2;have y0:(wh == 0)=false:=by simpa using h0'
 have y1:(wh == 1)=false:=by simpa using h1'
 have y2:(wh == 2)=false:=by simpa using h2'
 clear h1 hk hol htr e hF hx ho he hko hr h0' h1' h2' hby;generalize qo.length=N at *;go_enter func90,ntmps90
 go_wp2_with fail
 refine cO.out.mono ?_;rintro e w1 ⟨rfl,b1⟩;have b1:=Wd b1;simp only[fileA];go_wp2_with fail
 go_ret2
 exact⟨rfl,h0.out.same b1.out⟩
theorem seek_set (k:Nat)(o:Of)(x:IN.Nd)(pid fd by_:Int)(w:World)(h:RT K c S D P O w)(hk:Kn K q S D P O)(hby:I64 by_)(e:fileR P O pid fd 0=.ok k)(ho:O k=some o)(hx:S o.ino=some x) :
 Calls prog 90 #[.pointer (some ⟨K.d,0,none⟩),.int .i64 pid,.int .i64 fd,.int .i64 by_,.int .i64 0] w fun e w'=>e=.returned (.tuple #[.int .i64 (if by_ < -(0:Int)∨by_>1048576-(0:Int) then (0:Int) else (0:Int)+by_),.int .i64 (if by_ < -(0:Int)∨by_>1048576-(0:Int) then 2 else 0)])/\RO K c S D P (if by_ < -(0:Int)∨by_>1048576-(0:Int) then O else updO O k (some { o with off:=(0:Int)+by_ })) w w':=by
 have h0:=Wd h;obtain⟨⟨vo,vp,qo,qp,h1,rfl,rfl,hol⟩,htr⟩:=h;have cO:=open_raw pid fd 0 h1 hk hol;rw[e] at cO;obtain⟨hko,he,hr⟩:=Oq_some ho;have hoff:=hk.di.off k o ho;obtain⟨og,cap,rfl,hgd,-,hkN,hNc,hcm,hF⟩:=h1.fo hko;rw[he] at hF;have cO:=Wd cO;have hb1:=hby.1;have hb2:=hby.2;have fin:=Wd (fun (w1:World) (b1:Below w.heap.size w w1)=>seek_fin h1 hol htr hko he hr b1 ((0:Int)+by_));have hG:=Wd (fun (w1:World) (b1:Below w.heap.size w w1)=>hF w1 (h1.keep b1));clear h1 hk hol htr e hF hx ho he hko hr;generalize qo.length=N at *
 by_cases q1:by_ < -(0:Int)
 ·simp only[if_pos (Or.inl q1:by_ < -(0:Int)∨by_>1048576-(0:Int))];have d1:decide (by_ < -(0:Int))=true:=decide_eq_true (by omega);have d1b:decide (by_<0)=true:=decide_eq_true (by omega);clear q1;clear hoff hb1 hb2 hby fin;go_enter func90,ntmps90
  go_wp2_with fail
  refine cO.out.mono ?_;rintro e w1 ⟨rfl,b1⟩;have g:=hG.out w1 b1;have t9:=g.s9;have t1:=g.o1;have fz:=g.fz;clear g hG;have b1:=Wd b1;simp only[fileA];go_wp2_with fail
  go_ret2
  exact⟨rfl,h0.out.same b1.out⟩
 ·by_cases q2:by_>1048576-(0:Int)
  ·simp only[if_pos (Or.inr q2:by_ < -(0:Int)∨by_>1048576-(0:Int))];have d1:decide (by_ < -(0:Int))=false:=decide_eq_false (by omega);have d1b:decide (by_<0)=false:=decide_eq_false (by omega);have d2:decide (by_>1048576-(0:Int))=true:=decide_eq_true (by omega);have d2b:decide (by_>1048576)=true:=decide_eq_true (by omega);have d2c:decide (1048576<by_)=true:=decide_eq_true (by omega);clear q1 q2;clear hoff hb1 hb2 hby fin;go_enter func90,ntmps90
   go_wp2_with fail
   refine cO.out.mono ?_;rintro e w1 ⟨rfl,b1⟩;have g:=hG.out w1 b1;have t9:=g.s9;have t1:=g.o1;have fz:=g.fz;clear g hG;have b1:=Wd b1;simp only[fileA];go_wp2_with fail
   go_ret2
   exact⟨rfl,h0.out.same b1.out⟩
  ·simp only[if_neg (fun h=>h.elim q1 q2:¬ (by_ < -(0:Int)∨by_>1048576-(0:Int)))];have d1:decide (by_ < -(0:Int))=false:=decide_eq_false (by omega);have d1b:decide (by_<0)=false:=decide_eq_false (by omega);have d2:decide (by_>1048576-(0:Int))=false:=decide_eq_false (by omega);have d2b:decide (by_>1048576)=false:=decide_eq_false (by omega);have d2c:decide (1048576<by_)=false:=decide_eq_false (by omega);have hw3:IntKind.i64.wrap ((0:Int)+by_)=(0:Int)+by_:=by rw[IntKind.wrap_i64];omega
   have hw4:IntKind.i64.wrap by_=by_:=by rw[IntKind.wrap_i64];omega
   simp only[Int.zero_add] at fin hw3 ⊢;clear q1 q2 hoff hb1 hb2 hby h0;go_enter func90,ntmps90
   go_wp2_with fail
   refine cO.out.mono ?_;rintro e w1 ⟨rfl,b1⟩;have g:=hG.out w1 b1;have t9:=g.s9;have t1:=g.o1;have fz:=g.fz;clear g hG;have hf:=Wd (fin.out w1 b1);clear b1 fin;simp only[fileA];go_wp2_with fail
   go_ret2
   exact⟨rfl,hf.out⟩
theorem seek_cur (k:Nat)(o:Of)(x:IN.Nd)(pid fd by_:Int)(w:World)(h:RT K c S D P O w)(hk:Kn K q S D P O)(hby:I64 by_)(e:fileR P O pid fd 0=.ok k)(ho:O k=some o)(hx:S o.ino=some x) :
 Calls prog 90 #[.pointer (some ⟨K.d,0,none⟩),.int .i64 pid,.int .i64 fd,.int .i64 by_,.int .i64 1] w fun e w'=>e=.returned (.tuple #[.int .i64 (if by_ < -o.off∨by_>1048576-o.off then (0:Int) else o.off+by_),.int .i64 (if by_ < -o.off∨by_>1048576-o.off then 2 else 0)])/\RO K c S D P (if by_ < -o.off∨by_>1048576-o.off then O else updO O k (some { o with off:=o.off+by_ })) w w':=by
 have h0:=Wd h;obtain⟨⟨vo,vp,qo,qp,h1,rfl,rfl,hol⟩,htr⟩:=h;have cO:=open_raw pid fd 0 h1 hk hol;rw[e] at cO;obtain⟨hko,he,hr⟩:=Oq_some ho;have hoff:=hk.di.off k o ho;obtain⟨og,cap,rfl,hgd,-,hkN,hNc,hcm,hF⟩:=h1.fo hko;rw[he] at hF;have cO:=Wd cO;have hb1:=hby.1;have hb2:=hby.2;have fin:=Wd (fun (w1:World) (b1:Below w.heap.size w w1)=>seek_fin h1 hol htr hko he hr b1 (o.off+by_));have hG:=Wd (fun (w1:World) (b1:Below w.heap.size w w1)=>hF w1 (h1.keep b1));have hw1:IntKind.i64.wrap (-o.off) = -o.off:=by rw[IntKind.wrap_i64];omega
 have hw2:IntKind.i64.wrap (1048576-o.off)=1048576-o.off:=by rw[IntKind.wrap_i64];omega
 clear h1 hk hol htr e hF hx ho he hko hr;generalize qo.length=N at *
 by_cases q1:by_ < -o.off
 ·simp only[if_pos (Or.inl q1:by_ < -o.off∨by_>1048576-o.off)];have d1:decide (by_ < -o.off)=true:=decide_eq_true (by omega);clear q1;clear hoff hb1 hb2 hby fin;go_enter func90,ntmps90
  go_wp2_with fail
  refine cO.out.mono ?_;rintro e w1 ⟨rfl,b1⟩;have g:=hG.out w1 b1;have t9:=g.s9;have t1:=g.o1;have fz:=g.fz;clear g hG;have b1:=Wd b1;simp only[fileA];go_wp2_with fail
  go_ret2
  exact⟨rfl,h0.out.same b1.out⟩
 ·by_cases q2:by_>1048576-o.off
  ·simp only[if_pos (Or.inr q2:by_ < -o.off∨by_>1048576-o.off)];have d1:decide (by_ < -o.off)=false:=decide_eq_false (by omega);have d2:decide (by_>1048576-o.off)=true:=decide_eq_true (by omega);have d3:decide (1048576-o.off<by_)=true:=decide_eq_true (by omega);clear q1 q2;clear hoff hb1 hb2 hby fin;go_enter func90,ntmps90
   go_wp2_with fail
   refine cO.out.mono ?_;rintro e w1 ⟨rfl,b1⟩;have g:=hG.out w1 b1;have t9:=g.s9;have t1:=g.o1;have fz:=g.fz;clear g hG;have b1:=Wd b1;simp only[fileA];go_wp2_with fail
   go_ret2
   exact⟨rfl,h0.out.same b1.out⟩
  ·simp only[if_neg (fun h=>h.elim q1 q2:¬ (by_ < -o.off∨by_>1048576-o.off))];have d1:decide (by_ < -o.off)=false:=decide_eq_false (by omega);have d2:decide (by_>1048576-o.off)=false:=decide_eq_false (by omega);have d3:decide (1048576-o.off<by_)=false:=decide_eq_false (by omega);have hw3:IntKind.i64.wrap (o.off+by_)=o.off+by_:=by rw[IntKind.wrap_i64];omega
   clear q1 q2 hoff hb1 hb2 hby h0;go_enter func90,ntmps90
   go_wp2_with fail
   refine cO.out.mono ?_;rintro e w1 ⟨rfl,b1⟩;have g:=hG.out w1 b1;have t9:=g.s9;have t1:=g.o1;have fz:=g.fz;clear g hG;have hf:=Wd (fin.out w1 b1);clear b1 fin;simp only[fileA];go_wp2_with fail
   go_ret2
   exact⟨rfl,hf.out⟩
end
end RD
end Go.Proofs.YtfffibepcdlldaaGreat

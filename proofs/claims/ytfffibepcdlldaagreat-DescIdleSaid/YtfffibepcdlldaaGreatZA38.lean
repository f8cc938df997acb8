/- A part. -/
import Derived.Test.YtfffibepcdlldaaGreatZA37
import Derived.Test.YtfffibepcdlldaaGreatZA33
import Derived.Test.YtfffibepcdlldaaGreatZA19
import Derived.BigQuiet
set_option linter.unusedVariables false
set_option linter.unusedSimpArgs false
set_option maxRecDepth 100000
set_option maxHeartbeats 64000000
open Go.Proofs.Tryz

namespace Go.Proofs.YtfffibepcdlldaaGreat
open Go.ChangeShapes Go.WideShapes Go.ChangeAt Go.RowKit
namespace RD
open DC (Of Ls Ps Ou Sm lk fileR fileR_ok fileR_ne updO)
open IN (Keeps lt_of_some)
open IS (I64)
section
variable {K:Cd}{c q:Nat}{S:Sm}{D:NT.Ds}{P:Ps}{O:Ou}{vo vp:Value}{qo:List Of}{qp:List PE}{w w':World}
theorem read_no (pid fd:Int)(n:Int)(w:World)(h:RT K c S D P O w)(hk:Kn K q S D P O){c0:Int}(e:fileR P O pid fd 1=.error c0) :
 Calls prog 45 #[.pointer (some ⟨K.d,0,none⟩),.int .i64 pid,.int .i64 fd,.int .i64 n] w fun e w'=>e=.returned (.tuple #[.string ByteArray.empty,.int .i64 c0])/\RO K c S D P O w w':=by
 have h0:=Wd h;obtain⟨⟨vo,vp,qo,qp,h1,rfl,rfl,hol⟩,htr⟩:=h;have cO:=open_raw pid fd 1 h1 hk hol;rw[e] at cO;have hne:(c0 != 0)=true:=by simpa using fileR_ne e
 have cO:=Wd cO;clear h1 hk hol htr e;go_enter func45,ntmps45
 go_wp2_with fail
 refine cO.out.mono ?_;rintro e w1 ⟨rfl,b1⟩;have b1:=Wd b1;simp only[fileA];go_wp2_with fail
 go_ret2
 exact⟨rfl,h0.out.same b1.out⟩
theorem read_at (k:Nat)(o:Of)(x:IN.Nd)(pid fd n:Int)(w:World)(h:RT K c S D P O w)(hk:Kn K q S D P O)(hn:I64 n)(e:fileR P O pid fd 1=.ok k)(ho:O k=some o)(hx:S o.ino=some x){t:ByteArray}{E:Int}(ht:strOf (rdV x.l x.size o.off n)=t)(hE:rdE x.l x.size o.off n=E) :
 Calls prog 45 #[.pointer (some ⟨K.d,0,none⟩),.int .i64 pid,.int .i64 fd,.int .i64 n] w fun e w'=>e=.returned (.tuple #[.string t,.int .i64 E])/\RO K c S D P (if E=0 then updO O k (some { o with off:=o.off+t.size }) else O) w w':=by
 have h0:=Wd h;obtain⟨⟨vo,vp,qo,qp,h1,rfl,rfl,hol⟩,htr⟩:=h;have cO:=open_raw pid fd 1 h1 hk hol;rw[e] at cO;obtain⟨hko,he,hr⟩:=Oq_some ho;have hoff:=hk.di.off k o ho;obtain⟨x',hx',hkd⟩:=hk.di.ino k o ho;rw[hx] at hx'
 cases hx'
 have hg:=(hk.fine.good _ _ hx).size;have hbd:=DC.rd_bound (l:=x.l) (s:=x.size) (f:=o.off) (n:=n) hg.2 ⟨by omega,by omega⟩;rw[ht] at hbd;obtain⟨og,cap,rfl,hgd,-,hkN,hNc,hcm,hF⟩:=h1.fo hko;rw[he] at hF;have cO:=Wd cO;have hw:IntKind.i64.wrap (o.off+(t.size:Int))=o.off+(t.size:Int):=by rw[IntKind.wrap_i64];omega
 have sA:=Wd (fun (w1:World) (b1:Below w.heap.size w w1)=>hF _ ((h1.keep b1).keep (drew1_below w1)))
 have cT:Hid (∀ w1,Below w.heap.size w w1->Calls prog 87 #[.pointer (some ⟨K.rg,0,none⟩),.int .i64 o.ino,.int .i64 o.off,.int .i64 n] w1.drew fun e w'=>e=.returned (.tuple #[.string t,.int .i64 E])/\Below w1.heap.size w1 w'):=Wd (fun w1 b1=>by
  have:=IN.rRead_yes o.ino o.off n x w1.drew hk.fine hk.lim.1 ((htr.rs.keep b1).keep (drew1_below w1)) ⟨by omega,by omega⟩ hn hx hkd;rw[ht,hE] at this;refine this.mono ?_;rintro e w' ⟨rfl,hb⟩
  exact⟨rfl,bundrew hb⟩)
 have next:Hid (∀ w1 w3:World,Below w.heap.size w w1->Below w1.heap.size w1 w3->FO K (.slice (some ⟨og,0,none⟩) qo.length cap) og k o w3/\Hid (RO K c S D (Pq qp) (Oq qo) w w3)/\Hid (RO K c S D (Pq qp) (updO (Oq qo) k (some { o with off:=o.off+t.size })) w (w3.drew.setCell ⟨og,k*4+1,none⟩ (.int .i64 (o.off+t.size))))):=Wd (by
  intro w1 w3 b1 b3;have b13:=b1.trans (b3.mono b1.size);have bd:Below w.heap.size w w3.drew:=b13.drew
  exact⟨hF _ (h1.keep b13),Wd (h0.out.same b13),Wd (seek_fin h1 hol htr hko he hr bd (o.off+t.size))⟩)
 clear h1 hk hol htr e hF h0 he hko hr hoff hx hkd ho hbd hg ht hE;generalize qo.length=N at *
 by_cases hE:E=0
 ·subst hE;rw[if_pos rfl];go_enter func45,ntmps45
  go_wp2_with fail
  refine cO.out.mono ?_;rintro e w1 ⟨rfl,b1⟩;have sA1:=sA.out w1 b1;have t1:=sA1.s0;have t2:=sA1.s9;have t3:=sA1.o0;have t4:=sA1.o1;clear sA1;have cT1:=Wd (cT.out w1 b1);have next1:=Wd (fun w3=>next.out w1 w3 b1);clear cT next sA b1;simp only[fileA];go_wp2_with fail
  go_region_held3 (fun w'=>w'.cell? ⟨K.d,0,none⟩=some (.pointer (some ⟨K.rg,0,none⟩))/\w'.cell? ⟨K.d,9,none⟩=some (.slice (some ⟨og,0,none⟩) N cap)/\w'.cell? ⟨og,k*4,none⟩=some (.int .i64 o.ino)/\w'.cell? ⟨og,k*4+1,none⟩=some (.int .i64 o.off)) (with_reducible (first|assumption|exact⟨t1,t2,t3,t4⟩))
   (first
    | (go_at_call 87;refine cT1.out.mono ?_;rintro e w3 ⟨rfl,b3⟩;obtain⟨f3,hfn,hfin⟩:=next1.out w3 b3;have S3:=And.intro f3.s0 (And.intro f3.s9 (And.intro f3.o0 f3.o1));have y1:=f3.s9;have y2:=f3.o1;have y3:=f3.fz;clear f3 b3 hfn))
  all_goals
   go_wp2_with fail
   refine UpTo.region (S:=(fun w'=>w'.cell? ⟨K.d,9,none⟩=some (.slice (some ⟨og,0,none⟩) N cap)/\w'.cell? ⟨og,k*4+1,none⟩=some (.int .i64 o.off))) (m:=18) (by kernel_rfl) ⟨y1,y2⟩ (fun hHeld=>?_);refine ut (i:=0) (v:=.pointer (some ⟨K.d,0,none⟩)) hHeld ?_;refine ut (i:=1) (v:=.pointer (some ⟨K.d,0,none⟩)) hHeld ?_;refine ut (i:=2) (v:=.pointer (some ⟨K.d,9,none⟩)) hHeld ?_;refine ut (i:=3) (v:=.slice (some ⟨og,0,none⟩) N cap) hHeld ?_;refine ut (i:=4) (v:=.int .i64 (k:Int)) hHeld ?_;refine ut (i:=5) (v:=.pointer (some ⟨K.d,0,none⟩)) hHeld ?_;refine ut (i:=6) (v:=.pointer (some ⟨K.d,0,none⟩)) hHeld ?_;refine ut (i:=7) (v:=.pointer (some ⟨K.d,9,none⟩)) hHeld ?_;refine ut (i:=8) (v:=.slice (some ⟨og,0,none⟩) N cap) hHeld ?_;refine ut (i:=9) (v:=.int .i64 (k:Int)) hHeld ?_;refine ut (i:=10) (v:=.pointer (some ⟨og,k*4,none⟩)) hHeld ?_;refine ut (i:=11) (v:=.pointer (some ⟨og,k*4+1,none⟩)) hHeld ?_;refine ut (i:=12) (v:=.int .i64 o.off) hHeld ?_;refine ut (i:=13) (v:=.string t) hHeld ?_;refine ut (i:=14) (v:=.int .i64 (t.size:Int)) hHeld ?_;refine ut (i:=15) (v:=.int .i64 (o.off+(t.size:Int))) hHeld ?_;refine UpTo.one (i:=16) (by kernel_rfl) rfl rfl (fun K hK=>?_);go_simp
   refine hK.out _ _ ⟨y1,y2⟩ ?_;clear hK K
   try simp only[Act.put,List.setIfInBounds_toArray,List.set_cons_zero,List.set_cons_succ,List.getElem_toArray,List.getElem_cons_zero,List.getElem_cons_succ]
   refine UpTo.one (i:=17) (by kernel_rfl) rfl rfl (fun K hK=>?_);go_simp
   refine hK.out _ _ ⟨y1,y2⟩ ?_;clear hK K
   try simp only[Act.put,List.setIfInBounds_toArray,List.set_cons_zero,List.set_cons_succ,List.getElem_toArray,List.getElem_cons_zero,List.getElem_cons_succ]
   refine UpTo.last (by kernel_rfl) rfl rfl (by kernel_rfl) ?_;go_simp
   go_wp2_with fail
   go_ret2
   exact⟨rfl,hfin.out⟩
 ·rw[if_neg hE];have hEb:(E != 0)=true:=by simpa using hE
  have hEc:(E == 0)=false:=by simpa using hE
  clear hE;go_enter func45,ntmps45
  go_wp2_with fail
  refine cO.out.mono ?_;rintro e w1 ⟨rfl,b1⟩;have sA1:=sA.out w1 b1;have t1:=sA1.s0;have t2:=sA1.s9;have t3:=sA1.o0;have t4:=sA1.o1;clear sA1;have cT1:=Wd (cT.out w1 b1);have next1:=Wd (fun w3=>next.out w1 w3 b1);clear cT next sA b1;simp only[fileA];go_wp2_with fail
  go_region_held3 (fun w'=>w'.cell? ⟨K.d,0,none⟩=some (.pointer (some ⟨K.rg,0,none⟩))/\w'.cell? ⟨K.d,9,none⟩=some (.slice (some ⟨og,0,none⟩) N cap)/\w'.cell? ⟨og,k*4,none⟩=some (.int .i64 o.ino)/\w'.cell? ⟨og,k*4+1,none⟩=some (.int .i64 o.off)) (with_reducible (first|assumption|exact⟨t1,t2,t3,t4⟩))
   (first
    | (go_at_call 87;refine cT1.out.mono ?_;rintro e w3 ⟨rfl,b3⟩;obtain⟨f3,hfn,hfin⟩:=next1.out w3 b3;have S3:=And.intro f3.s0 (And.intro f3.s9 (And.intro f3.o0 f3.o1));clear f3 b3 hfin))
  all_goals
   go_wp2_with fail
   go_ret2
   exact⟨rfl,hfn.out⟩
end
end RD
namespace RD
open DC (Of Ls Ps Ou Sm lk)
open IN (Keeps lt_of_some cellkept)
theorem info_int:Own.Info prog 3 (.int .i64 0) 1 8:=Own.info_of (by kernel_rfl) rfl (by decide)
theorem int_cells (w:World)(a:Int)(g:Nat)(hB:Blk w g 3 [.int .i64 a]):Own.Src w 1 (.slice (some ⟨g,0,none⟩) 1 1) 1 [.int .i64 a]:=
 .inr ⟨_,_,rfl,by simp,fun j v hj=>by
  have:=hB.cell hj;rw[Addr.add_lit,Nat.zero_add]
  exact this⟩
theorem int_one (a:Int):∀ u∈[Value.int .i64 a],u.oneCell'=true:=by
 intro u hu;simp only[List.mem_cons,List.not_mem_nil,or_false] at hu;subst hu;rfl
def pidv (q:List PE):List Value:=q.map fun x=>.int .i64 x.pid
section
variable {K:Cd}{vo vp:Value}{qo:List Of}{qp:List PE}{w w':World}
theorem procs_d (w:World)(h:QT K vo vp qo qp w)(hlen:qp.length<=100000) :
 Calls prog 48 #[.pointer (some ⟨K.d,0,none⟩)] w fun e w'=>∃ v,e=.returned v/\w'.ownsRow w.heap.size 3 1 v qp.length (pidv qp)/\Below w.heap.size w w':=by
 have c1:=h.box.cell (j:=10) rfl;obtain⟨ao,cap,hv⟩:=Own.form h.rp;have hE:=Wd (fun i (hi:i<qp.length)=>h.atP hi);rw[hv] at hE;subst hv;obtain⟨N,hN⟩:∃ N,qp.length=N:=⟨_,rfl⟩;rw[hN] at c1 hlen ⊢;replace hN:=Wd hN;clear h;go_enter func48,ntmps48
 go_wp2_with fail
 go_loopw [3,4] (fun v i wr=>∃ (j:Nat),j<=N/\i=.int .i64 (j:Int)/\Hid (wr.ownsRow w.heap.size 3 1 v j (pidv (qp.take j)))/\Hid (Below w.heap.size w wr)) (fun _ i _=>N-(intOf i).toNat)
 case atStart=>exact⟨0,Nat.zero_le _,rfl,Wd (World.ownsRow_nil _ _ _ _),Wd (Below.refl _ _)⟩
 case round=>
  obtain⟨j,hj,rfl,hown,hbel⟩:=hrel;have c7:=cellkept hbel.out c1
  by_cases hlt:j<N
  ·have hjq:j<qp.length:=by rw[hN.out];exact hlt
   obtain⟨g,cap',hv,-,-,-,h1,h2,-,x0,-⟩:=hE.out j hjq;have hNN:=hN.out;rw[hNN] at hv h1;simp only[Value.slice.injEq] at hv;obtain⟨rfl,-,rfl⟩:=hv;replace x0:=cellkept hbel.out x0;have htake:Hid (pidv (qp.take (j+1))=pidv (qp.take j) ++ [.int .i64 qp[j].pid]):=Wd (by rw[EM.take_snoc qp j hjq];unfold pidv;rw[List.map_append];rfl);obtain⟨a,ha⟩:∃ a,qp[j].pid=a:=⟨_,rfl⟩;rw[ha] at x0 htake;have hsrc:=Wd (int_cells (wr.alloc (.cells #[.int .i64 a] 3)) a wr.heap.size (Blk.new wr 3 [.int .i64 a] rfl));have hb7:=Wd (hbel.out.alloc hbel.out.size (.cells #[.int .i64 a] 3));have hown7:=Wd (Own.below hown.out ((Below.refl wr.heap.size wr).alloc (Nat.le_refl _) (.cells #[.int .i64 a] 3)));obtain⟨ao3,c3,hv3⟩:=Own.form hown.out;clear ha hjq hNN;subst hv3
   go_wp2_with (first
    | (at_builtin;refine Own.wpList_app rfl (.tmp 14) (.tmp 23) 57 rfl underlying57 info_int (.slice ao3 j c3) (.slice (some ⟨wr.heap.size,0,none⟩) 1 1) rfl rfl hown7.out hb7.out.size hsrc.out (int_one _) (by unfold maxLen;omega) (by omega) ?_;intro v' w8 ho8 hg8 hob8;have hb8:=Wd (hb7.out.grown hg8 hb7.out.size (fun k h=>Own.ge hown7.out k h));have ho8:=Wd ho8;clear hg8 hob8))
   have hown8:Hid (w8.ownsRow w.heap.size 3 1 v' (j+1) (pidv (qp.take (j+1)))):=Wd (by rw[htake.out];exact ho8.out);go_roundw
   case rel=>exact⟨j+1,by omega,by go_num,hown8,hb8⟩
   case measure=>simp[intOf];omega
  ·obtain rfl:j=N:=by omega
   have hfin:=hown.out;rw[List.take_of_length_le (Nat.le_of_eq hN.out)] at hfin;have hfin:=Wd hfin;go_wp2_with fail
   go_ret
   exact⟨_,rfl,hfin.out,hbel.out⟩
end
end RD
namespace RD
open DC (Of Ls Ps Ou Sm lk)
open IN (Keeps lt_of_some cellkept)
theorem info_open:Own.Info prog 160 (.agg #[.int .i64 0,.int .i64 0,.int .i64 0,.int .i64 0]) 4 32:=Own.info_of (by kernel_rfl) rfl (by decide)
def o0:Of:=⟨0,0,0,0⟩
theorem orow_cells (w:World)(o:Of)(g:Nat)(hB:Blk w g 160 (orow o)):Own.Src w 4 (.slice (some ⟨g,0,none⟩) 1 1) 1 (orow o):=
 .inr ⟨_,_,rfl,by simp[orow],fun j v hj=>by
  have:=hB.cell hj;rw[Addr.add_lit,Nat.zero_add]
  exact this⟩
theorem orow_one (o:Of):∀ u∈orow o,u.oneCell'=true:=by
 intro u hu;simp only[orow,List.mem_cons,List.not_mem_nil,or_false] at hu;rcases hu with rfl|rfl|rfl|rfl <;> rfl
section
variable {K:Cd}{vo vp:Value}{qo:List Of}{qp:List PE}{w w':World}
theorem grown_keeps {W w8:World}{base e size n:Nat}{v:Value}{xs:List Value}(ho:W.ownsRow base e size v n xs)(hlow:base<=W.heap.size)(he:e=160∨e=108∨e=3)(hg:W.grownBy w8 v.ownBlock):Keeps base OT W w8:=by
 refine⟨hg.os,hg.tape,hg.output,hg.size,fun k hk=>hg.block k (by omega) fun e'=>?_,fun k o hk hT=>(hg.block k (lt_of_some hk) fun e'=>?_).trans hk⟩
 ·have:=Own.ge ho k e'.symm
  omega
 ·rcases ho.2 with ⟨rfl,-⟩|⟨g,cap,cur,rfl,-,hh,-⟩
  ·cases e'
  ·cases e'
   rw[hk] at hh
   cases hh
   exact hT ⟨_,_,_,rfl,.inr he⟩
theorem QT.growO (h:QT K vo vp qo qp w){W w8:World}(hb:Below w.heap.size w W){v':Value}(x:Of)(ho:w8.ownsRow K.base 160 4 v' (qo.length+1) (ocl qo ++ orow x))(hg:W.grownBy w8 vo.ownBlock) :
 QT K v' vp (qo ++ [x]) qp (w8.setCell ⟨K.d,9,none⟩ v')/\Keeps K.base OT w (w8.setCell ⟨K.d,9,none⟩ v'):=by
 have hW:=h.keep hb;have box8:=hW.box.grown hg fun e=>own_ne hW.ro hW.box (by decide) e.symm rfl;have rp8:w8.ownsRow K.base 108 2 vp qp.length (pcl qp):=own_move hW.rp fun g cur hv hh=>hg.block g (lt_of_some hh) fun e=>own_far hW.rp hW.ro (by decide) hv e.symm rfl;have rl8:∀ y∈qp,w8.ownsRow K.base 3 1 (pval y) y.L.length (lcl y.L):=fun y hy=>own_move (hW.rl y hy) fun g cur hv hh=>hg.block g (lt_of_some hh) fun e=>own_far (hW.rl y hy) hW.ro (by decide) hv e.symm rfl;refine⟨⟨box8.set 9 v',?_,own_setFar rp8 (p:=⟨K.d,9,none⟩) (fun g hv=>own_ne rp8 box8 (by decide) hv) v',fun y hy=>own_setFar (rl8 y hy) (p:=⟨K.d,9,none⟩) (fun g hv=>own_ne (rl8 y hy) box8 (by decide) hv) v',h.dis,h.ge⟩,?_⟩
 ·have:(qo ++ [x]).length=qo.length+1:=by simp
  rw[this,ocl_app,ocl_one];exact own_setFar ho (p:=⟨K.d,9,none⟩) (fun g hv=>own_ne ho box8 (by decide) hv) v'
 ·exact (Keeps.new hb h.low).trans ((grown_keeps hW.ro hW.low (.inl rfl) hg).trans ((Keeps.refl K.base OT w8).setCell (p:=⟨K.d,9,none⟩) box8 ⟨_,_,_,rfl,.inl rfl⟩ h.ge v'))
theorem room_at (J:Nat)(w:World)(h:QT K vo vp qo qp w)(hJ:J<qo.length)(hne:∀ j (hj:j<qo.length),j<J->qo[j].refs≠0)(heq:qo[J].refs=0)(hlen:qo.length<=1024) :
 Calls prog 82 #[.pointer (some ⟨K.d,0,none⟩)] w fun e w'=>e=.returned (.int .i64 (J:Int))/\w=w':=by
 have c1:=h.box.cell (j:=9) rfl;obtain⟨ao,cap,hv⟩:=Own.form h.ro;have hE:=Wd (fun i (hi:i<qo.length)=>h.atO hi);rw[hv] at hE;subst hv;obtain⟨N,hN⟩:∃ N,qo.length=N:=⟨_,rfl⟩;have heq':Hid (∀ hj:J<qo.length,qo[J].refs=0):=Wd fun _=>heq;clear heq;rw[hN] at c1 hJ hlen;replace hN:=Wd hN;replace hne:=Wd hne;clear h;go_enter func82,ntmps82
 go_wp2_with fail
 go_loopw [3] (fun i wr=>∃ k:Nat,k<=J/\i=.int .i64 (k:Int)/\w=wr) (fun i _=>N-(intOf i).toNat)
 case atStart=>exact⟨0,Nat.zero_le _,rfl,rfl⟩
 case round=>
  obtain⟨k,hk,rfl,hwr⟩:=hrel;subst hwr;have hlt:k<N:=by omega
  have hkq:k<qo.length:=by rw[hN.out];exact hlt
  obtain⟨g,cap',hv,-,-,-,-,-,-,-,-,-,e0⟩:=hE.out k hkq;simp only[Value.slice.injEq] at hv;obtain⟨rfl,-,-⟩:=hv
  by_cases hkK:k<J
  ·have hx:=hne.out k hkq hkK;obtain⟨a,ha⟩:∃ a,qo[k].refs=a:=⟨_,rfl⟩;rw[ha] at e0 hx;clear ha hkq;go_wp2_with fail
   go_roundw
   case rel=>exact⟨k+1,by omega,by go_num,by first|trivial|rfl⟩
   case measure=>simp[intOf];omega
  ·obtain rfl:k=J:=by omega
   have hx:=heq'.out hkq;rw[hx] at e0;clear hx hkq;go_wp2_with fail
   go_ret
   exact⟨rfl,by first|trivial|rfl⟩
theorem room_none (w:World)(h:QT K vo vp qo qp w)(hne:∀ j (hj:j<qo.length),qo[j].refs≠0)(hlen:qo.length<=1024)(hfull:qo.length=K.opens) :
 Calls prog 82 #[.pointer (some ⟨K.d,0,none⟩)] w fun e w'=>e=.returned (.int .i64 (-1))/\Below w.heap.size w w':=by
 have c1:=h.box.cell (j:=9) rfl;have c6:=h.box.cell (j:=6) rfl;obtain⟨ao,cap,hv⟩:=Own.form h.ro;have hE:=Wd (fun i (hi:i<qo.length)=>h.atO hi);rw[hv] at hE;subst hv;obtain⟨N,hN⟩:∃ N,qo.length=N:=⟨_,rfl⟩;rw[hN] at c1 hlen hfull;rw[<-hfull] at c6;replace hN:=Wd hN;replace hne:=Wd hne;clear h hfull;go_enter func82,ntmps82
 go_wp2_with fail
 go_loopw [3] (fun i wr=>∃ k:Nat,k<=N/\i=.int .i64 (k:Int)/\w=wr) (fun i _=>N-(intOf i).toNat)
 case atStart=>exact⟨0,Nat.zero_le _,rfl,rfl⟩
 case round=>
  obtain⟨k,hk,rfl,hwr⟩:=hrel;subst hwr
  by_cases hlt:k<N
  ·have hkq:k<qo.length:=by rw[hN.out];exact hlt
   obtain⟨g,cap',hv,-,-,-,-,-,-,-,-,-,e0⟩:=hE.out k hkq;simp only[Value.slice.injEq] at hv;obtain⟨rfl,-,-⟩:=hv;have hx:=hne.out k hkq;obtain⟨a,ha⟩:∃ a,qo[k].refs=a:=⟨_,rfl⟩;rw[ha] at e0 hx;clear ha hkq;go_wp2_with fail
   go_roundw
   case rel=>exact⟨k+1,by omega,by go_num,by first|trivial|rfl⟩
   case measure=>simp[intOf];omega
  ·obtain rfl:k=N:=by omega
   have hge:(k:Int)<=(k:Int):=by omega
   go_wp2_with fail
   go_quiet (fail)
   go_wp2_with fail
   go_ret
   exact⟨rfl,below_drewN (Below.refl _ _) _⟩
theorem room_grow (w:World)(h:QT K vo vp qo qp w)(hne:∀ j (hj:j<qo.length),qo[j].refs≠0)(hlen:qo.length<=1024)(hless:qo.length<K.opens)(hop:K.opens<=1024) :
 Calls prog 82 #[.pointer (some ⟨K.d,0,none⟩)] w fun e w'=>e=.returned (.int .i64 (qo.length:Int))/\∃ vo',QT K vo' vp (qo ++ [o0]) qp w'/\Keeps K.base OT w w':=by
 have c1:=h.box.cell (j:=9) rfl;have c6:=h.box.cell (j:=6) rfl;have hrow:=h.ro;have hbl:=h.box.lt;have hgrow:=Wd (fun (W w8:World) (hb:Below w.heap.size w W) (v':Value) (ho:w8.ownsRow K.base 160 4 v' (qo.length+1) (ocl qo ++ orow o0)) (hg:W.grownBy w8 vo.ownBlock)=>h.growO hb o0 ho hg);have hnv:=Wd (fun (e:vo.ownBlock=some K.d)=>own_ne h.ro h.box (by decide) e rfl);have hbox:=Wd h.box;have hlow:=h.low;obtain⟨ao,cap,hv⟩:=Own.form h.ro;have hE:=Wd (fun i (hi:i<qo.length)=>h.atO hi);rw[hv] at hE;subst hv;obtain⟨N,hN⟩:∃ N,qo.length=N:=⟨_,rfl⟩;rw[hN] at c1 hlen hless hrow hgrow hbox hnv ⊢;have hlI:(N:Int)<(K.opens:Int):=by omega
 replace hN:=Wd hN;replace hne:=Wd hne;replace hrow:=Wd hrow;clear h;go_enter func82,ntmps82
 go_wp2_with fail
 go_loopw [3] (fun i wr=>∃ k:Nat,k<=N/\i=.int .i64 (k:Int)/\w=wr) (fun i _=>N-(intOf i).toNat)
 case atStart=>exact⟨0,Nat.zero_le _,rfl,rfl⟩
 case round=>
  obtain⟨k,hk,rfl,hwr⟩:=hrel;subst hwr
  by_cases hlt:k<N
  ·have hkq:k<qo.length:=by rw[hN.out];exact hlt
   obtain⟨g,cap',hv,-,-,-,-,-,-,-,-,-,e0⟩:=hE.out k hkq;simp only[Value.slice.injEq] at hv;obtain⟨rfl,-,-⟩:=hv;have hx:=hne.out k hkq;obtain⟨a,ha⟩:∃ a,qo[k].refs=a:=⟨_,rfl⟩;rw[ha] at e0 hx;clear ha hkq;go_wp2_with fail
   go_roundw
   case rel=>exact⟨k+1,by omega,by go_num,by first|trivial|rfl⟩
   case measure=>simp[intOf];omega
  ·obtain rfl:k=N:=by omega
   have hge:(k:Int)<=(k:Int):=by omega
   go_wp2_with fail
   go_quiet (fail)
   have hb7:=Wd ((below_drewN (Below.refl w.heap.size w) nq).alloc (Nat.le_refl _) (.cells #[.int .i64 0,.int .i64 0,.int .i64 0,.int .i64 0] 160));have hown7:=Wd (Own.below hrow.out hb7.out);have hsrc:=Wd (orow_cells ((w.drewN nq).alloc (.cells #[.int .i64 0,.int .i64 0,.int .i64 0,.int .i64 0] 160)) o0 w.heap.size (Blk.new (w.drewN nq) 160 (orow o0) rfl));have hfz7:=Wd (hbox.out.keep hb7.out)
   go_wp2_with (first
    | (at_builtin;refine Own.wpList_app rfl (.tmp 38) (.tmp 40) 52 rfl underlying52 info_open (.slice ao k cap) (.slice (some ⟨w.heap.size,0,none⟩) 1 1) rfl rfl hown7.out (Nat.le_trans hlow hb7.out.size) hsrc.out (orow_one _) (by unfold maxLen;omega) (by omega) ?_
       intro v' w8 ho8 hg8 hob8;have hfin:=Wd (hgrow.out _ w8 hb7.out v' ho8 hg8);have hbx:=(hfz7.out.grown hg8 fun e=>hnv.out e.symm);have x9:=hbx.cell (j:=9) rfl;have f9:=hbx.fz;obtain⟨ao8,cap8,rfl⟩:=Own.form ho8
       clear ho8 hg8 hob8 hbx))
   go_wp2_with fail
   go_ret
   exact⟨by first|rfl|(congr 2;go_num),_,hfin.out.1,hfin.out.2⟩
end
end RD
namespace RD
open DC (Of Ls Ps Ou Sm lk reaR rdyR)
open IN (Keeps lt_of_some)
open IS (I64)
section
variable {K:Cd}{c q:Nat}{S:Sm}{D:NT.Ds}{P:Ps}{O:Ou}{vo vp:Value}{qo:List Of}{qp:List PE}{w w':World}
def FdO (K:Cd)(c:Nat)(S:Sm)(D:NT.Ds)(vo vp:Value)(qo:List Of)(qp:List PE)(w w':World):Prop:=QT K vo vp qo qp w'/\RN.RW K.base K.rt K.rg K.I K.B K.L (c+2) S D (RN.kap D) w'/\Keeps K.base ZT w w'
theorem FdO.same (h1:QT K vo vp qo qp w)(htr:RN.RW K.base K.rt K.rg K.I K.B K.L c S D (RN.kap D) w)(b:Below w.heap.size w w'):FdO K c S D vo vp qo qp w w':=⟨h1.keep b,(htr.keep b).more (by omega),Keeps.new b h1.low⟩
theorem find_in {n:Int}{p:ByteArray}{I:Nat}(ht:NT.TI I q NT.e0 S D)(hf:NT.findR D p=.ok n):∃ x,S n=some x:=by
 refine Option.ne_none_iff_exists'.1 ?_;unfold NT.findR at hf
 split at hf
 ·exact ht.find_in hf
 ·cases hf
theorem found_d (p:ByteArray)(fl:Int)(w:World)(h1:QT K vo vp qo qp w)(htr:RN.RW K.base K.rt K.rg K.I K.B K.L c S D (RN.kap D) w)(hk:Kn K q S D P O)(hp:p.size<=maxLen)(hc:c<60000) :
 Calls prog 83 #[.pointer (some ⟨K.d,0,none⟩),.string p,.int .i64 fl] w fun e w'=>e=.returned (.tuple #[.int .i64 (reaR K.I S D p fl).1.1,.int .i64 (reaR K.I S D p fl).1.2])/\FdO K c (reaR K.I S D p fl).2.1 (reaR K.I S D p fl).2.2 vo vp qo qp w w':=by
 have cF:=RN.find_d p hp w htr.ex;have s1:w.cell? ⟨K.d,1,none⟩=some (.pointer (some ⟨K.rt,0,none⟩)):=h1.box.cell rfl;have sW:Hid (∀ w1,Below w.heap.size w w1->w1.cell? ⟨K.d,1,none⟩=some (.pointer (some ⟨K.rt,0,none⟩))/\w1.cell? ⟨K.d,0,none⟩=some (.pointer (some ⟨K.rg,0,none⟩))):=Wd fun w1 b1=>⟨(h1.keep b1).box.cell rfl,(h1.keep b1).box.cell rfl⟩;have same:=Wd (fun (w2:World) (b:Below w.heap.size w w2)=>FdO.same h1 htr b);unfold reaR
 cases e:NT.findR D p with
 | error e0=>
   rw[e] at cF;simp only;have hne:=DC.find_ne e;simp only[NT.nu,NT.er] at cF;have cF:=Wd cF;have hz:(e0 != 0)=true:=by simpa using hne
   by_cases h11:e0=11
   ·subst h11
    by_cases hb:(bits .and .i64 fl 4 != 0)=true
    ·rw[if_pos ⟨rfl,hb⟩];have cM:Hid (∀ w1,Below w.heap.size w w1->_):=Wd (fun (w1:World) (b1:Below w.heap.size w w1)=>RN.rMake_all p hp 1 w1 (htr.keep b1) hk.ti hk.lim.1 (by omega));have fin:Hid (∀ w1 w2:World,Below w.heap.size w w1->RN.RP K.base K.rt K.rg K.I K.B K.L (c+2) (NT.mk K.I S D p 1).2.1 (NT.mk K.I S D p 1).2.2 w1 w2->FdO K c (NT.mk K.I S D p 1).2.1 (NT.mk K.I S D p 1).2.2 vo vp qo qp w w2):=Wd (fun w1 w2 b1 hr=>⟨(h1.keep b1).tree hr.2,hr.1,(Keeps.new b1 h1.low).trans (ZT_tree hr.2)⟩);generalize NT.mk K.I S D p 1=r at *;clear h1 htr hk hp same e hne;go_enter func83,ntmps83
     go_wp2_with fail
     refine cF.out.mono ?_;rintro e w1 ⟨rfl,b1⟩;have y1:=(sW.out w1 b1).1;have cM1:=Wd (cM.out w1 b1);have fin1:=Wd (fun w2=>fin.out w1 w2 b1);clear cM fin b1 sW;go_wp2_with fail
     refine cM1.out.mono ?_;rintro e w2 ⟨rfl,hr⟩;have hr:=Wd (fin1.out w2 hr);go_wp2_with fail
     go_ret2
     exact⟨rfl,hr.out⟩
    ·rw[if_neg fun h=>hb h.2];have hb:(bits .and .i64 fl 4 != 0)=false:=by simpa using hb
     clear h1 htr hk hp e hne sW;go_enter func83,ntmps83
     go_wp2_with fail
     refine cF.out.mono ?_;rintro e w1 ⟨rfl,b1⟩;have hr:=Wd (same.out w1 b1);clear b1 same;go_wp2_with fail
     go_ret2
     exact⟨rfl,hr.out⟩
   ·rw[if_neg fun h=>h11 h.1];have h11b:(e0 == 11)=false:=by simpa using h11
    clear h1 htr hk hp e hne sW h11;go_enter func83,ntmps83
    go_wp2_with fail
    refine cF.out.mono ?_;rintro e w1 ⟨rfl,b1⟩;have hr:=Wd (same.out w1 b1);clear b1 same;go_wp2_with fail
    go_ret2
    exact⟨rfl,hr.out⟩
 | ok n=>
   rw[e] at cF;simp only;obtain⟨x,hx⟩:=find_in hk.ti e;simp only[NT.nu,NT.er] at cF;have cF:=Wd cF;unfold rdyR;simp only[hx]
   by_cases h8:(bits .and .i64 fl 8 != 0)=true
   ·simp only[h8,if_true];clear h1 htr hk hp e sW hx;go_enter func83,ntmps83
    go_wp2_with fail
    refine cF.out.mono ?_;rintro e w1 ⟨rfl,b1⟩;have hr:=Wd (same.out w1 b1);clear b1 same;go_wp2_with fail
    go_ret2
    exact⟨rfl,hr.out⟩
   ·have h8:(bits .and .i64 fl 8 != 0)=false:=by simpa using h8
    simp only[h8,Bool.false_eq_true,if_false];have e1:IN.stV S n=[.int .i64 n,.int .i64 x.kind,.int .i64 x.links,.int .i64 x.opens,.int .i64 x.size,.int .i64 (EM.cnt x.l:Int)]:=by simp[IN.stV,hx,IN.stl]
    have e2:IN.opR S n=0:=by simp[IN.opR,IN.askR,hx]
    have cS:Hid (∀ w1,Below w.heap.size w w1->Calls prog 88 #[.pointer (some ⟨K.rg,0,none⟩),.int .i64 n] w1 fun e w'=>e=.returned (.tuple #[.agg #[.int .i64 n,.int .i64 x.kind,.int .i64 x.links,.int .i64 x.opens,.int .i64 x.size,.int .i64 (EM.cnt x.l:Int)],.int .i64 0])/\Below w.heap.size w w'):=Wd (fun w1 b1=>by
     have:=IN.rStat_any n w1 hk.fine hk.lim.1 (htr.rs.keep b1);rw[e1,e2] at this;refine this.mono ?_;rintro e w2 ⟨rfl,b2⟩
     exact⟨rfl,b1.trans (b2.mono b1.size)⟩)
    by_cases h2:x.kind=2
    ·simp only[h2,if_true,show ((14:Int)=0)=False from by decide,if_false];have h2b:(x.kind == 2)=true:=by simpa using h2
     clear h1 htr hk hp e hx e1 e2 h2;generalize x.kind=kd at *;go_enter func83,ntmps83
     go_wp2_with fail
     refine cF.out.mono ?_;rintro e w1 ⟨rfl,b1⟩;have y0:=(sW.out w1 b1).2;have cS1:=Wd (cS.out w1 b1);clear b1 sW cS;go_wp2_with fail
     refine cS1.out.mono ?_;rintro e w2 ⟨rfl,b2⟩;have hr:=Wd (same.out _ (b2.alloc b2.size (.cells #[.int .i64 n,.int .i64 kd,.int .i64 x.links,.int .i64 x.opens,.int .i64 x.size,.int .i64 (EM.cnt x.l:Int)] 65)));clear same b2;go_wp2_with fail
     go_ret2
     exact⟨rfl,hr.out⟩
    ·have h2b:(x.kind == 2)=false:=by simpa using h2
     have hkd:x.kind=1:=by have:=(hk.fine.good n x hx).kind;omega
     simp only[if_neg h2]
     by_cases h16:(bits .and .i64 fl 16 != 0)=true
     ·simp only[h16,if_true]
      have cT:Hid (∀ W,Below w.heap.size w W->Calls prog 122 #[.pointer (some ⟨K.rg,0,none⟩),.int .i64 n,.int .i64 0] W fun e w'=>e=.returned (.int .i64 (IN.tErr S n 0))/\FdO K c (IN.tS S n 0) D vo vp qo qp w w'):=Wd (fun W b=>(IN.rTr_yes n 0 x W hk.fine hk.lim.1 (htr.rs.keep b) ⟨by omega,by omega⟩ hx hkd).mono (by
       rintro e w3 ⟨rfl,hrs,k3⟩
       exact⟨rfl,(h1.keep b).store k3,(tr_store (htr.keep b) k3 hrs).more (by omega),(Keeps.new b h1.low).trans (ZT_store k3)⟩))
      have sW2:Hid (∀ w1,Below w.heap.size w w1->∀ ob,(w1.alloc ob).cell? ⟨K.d,0,none⟩=some (.pointer (some ⟨K.rg,0,none⟩))):=Wd fun w1 b1 ob=>((h1.keep b1).box.alloc ob).cell rfl;clear h1 htr hk hp e hx e1 e2 same hkd h2;generalize IN.tErr S n 0=E at *;generalize IN.tS S n 0=S2 at *;generalize x.kind=kd at *;go_enter func83,ntmps83
      go_wp2_with fail
      refine cF.out.mono ?_;rintro e w1 ⟨rfl,b1⟩;have y0:=(sW.out w1 b1).2;have cS1:=Wd (cS.out w1 b1);clear b1 sW cS;go_wp2_with fail
      refine cS1.out.mono ?_;rintro e w2 ⟨rfl,b2⟩;have z0:=sW2.out w2 b2;have cT1:=Wd (cT.out _ (b2.alloc b2.size (.cells #[.int .i64 n,.int .i64 kd,.int .i64 x.links,.int .i64 x.opens,.int .i64 x.size,.int .i64 (EM.cnt x.l:Int)] 65)));clear b2 cT sW2;go_wp2_with fail
      refine cT1.out.mono ?_;rintro e w4 ⟨rfl,hr⟩;have hr:=Wd hr;go_wp2_with fail
      go_ret2
      exact⟨rfl,hr.out⟩
     ·have h16:(bits .and .i64 fl 16 != 0)=false:=by simpa using h16
      simp only[h16,Bool.false_eq_true,if_false,if_true];clear h1 htr hk hp e hx e1 e2 hkd h2;generalize x.kind=kd at *;go_enter func83,ntmps83
      go_wp2_with fail
      refine cF.out.mono ?_;rintro e w1 ⟨rfl,b1⟩;have y0:=(sW.out w1 b1).2;have cS1:=Wd (cS.out w1 b1);clear b1 sW cS;go_wp2_with fail
      refine cS1.out.mono ?_;rintro e w2 ⟨rfl,b2⟩;have hr:=Wd (same.out _ (b2.alloc b2.size (.cells #[.int .i64 n,.int .i64 kd,.int .i64 x.links,.int .i64 x.opens,.int .i64 x.size,.int .i64 (EM.cnt x.l:Int)] 65)));clear same b2;go_wp2_with fail
      go_ret2
      exact⟨rfl,hr.out⟩
end
end RD
end Go.Proofs.YtfffibepcdlldaaGreat

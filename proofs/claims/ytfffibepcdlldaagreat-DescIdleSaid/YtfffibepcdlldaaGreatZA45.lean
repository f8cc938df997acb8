/- A part. -/
import Derived.Test.YtfffibepcdlldaaGreatZA01
import Derived.Test.YtfffibepcdlldaaGreatZA44
import Derived.Deep.RegionHeld3
import Derived.OrdersHeld
set_option linter.unusedVariables false
set_option linter.unusedSimpArgs false
set_option maxRecDepth 100000
set_option maxHeartbeats 64000000
open Go.Proofs.Tryz

namespace Go.Proofs.YtfffibepcdlldaaGreat
open Go.ChangeShapes Go.WideShapes Go.ChangeAt Go.RowKit Go.Maps
namespace RD
open DC (Of Ls Ps Ou Sm)
open IN (Keeps)
open IS (I64)
theorem kind13 (k:Int):((((k.tmod 13)+13).tmod 13)=0∨(((k.tmod 13)+13).tmod 13)=1∨(((k.tmod 13)+13).tmod 13)=2∨(((k.tmod 13)+13).tmod 13)=3∨(((k.tmod 13)+13).tmod 13)=4∨(((k.tmod 13)+13).tmod 13)=5∨(((k.tmod 13)+13).tmod 13)=6∨(((k.tmod 13)+13).tmod 13)=7∨(((k.tmod 13)+13).tmod 13)=8∨(((k.tmod 13)+13).tmod 13)=9∨(((k.tmod 13)+13).tmod 13)=10∨(((k.tmod 13)+13).tmod 13)=11∨(((k.tmod 13)+13).tmod 13)=12)/\-12<=k.tmod 13/\k.tmod 13<=12:=by
 have h1:=Int.tmod_lt_of_pos k (show (0:Int)<13 by decide);have h2 : -13<k.tmod 13:=by
  have:=Int.lt_tmod_of_pos k (show (0:Int)<13 by decide)
  omega
 obtain⟨t,ht⟩:∃ t,k.tmod 13=t:=⟨_,rfl⟩;rw[ht] at h1 h2 ⊢;have:t = -12∨t = -11∨t = -10∨t = -9∨t = -8∨t = -7∨t = -6∨t = -5∨t = -4∨t = -3∨t = -2∨t = -1∨t=0∨t=1∨t=2∨t=3∨t=4∨t=5∨t=6∨t=7∨t=8∨t=9∨t=10∨t=11∨t=12:=by omega
 rcases this with rfl|rfl|rfl|rfl|rfl|rfl|rfl|rfl|rfl|rfl|rfl|rfl|rfl|rfl|rfl|rfl|rfl|rfl|rfl|rfl|rfl|rfl|rfl|rfl|rfl <;> decide
def Did13 (Kp:DC.Cn)(G:Cd)(q c B0:Nat)(w0 w':World):Prop:=∃ S' D' P' O',B13 Kp G (q+2) (c+2) S' D' P' O' S' D' P' O' B0 w0 w'
section
variable {Kp:DC.Cn}{G:Cd}{q c B0:Nat}{S:Sm}{D:NT.Ds}{P:Ps}{O:Ou}{w0:World}
def xl13 (kd pid fd:Int)(s:ByteArray)(n ito:Int):List Value:=[.int .i64 kd,.int .i64 pid,.int .i64 fd,.string s,.int .i64 n,.int .i64 ito]
theorem n13_of (T:Ties Kp G B0){w W0:World}(h:B13 Kp G q c S D P O S D P O B0 w0 w){kd pid fd n ito:Int}{s:ByteArray}(hW:w.alloc (.cells #[.int .i64 kd,.int .i64 pid,.int .i64 fd,.string s,.int .i64 n,.int .i64 ito] 45)=W0):Hid (N13 Kp G w.heap.size (xl13 kd pid fd s n ito) B0 w0 q c S D P O S D P O W0):=by
 rw[<-hW];exact Wd ⟨h.keep T.b2 ((Below.refl w.heap.size w).alloc (Nat.le_refl _) _),Blk.new w 45 (xl13 kd pid fd s n ito) rfl⟩
theorem N13.x6 {xg:Nat}{kd pid fd n ito:Int}{s:ByteArray}{q' c':Nat}{S1 S2:Sm}{D1 D2:NT.Ds}{P1 P2:Ps}{O1 O2:Ou}{w:World}(h:N13 Kp G xg (xl13 kd pid fd s n ito) B0 w0 q' c' S1 D1 P1 O1 S2 D2 P2 O2 w):w.cell? ⟨xg,0,none⟩=some (.int .i64 kd)/\w.cell? ⟨xg,1,none⟩=some (.int .i64 pid)/\w.cell? ⟨xg,2,none⟩=some (.int .i64 fd)/\w.cell? ⟨xg,3,none⟩=some (.string s)/\w.cell? ⟨xg,4,none⟩=some (.int .i64 n)/\w.cell? ⟨xg,5,none⟩=some (.int .i64 ito):=
 ⟨h.x.cell rfl,h.x.cell rfl,h.x.cell rfl,h.x.cell rfl,h.x.cell rfl,h.x.cell rfl⟩
theorem B13.kn (T:Ties Kp G B0){w:World}(h:B13 Kp G q c S D P O S D P O B0 w0 w):Kn G q S D P O:=kn_of h.ds T.e T.L
theorem B13.rtc {w:World}{S1:Sm}{D1:NT.Ds}{P1:Ps}{O1:Ou}(h:B13 Kp G q c S1 D1 P1 O1 S D P O B0 w0 w):w.cell? ⟨G.d,1,none⟩=some (.pointer (some ⟨G.rt,0,none⟩)):=by
 obtain⟨vo,vp,qo,qp,h1,-⟩:=h.rt.ex;exact h1.box.cell rfl
theorem N13.two {xg:Nat}{xl:List Value}{S1:Sm}{D1:NT.Ds}{P1:Ps}{O1:Ou}{w:World}(h:N13 Kp G xg xl B0 w0 q c S1 D1 P1 O1 S D P O w):Blk w xg 45 xl/\w.cell? ⟨G.d,1,none⟩=some (.pointer (some ⟨G.rt,0,none⟩)):=⟨h.x,h.b.rtc⟩
theorem more_5 (T:Ties Kp G B0)(hq:q<59998)(hc:c<60000)(kd pid fd n ito:Int)(s:ByteArray)(hkd:I64 kd)(hp:I64 pid)(hs:s.size<=maxLen)(hn:I64 n)(ht:I64 ito)(w:World)(h:B13 Kp G q c S D P O S D P O B0 w0 w) :
 Calls prog 47 #[.pointer (some ⟨Kp.tg,0,none⟩),.pointer (some ⟨Kp.g,0,none⟩),.pointer (some ⟨G.d,0,none⟩),.agg #[.int .i64 kd,.int .i64 pid,.int .i64 fd,.string s,.int .i64 n,.int .i64 ito],.int .i64 5] w fun e w'=>e=.returned (.bool true)/\Did13 Kp G q c B0 w0 w':=by
 have hk:=h.kn T;obtain⟨W0,hW0⟩:∃ W0,w.alloc (.cells #[.int .i64 kd,.int .i64 pid,.int .i64 fd,.string s,.int .i64 n,.int .i64 ito] 45)=W0:=⟨_,rfl⟩;have hD:=n13_of T h hW0;obtain⟨y0,y1,y2,y3,y4,y5⟩:=hD.out.x6;have hkd':=hkd;clear hkd h;obtain⟨a,r,S',D',P',O',cP,cR⟩:=bo13_seek (xg:=w.heap.size) (xl:=(xl13 kd pid fd s n ito)) (w0:=w0) (c:=c) T hk hq pid fd n ito hp hn;replace cP:=Wd cP;replace cR:=Wd cR;clear hk T hq hc hp hs hn ht;go_enter func47,ntmps47
 go_wp2_with fail
 refine (cP.out _ hD.out).mono ?_;rintro e w1 ⟨rfl,hD1⟩;replace hD1:=Wd hD1;obtain⟨q0,q1,q2,q3,q4,q5⟩:=hD1.out.x6;go_wp2_with fail
 refine (cR.out _ hD1.out).mono ?_;rintro e w2 ⟨rfl,hD2⟩;replace hD2:=Wd hD2;go_wp2_with fail
 go_ret
 exact⟨rfl,S',D',P',O',hD2.out.b⟩
theorem more_6 (T:Ties Kp G B0)(hq:q<59998)(hc:c<60000)(kd pid fd n ito:Int)(s:ByteArray)(hkd:I64 kd)(hp:I64 pid)(hs:s.size<=maxLen)(hn:I64 n)(ht:I64 ito)(w:World)(h:B13 Kp G q c S D P O S D P O B0 w0 w) :
 Calls prog 47 #[.pointer (some ⟨Kp.tg,0,none⟩),.pointer (some ⟨Kp.g,0,none⟩),.pointer (some ⟨G.d,0,none⟩),.agg #[.int .i64 kd,.int .i64 pid,.int .i64 fd,.string s,.int .i64 n,.int .i64 ito],.int .i64 6] w fun e w'=>e=.returned (.bool true)/\Did13 Kp G q c B0 w0 w':=by
 have hk:=h.kn T;obtain⟨W0,hW0⟩:∃ W0,w.alloc (.cells #[.int .i64 kd,.int .i64 pid,.int .i64 fd,.string s,.int .i64 n,.int .i64 ito] 45)=W0:=⟨_,rfl⟩;have hD:=n13_of T h hW0;obtain⟨y0,y1,y2,y3,y4,y5⟩:=hD.out.x6;have hkd':=hkd;clear hkd h;have hB2:=T.b2;obtain⟨r,S',D',P',O',cP,cR⟩:=bo13_trunc (xg:=w.heap.size) (xl:=(xl13 kd pid fd s n ito)) (w0:=w0) (c:=c) T hk hq pid fd n hp hn;replace cP:=Wd cP;replace cR:=Wd cR;clear hk T hq hc hp hs hn ht;go_enter func47,ntmps47
 go_wp2_with fail
 refine wp_region_held_drew (S:=(fun w'=>Blk w' w.heap.size 45 (xl13 kd pid fd s n ito)/\w'.cell? ⟨G.d,1,none⟩=some (.pointer (some ⟨G.rt,0,none⟩)))) (by kernel_rfl) hD.out.two (fun hHeld=>?_);refine wt (i:=0) (v:=.pointer (some ⟨Kp.g,0,none⟩)) hHeld ?_;refine wt (i:=1) (v:=.pointer (some ⟨w.heap.size,1,none⟩)) hHeld ?_;refine wt (i:=2) (v:=.int .i64 pid) hHeld ?_ (hv:=fun w0 s1=>by (have q:=Blk.cell (j:=1) s1.1 rfl;go_simp));refine wt (i:=3) (v:=.pointer (some ⟨w.heap.size,2,none⟩)) hHeld ?_;refine wt (i:=4) (v:=.int .i64 fd) hHeld ?_ (hv:=fun w0 s1=>by (have q:=Blk.cell (j:=2) s1.1 rfl;go_simp));refine wt (i:=5) (v:=.pointer (some ⟨w.heap.size,4,none⟩)) hHeld ?_;refine wt (i:=6) (v:=.int .i64 n) hHeld ?_ (hv:=fun w0 s1=>by (have q:=Blk.cell (j:=4) s1.1 rfl;go_simp));refine wt (i:=8) (v:=.pointer (some ⟨G.d,0,none⟩)) hHeld ?_;refine wt (i:=9) (v:=.pointer (some ⟨w.heap.size,1,none⟩)) hHeld ?_;refine wt (i:=10) (v:=.int .i64 pid) hHeld ?_ (hv:=fun w0 s1=>by (have q:=Blk.cell (j:=1) s1.1 rfl;go_simp));refine wt (i:=11) (v:=.pointer (some ⟨w.heap.size,2,none⟩)) hHeld ?_;refine wt (i:=12) (v:=.int .i64 fd) hHeld ?_ (hv:=fun w0 s1=>by (have q:=Blk.cell (j:=2) s1.1 rfl;go_simp));refine wt (i:=13) (v:=.pointer (some ⟨w.heap.size,4,none⟩)) hHeld ?_;refine wt (i:=14) (v:=.int .i64 n) hHeld ?_ (hv:=fun w0 s1=>by (have q:=Blk.cell (j:=4) s1.1 rfl;go_simp));refine wpAnyH_ready (rs:=[7]) (by kernel_rfl) (by simp) ?_;refine AllReadyH.cons rfl (fun K hK=>?_) AllReadyH.nil;go_simp
 refine (cP.out _ (hD.out.drew hB2)).mono ?_;rintro e w1 ⟨rfl,hD1⟩;replace hD1:=Wd hD1;refine hK.out _ _ hD1.out.two (fun hHeld1=>?_);clear hK K
 try simp only[Act.put,List.setIfInBounds_toArray,List.set_cons_zero,List.set_cons_succ,List.getElem_toArray,List.getElem_cons_zero,List.getElem_cons_succ]
 refine wpAnyH_ready (rs:=[15]) (by kernel_rfl) (by simp) ?_;refine AllReadyH.cons rfl (fun K hK=>?_) AllReadyH.nil;go_simp
 refine (cR.out _ hD1.out).mono ?_;rintro e w2 ⟨rfl,hD2⟩;replace hD2:=Wd hD2;refine hK.out _ _ hD2.out.two (fun hHeld2=>?_);clear hK K
 try simp only[Act.put,List.setIfInBounds_toArray,List.set_cons_zero,List.set_cons_succ,List.getElem_toArray,List.getElem_cons_zero,List.getElem_cons_succ]
 refine wt (i:=16) (v:=.bool true) hHeld2 ?_;refine wt (i:=17) (v:=.bool true) hHeld2 ?_;refine wpAnyH_done (by kernel_rfl) ?_ _;go_wp2_with fail
 go_ret
 exact⟨rfl,S',D',P',O',hD2.out.b⟩
theorem more_7 (T:Ties Kp G B0)(hq:q<59998)(hc:c<60000)(kd pid fd n ito:Int)(s:ByteArray)(hkd:I64 kd)(hp:I64 pid)(hs:s.size<=maxLen)(hn:I64 n)(ht:I64 ito)(w:World)(h:B13 Kp G q c S D P O S D P O B0 w0 w) :
 Calls prog 47 #[.pointer (some ⟨Kp.tg,0,none⟩),.pointer (some ⟨Kp.g,0,none⟩),.pointer (some ⟨G.d,0,none⟩),.agg #[.int .i64 kd,.int .i64 pid,.int .i64 fd,.string s,.int .i64 n,.int .i64 ito],.int .i64 7] w fun e w'=>e=.returned (.bool true)/\Did13 Kp G q c B0 w0 w':=by
 have hk:=h.kn T;obtain⟨W0,hW0⟩:∃ W0,w.alloc (.cells #[.int .i64 kd,.int .i64 pid,.int .i64 fd,.string s,.int .i64 n,.int .i64 ito] 45)=W0:=⟨_,rfl⟩;have hD:=n13_of T h hW0;obtain⟨y0,y1,y2,y3,y4,y5⟩:=hD.out.x6;have hkd':=hkd;clear hkd h;have hB2:=T.b2;obtain⟨r,S',D',P',O',cP,cR⟩:=bo13_add (xg:=w.heap.size) (xl:=(xl13 kd pid fd s n ito)) (w0:=w0) (c:=c) T hk hq pid hp;replace cP:=Wd cP;replace cR:=Wd cR;clear hk T hq hc hp hs hn ht;go_enter func47,ntmps47
 go_wp2_with fail
 refine wp_region_held_drew (S:=(fun w'=>Blk w' w.heap.size 45 (xl13 kd pid fd s n ito)/\w'.cell? ⟨G.d,1,none⟩=some (.pointer (some ⟨G.rt,0,none⟩)))) (by kernel_rfl) hD.out.two (fun hHeld=>?_);refine wt (i:=0) (v:=.pointer (some ⟨Kp.g,0,none⟩)) hHeld ?_;refine wt (i:=1) (v:=.pointer (some ⟨w.heap.size,1,none⟩)) hHeld ?_;refine wt (i:=2) (v:=.int .i64 pid) hHeld ?_ (hv:=fun w0 s1=>by (have q:=Blk.cell (j:=1) s1.1 rfl;go_simp));refine wt (i:=4) (v:=.pointer (some ⟨G.d,0,none⟩)) hHeld ?_;refine wt (i:=5) (v:=.pointer (some ⟨w.heap.size,1,none⟩)) hHeld ?_;refine wt (i:=6) (v:=.int .i64 pid) hHeld ?_ (hv:=fun w0 s1=>by (have q:=Blk.cell (j:=1) s1.1 rfl;go_simp));refine wpAnyH_ready (rs:=[3]) (by kernel_rfl) (by simp) ?_;refine AllReadyH.cons rfl (fun K hK=>?_) AllReadyH.nil;go_simp
 refine (cP.out _ (hD.out.drew hB2)).mono ?_;rintro e w1 ⟨rfl,hD1⟩;replace hD1:=Wd hD1;refine hK.out _ _ hD1.out.two (fun hHeld1=>?_);clear hK K
 try simp only[Act.put,List.setIfInBounds_toArray,List.set_cons_zero,List.set_cons_succ,List.getElem_toArray,List.getElem_cons_zero,List.getElem_cons_succ]
 refine wpAnyH_ready (rs:=[7]) (by kernel_rfl) (by simp) ?_;refine AllReadyH.cons rfl (fun K hK=>?_) AllReadyH.nil;go_simp
 refine (cR.out _ hD1.out).mono ?_;rintro e w2 ⟨rfl,hD2⟩;replace hD2:=Wd hD2;refine hK.out _ _ hD2.out.two (fun hHeld2=>?_);clear hK K
 try simp only[Act.put,List.setIfInBounds_toArray,List.set_cons_zero,List.set_cons_succ,List.getElem_toArray,List.getElem_cons_zero,List.getElem_cons_succ]
 refine wt (i:=8) (v:=.bool true) hHeld2 ?_;refine wt (i:=9) (v:=.bool true) hHeld2 ?_;refine wpAnyH_done (by kernel_rfl) ?_ _;go_wp2_with fail
 go_ret
 exact⟨rfl,S',D',P',O',hD2.out.b⟩
theorem more_8 (T:Ties Kp G B0)(hq:q<59998)(hc:c<60000)(kd pid fd n ito:Int)(s:ByteArray)(hkd:I64 kd)(hp:I64 pid)(hs:s.size<=maxLen)(hn:I64 n)(ht:I64 ito)(w:World)(h:B13 Kp G q c S D P O S D P O B0 w0 w) :
 Calls prog 47 #[.pointer (some ⟨Kp.tg,0,none⟩),.pointer (some ⟨Kp.g,0,none⟩),.pointer (some ⟨G.d,0,none⟩),.agg #[.int .i64 kd,.int .i64 pid,.int .i64 fd,.string s,.int .i64 n,.int .i64 ito],.int .i64 8] w fun e w'=>e=.returned (.bool true)/\Did13 Kp G q c B0 w0 w':=by
 have hk:=h.kn T;obtain⟨W0,hW0⟩:∃ W0,w.alloc (.cells #[.int .i64 kd,.int .i64 pid,.int .i64 fd,.string s,.int .i64 n,.int .i64 ito] 45)=W0:=⟨_,rfl⟩;have hD:=n13_of T h hW0;obtain⟨y0,y1,y2,y3,y4,y5⟩:=hD.out.x6;have hkd':=hkd;clear hkd h;have hB2:=T.b2;obtain⟨r,S',D',P',O',cP,cR⟩:=bo13_clone (xg:=w.heap.size) (xl:=(xl13 kd pid fd s n ito)) (w0:=w0) (c:=c) T hk hq pid ito hp ht;replace cP:=Wd cP;replace cR:=Wd cR;clear hk T hq hc hp hs hn ht;go_enter func47,ntmps47
 go_wp2_with fail
 refine wp_region_held_drew (S:=(fun w'=>Blk w' w.heap.size 45 (xl13 kd pid fd s n ito)/\w'.cell? ⟨G.d,1,none⟩=some (.pointer (some ⟨G.rt,0,none⟩)))) (by kernel_rfl) hD.out.two (fun hHeld=>?_);refine wt (i:=0) (v:=.pointer (some ⟨Kp.g,0,none⟩)) hHeld ?_;refine wt (i:=1) (v:=.pointer (some ⟨w.heap.size,1,none⟩)) hHeld ?_;refine wt (i:=2) (v:=.int .i64 pid) hHeld ?_ (hv:=fun w0 s1=>by (have q:=Blk.cell (j:=1) s1.1 rfl;go_simp));refine wt (i:=3) (v:=.pointer (some ⟨w.heap.size,5,none⟩)) hHeld ?_;refine wt (i:=4) (v:=.int .i64 ito) hHeld ?_ (hv:=fun w0 s1=>by (have q:=Blk.cell (j:=5) s1.1 rfl;go_simp));refine wt (i:=6) (v:=.pointer (some ⟨G.d,0,none⟩)) hHeld ?_;refine wt (i:=7) (v:=.pointer (some ⟨w.heap.size,1,none⟩)) hHeld ?_;refine wt (i:=8) (v:=.int .i64 pid) hHeld ?_ (hv:=fun w0 s1=>by (have q:=Blk.cell (j:=1) s1.1 rfl;go_simp));refine wt (i:=9) (v:=.pointer (some ⟨w.heap.size,5,none⟩)) hHeld ?_;refine wt (i:=10) (v:=.int .i64 ito) hHeld ?_ (hv:=fun w0 s1=>by (have q:=Blk.cell (j:=5) s1.1 rfl;go_simp));refine wpAnyH_ready (rs:=[5]) (by kernel_rfl) (by simp) ?_;refine AllReadyH.cons rfl (fun K hK=>?_) AllReadyH.nil;go_simp
 refine (cP.out _ (hD.out.drew hB2)).mono ?_;rintro e w1 ⟨rfl,hD1⟩;replace hD1:=Wd hD1;refine hK.out _ _ hD1.out.two (fun hHeld1=>?_);clear hK K
 try simp only[Act.put,List.setIfInBounds_toArray,List.set_cons_zero,List.set_cons_succ,List.getElem_toArray,List.getElem_cons_zero,List.getElem_cons_succ]
 refine wpAnyH_ready (rs:=[11]) (by kernel_rfl) (by simp) ?_;refine AllReadyH.cons rfl (fun K hK=>?_) AllReadyH.nil;go_simp
 refine (cR.out _ hD1.out).mono ?_;rintro e w2 ⟨rfl,hD2⟩;replace hD2:=Wd hD2;refine hK.out _ _ hD2.out.two (fun hHeld2=>?_);clear hK K
 try simp only[Act.put,List.setIfInBounds_toArray,List.set_cons_zero,List.set_cons_succ,List.getElem_toArray,List.getElem_cons_zero,List.getElem_cons_succ]
 refine wt (i:=12) (v:=.bool true) hHeld2 ?_;refine wt (i:=13) (v:=.bool true) hHeld2 ?_;refine wpAnyH_done (by kernel_rfl) ?_ _;go_wp2_with fail
 go_ret
 exact⟨rfl,S',D',P',O',hD2.out.b⟩
theorem more_9 (T:Ties Kp G B0)(hq:q<59998)(hc:c<60000)(kd pid fd n ito:Int)(s:ByteArray)(hkd:I64 kd)(hp:I64 pid)(hs:s.size<=maxLen)(hn:I64 n)(ht:I64 ito)(w:World)(h:B13 Kp G q c S D P O S D P O B0 w0 w) :
 Calls prog 47 #[.pointer (some ⟨Kp.tg,0,none⟩),.pointer (some ⟨Kp.g,0,none⟩),.pointer (some ⟨G.d,0,none⟩),.agg #[.int .i64 kd,.int .i64 pid,.int .i64 fd,.string s,.int .i64 n,.int .i64 ito],.int .i64 9] w fun e w'=>e=.returned (.bool true)/\Did13 Kp G q c B0 w0 w':=by
 have hk:=h.kn T;obtain⟨W0,hW0⟩:∃ W0,w.alloc (.cells #[.int .i64 kd,.int .i64 pid,.int .i64 fd,.string s,.int .i64 n,.int .i64 ito] 45)=W0:=⟨_,rfl⟩;have hD:=n13_of T h hW0;obtain⟨y0,y1,y2,y3,y4,y5⟩:=hD.out.x6;have hkd':=hkd;clear hkd h;have hB2:=T.b2;obtain⟨r,S',D',P',O',cP,cR⟩:=bo13_drop (xg:=w.heap.size) (xl:=(xl13 kd pid fd s n ito)) (w0:=w0) (c:=c) T hk hq pid hp;replace cP:=Wd cP;replace cR:=Wd cR;clear hk T hq hc hp hs hn ht;go_enter func47,ntmps47
 go_wp2_with fail
 refine wp_region_held_drew (S:=(fun w'=>Blk w' w.heap.size 45 (xl13 kd pid fd s n ito)/\w'.cell? ⟨G.d,1,none⟩=some (.pointer (some ⟨G.rt,0,none⟩)))) (by kernel_rfl) hD.out.two (fun hHeld=>?_);refine wt (i:=0) (v:=.pointer (some ⟨Kp.g,0,none⟩)) hHeld ?_;refine wt (i:=1) (v:=.pointer (some ⟨w.heap.size,1,none⟩)) hHeld ?_;refine wt (i:=2) (v:=.int .i64 pid) hHeld ?_ (hv:=fun w0 s1=>by (have q:=Blk.cell (j:=1) s1.1 rfl;go_simp));refine wt (i:=4) (v:=.pointer (some ⟨G.d,0,none⟩)) hHeld ?_;refine wt (i:=5) (v:=.pointer (some ⟨w.heap.size,1,none⟩)) hHeld ?_;refine wt (i:=6) (v:=.int .i64 pid) hHeld ?_ (hv:=fun w0 s1=>by (have q:=Blk.cell (j:=1) s1.1 rfl;go_simp));refine wpAnyH_ready (rs:=[3]) (by kernel_rfl) (by simp) ?_;refine AllReadyH.cons rfl (fun K hK=>?_) AllReadyH.nil;go_simp
 refine (cP.out _ (hD.out.drew hB2)).mono ?_;rintro e w1 ⟨rfl,hD1⟩;replace hD1:=Wd hD1;refine hK.out _ _ hD1.out.two (fun hHeld1=>?_);clear hK K
 try simp only[Act.put,List.setIfInBounds_toArray,List.set_cons_zero,List.set_cons_succ,List.getElem_toArray,List.getElem_cons_zero,List.getElem_cons_succ]
 refine wpAnyH_ready (rs:=[7]) (by kernel_rfl) (by simp) ?_;refine AllReadyH.cons rfl (fun K hK=>?_) AllReadyH.nil;go_simp
 refine (cR.out _ hD1.out).mono ?_;rintro e w2 ⟨rfl,hD2⟩;replace hD2:=Wd hD2;refine hK.out _ _ hD2.out.two (fun hHeld2=>?_);clear hK K
 try simp only[Act.put,List.setIfInBounds_toArray,List.set_cons_zero,List.set_cons_succ,List.getElem_toArray,List.getElem_cons_zero,List.getElem_cons_succ]
 refine wt (i:=8) (v:=.bool true) hHeld2 ?_;refine wt (i:=9) (v:=.bool true) hHeld2 ?_;refine wpAnyH_done (by kernel_rfl) ?_ _;go_wp2_with fail
 go_ret
 exact⟨rfl,S',D',P',O',hD2.out.b⟩
theorem more_10 (T:Ties Kp G B0)(hq:q<59998)(hc:c<60000)(kd pid fd n ito:Int)(s:ByteArray)(hkd:I64 kd)(hp:I64 pid)(hs:s.size<=maxLen)(hn:I64 n)(ht:I64 ito)(w:World)(h:B13 Kp G q c S D P O S D P O B0 w0 w) :
 Calls prog 47 #[.pointer (some ⟨Kp.tg,0,none⟩),.pointer (some ⟨Kp.g,0,none⟩),.pointer (some ⟨G.d,0,none⟩),.agg #[.int .i64 kd,.int .i64 pid,.int .i64 fd,.string s,.int .i64 n,.int .i64 ito],.int .i64 10] w fun e w'=>e=.returned (.bool true)/\Did13 Kp G q c B0 w0 w':=by
 have hk:=h.kn T;obtain⟨W0,hW0⟩:∃ W0,w.alloc (.cells #[.int .i64 kd,.int .i64 pid,.int .i64 fd,.string s,.int .i64 n,.int .i64 ito] 45)=W0:=⟨_,rfl⟩;have hD:=n13_of T h hW0;obtain⟨y0,y1,y2,y3,y4,y5⟩:=hD.out.x6;have hkd':=hkd;clear hkd h;have cP:=Wd (fun W (hN:N13 Kp G w.heap.size (xl13 kd pid fd s n ito) B0 w0 q c S D P O S D P O W)=>DC_stat_s pid fd W hN.b.ds hp);have cR:=Wd (fun W (hN:N13 Kp G w.heap.size (xl13 kd pid fd s n ito) B0 w0 q c S D P O S D P O W)=>stat_d pid fd W hN.b.rt hk);obtain⟨a1,a2,a3,a4,a5,a6,he⟩:=stR_form S P O pid fd;obtain⟨r,hr⟩:∃ r,(DC.stR S P O pid fd).2=r:=⟨_,rfl⟩;rw[he,hr] at cP cR;replace cP:=Wd (show ∀ W,N13 Kp G w.heap.size (xl13 kd pid fd s n ito) B0 w0 q c S D P O S D P O W->Calls prog 95 #[.pointer (some ⟨Kp.g,0,none⟩),.int .i64 pid,.int .i64 fd] W fun e w'=>e=.returned (.tuple #[.agg #[.int .i64 a1,.int .i64 a2,.int .i64 a3,.int .i64 a4,.int .i64 a5,.int .i64 a6],.int .i64 r])/\Below W.heap.size W w' from cP.out);replace cR:=Wd (show ∀ W,N13 Kp G w.heap.size (xl13 kd pid fd s n ito) B0 w0 q c S D P O S D P O W->Calls prog 96 #[.pointer (some ⟨G.d,0,none⟩),.int .i64 pid,.int .i64 fd] W fun e w'=>e=.returned (.tuple #[.agg #[.int .i64 a1,.int .i64 a2,.int .i64 a3,.int .i64 a4,.int .i64 a5,.int .i64 a6],.int .i64 r])/\Below W.heap.size W w' from cR.out);have hB2:=T.b2;replace hq:=Wd hq;clear hk T hc hp hs hn ht he hr;go_enter func47,ntmps47
 go_wp2_with fail
 refine (cP.out _ hD.out).mono ?_;rintro e w1 ⟨rfl,b1⟩;have hD1:=Wd (hD.out.keep hB2 b1);obtain⟨W1,hW1⟩:∃ W1,w1.alloc (.cells #[.int .i64 a1,.int .i64 a2,.int .i64 a3,.int .i64 a4,.int .i64 a5,.int .i64 a6] 65)=W1:=⟨_,rfl⟩;have hDa:=Wd (hD1.out.keep hB2 (show Below w1.heap.size w1 W1 by rw[<-hW1];exact (Below.refl _ _).alloc (Nat.le_refl _) _));have hSa:Hid (Blk W1 w1.heap.size 65 [.int .i64 a1,.int .i64 a2,.int .i64 a3,.int .i64 a4,.int .i64 a5,.int .i64 a6]):=Wd (by rw[<-hW1];exact Blk.new w1 _ [.int .i64 a1,.int .i64 a2,.int .i64 a3,.int .i64 a4,.int .i64 a5,.int .i64 a6] rfl);have q1:=hDa.out.x.cell (j:=1) rfl;have q2:=hDa.out.x.cell (j:=2) rfl;clear b1 hD1 y0 y1 y2 y3 y4 y5;go_wp2_with fail
 replace hW1:=Wd hW1;refine (cR.out _ hDa.out).mono ?_;rintro e w2 ⟨rfl,b2⟩;obtain⟨W2,hW2⟩:∃ W2,w2.alloc (.cells #[.int .i64 a1,.int .i64 a2,.int .i64 a3,.int .i64 a4,.int .i64 a5,.int .i64 a6] 65)=W2:=⟨_,rfl⟩;have hb3:Below w2.heap.size w2 W2:=by rw[<-hW2];exact (Below.refl _ _).alloc (Nat.le_refl _) _
 have hD2:=Wd ((hDa.out.keep hB2 b2).keep hB2 hb3);have hSa2:=(hSa.out.keep b2).keep hb3;have hSb:Blk W2 w2.heap.size 65 [.int .i64 a1,.int .i64 a2,.int .i64 a3,.int .i64 a4,.int .i64 a5,.int .i64 a6]:=by rw[<-hW2];exact Blk.new w2 _ [.int .i64 a1,.int .i64 a2,.int .i64 a3,.int .i64 a4,.int .i64 a5,.int .i64 a6] rfl
 have s0:=hSa2.cell (j:=0) rfl;have t0:=hSb.cell (j:=0) rfl;have s1:=hSa2.cell (j:=1) rfl;have t1:=hSb.cell (j:=1) rfl;have s2:=hSa2.cell (j:=2) rfl;have t2:=hSb.cell (j:=2) rfl;have s3:=hSa2.cell (j:=3) rfl;have t3:=hSb.cell (j:=3) rfl;have s4:=hSa2.cell (j:=4) rfl;have t4:=hSb.cell (j:=4) rfl;have s5:=hSa2.cell (j:=5) rfl;have t5:=hSb.cell (j:=5) rfl;clear b2 hb3 hSa2 hSb hSa q1 q2;go_wp2_with fail
 replace hW2:=Wd hW2;go_ret
 exact⟨rfl,S,D,P,O,(hD2.out.more (Nat.le_add_right q 2) (by have:=hq.out;omega) (Nat.le_add_right c 2)).b⟩
theorem more_11 (T:Ties Kp G B0)(hq:q<59998)(hc:c<60000)(kd pid fd n ito:Int)(s:ByteArray)(hkd:I64 kd)(hp:I64 pid)(hs:s.size<=maxLen)(hn:I64 n)(ht:I64 ito)(w:World)(h:B13 Kp G q c S D P O S D P O B0 w0 w) :
 Calls prog 47 #[.pointer (some ⟨Kp.tg,0,none⟩),.pointer (some ⟨Kp.g,0,none⟩),.pointer (some ⟨G.d,0,none⟩),.agg #[.int .i64 kd,.int .i64 pid,.int .i64 fd,.string s,.int .i64 n,.int .i64 ito],.int .i64 11] w fun e w'=>e=.returned (.bool true)/\Did13 Kp G q c B0 w0 w':=by
 have hk:=h.kn T;obtain⟨W0,hW0⟩:∃ W0,w.alloc (.cells #[.int .i64 kd,.int .i64 pid,.int .i64 fd,.string s,.int .i64 n,.int .i64 ito] 45)=W0:=⟨_,rfl⟩;have hD:=n13_of T h hW0;obtain⟨y0,y1,y2,y3,y4,y5⟩:=hD.out.x6;have hkd':=hkd;clear hkd h;have hB2:=T.b2;obtain⟨r,S',D',P',O',cP,cR⟩:=bo13_unlink (xg:=w.heap.size) (xl:=(xl13 kd pid fd s n ito)) (w0:=w0) (c:=c) T hk hq s hs;replace cP:=Wd cP;replace cR:=Wd cR;clear hk T hq hc hp hs hn ht;go_enter func47,ntmps47
 go_wp2_with fail
 refine wp_region_held_drew (S:=(fun w'=>Blk w' w.heap.size 45 (xl13 kd pid fd s n ito)/\w'.cell? ⟨G.d,1,none⟩=some (.pointer (some ⟨G.rt,0,none⟩)))) (by kernel_rfl) hD.out.two (fun hHeld=>?_);refine wt (i:=0) (v:=.pointer (some ⟨Kp.tg,0,none⟩)) hHeld ?_;refine wt (i:=1) (v:=.pointer (some ⟨w.heap.size,3,none⟩)) hHeld ?_;refine wt (i:=2) (v:=.string s) hHeld ?_ (hv:=fun w0 s1=>by (have q:=Blk.cell (j:=3) s1.1 rfl;go_simp));refine wt (i:=4) (v:=.pointer (some ⟨G.d,0,none⟩)) hHeld ?_;refine wt (i:=5) (v:=.pointer (some ⟨G.d,0,none⟩)) hHeld ?_;refine wt (i:=6) (v:=.pointer (some ⟨G.d,1,none⟩)) hHeld ?_;refine wt (i:=7) (v:=.pointer (some ⟨G.rt,0,none⟩)) hHeld ?_ (hv:=fun w0 s1=>by (have q:=s1.2;go_simp));refine wt (i:=8) (v:=.pointer (some ⟨w.heap.size,3,none⟩)) hHeld ?_;refine wt (i:=9) (v:=.string s) hHeld ?_ (hv:=fun w0 s1=>by (have q:=Blk.cell (j:=3) s1.1 rfl;go_simp));refine wpAnyH_ready (rs:=[3]) (by kernel_rfl) (by simp) ?_;refine AllReadyH.cons rfl (fun K hK=>?_) AllReadyH.nil;go_simp
 refine (cP.out _ (hD.out.drew hB2)).mono ?_;rintro e w1 ⟨rfl,hD1⟩;replace hD1:=Wd hD1;refine hK.out _ _ hD1.out.two (fun hHeld1=>?_);clear hK K
 try simp only[Act.put,List.setIfInBounds_toArray,List.set_cons_zero,List.set_cons_succ,List.getElem_toArray,List.getElem_cons_zero,List.getElem_cons_succ]
 refine wpAnyH_ready (rs:=[10]) (by kernel_rfl) (by simp) ?_;refine AllReadyH.cons rfl (fun K hK=>?_) AllReadyH.nil;go_simp
 refine (cR.out _ hD1.out).mono ?_;rintro e w2 ⟨rfl,hD2⟩;replace hD2:=Wd hD2;refine hK.out _ _ hD2.out.two (fun hHeld2=>?_);clear hK K
 try simp only[Act.put,List.setIfInBounds_toArray,List.set_cons_zero,List.set_cons_succ,List.getElem_toArray,List.getElem_cons_zero,List.getElem_cons_succ]
 refine wt (i:=11) (v:=.bool true) hHeld2 ?_;refine wt (i:=12) (v:=.bool true) hHeld2 ?_;refine wpAnyH_done (by kernel_rfl) ?_ _;go_wp2_with fail
 go_ret
 exact⟨rfl,S',D',P',O',hD2.out.b⟩
theorem more_12 (T:Ties Kp G B0)(hq:q<59998)(hc:c<60000)(kd pid fd n ito:Int)(s:ByteArray)(hkd:I64 kd)(hp:I64 pid)(hs:s.size<=maxLen)(hn:I64 n)(ht:I64 ito)(w:World)(h:B13 Kp G q c S D P O S D P O B0 w0 w) :
 Calls prog 47 #[.pointer (some ⟨Kp.tg,0,none⟩),.pointer (some ⟨Kp.g,0,none⟩),.pointer (some ⟨G.d,0,none⟩),.agg #[.int .i64 kd,.int .i64 pid,.int .i64 fd,.string s,.int .i64 n,.int .i64 ito],.int .i64 12] w fun e w'=>e=.returned (.bool true)/\Did13 Kp G q c B0 w0 w':=by
 have hk:=h.kn T;obtain⟨W0,hW0⟩:∃ W0,w.alloc (.cells #[.int .i64 kd,.int .i64 pid,.int .i64 fd,.string s,.int .i64 n,.int .i64 ito] 45)=W0:=⟨_,rfl⟩;have hD:=n13_of T h hW0;obtain⟨y0,y1,y2,y3,y4,y5⟩:=hD.out.x6;have hkd':=hkd;clear hkd h;have hB2:=T.b2;obtain⟨r,S',D',P',O',cP,cR⟩:=bo13_link (xg:=w.heap.size) (xl:=(xl13 kd pid fd s n ito)) (w0:=w0) (c:=c) T hk hq hc s ⟨#[108]⟩ hs (by decide);replace cP:=Wd cP;replace cR:=Wd cR;clear hk T hq hc hp hs hn ht;go_enter func47,ntmps47
 go_wp2_with fail
 refine wp_region_held_drew (S:=(fun w'=>Blk w' w.heap.size 45 (xl13 kd pid fd s n ito)/\w'.cell? ⟨G.d,1,none⟩=some (.pointer (some ⟨G.rt,0,none⟩)))) (by kernel_rfl) hD.out.two (fun hHeld=>?_);refine wt (i:=0) (v:=.pointer (some ⟨Kp.tg,0,none⟩)) hHeld ?_;refine wt (i:=1) (v:=.pointer (some ⟨w.heap.size,3,none⟩)) hHeld ?_;refine wt (i:=2) (v:=.string s) hHeld ?_ (hv:=fun w0 s1=>by (have q:=Blk.cell (j:=3) s1.1 rfl;go_simp));refine wt (i:=4) (v:=.pointer (some ⟨G.d,0,none⟩)) hHeld ?_;refine wt (i:=5) (v:=.pointer (some ⟨G.d,0,none⟩)) hHeld ?_;refine wt (i:=6) (v:=.pointer (some ⟨G.d,1,none⟩)) hHeld ?_;refine wt (i:=7) (v:=.pointer (some ⟨G.rt,0,none⟩)) hHeld ?_ (hv:=fun w0 s1=>by (have q:=s1.2;go_simp));refine wt (i:=8) (v:=.pointer (some ⟨w.heap.size,3,none⟩)) hHeld ?_;refine wt (i:=9) (v:=.string s) hHeld ?_ (hv:=fun w0 s1=>by (have q:=Blk.cell (j:=3) s1.1 rfl;go_simp));refine wpAnyH_ready (rs:=[3]) (by kernel_rfl) (by simp) ?_;refine AllReadyH.cons rfl (fun K hK=>?_) AllReadyH.nil;go_simp
 refine (cP.out _ (hD.out.drew hB2)).mono ?_;rintro e w1 ⟨rfl,hD1⟩;replace hD1:=Wd hD1;refine hK.out _ _ hD1.out.two (fun hHeld1=>?_);clear hK K
 try simp only[Act.put,List.setIfInBounds_toArray,List.set_cons_zero,List.set_cons_succ,List.getElem_toArray,List.getElem_cons_zero,List.getElem_cons_succ]
 refine wpAnyH_ready (rs:=[10]) (by kernel_rfl) (by simp) ?_;refine AllReadyH.cons rfl (fun K hK=>?_) AllReadyH.nil;go_simp
 refine (cR.out _ hD1.out).mono ?_;rintro e w2 ⟨rfl,hD2⟩;replace hD2:=Wd hD2;refine hK.out _ _ hD2.out.two (fun hHeld2=>?_);clear hK K
 try simp only[Act.put,List.setIfInBounds_toArray,List.set_cons_zero,List.set_cons_succ,List.getElem_toArray,List.getElem_cons_zero,List.getElem_cons_succ]
 refine wt (i:=11) (v:=.bool true) hHeld2 ?_;refine wt (i:=12) (v:=.bool true) hHeld2 ?_;refine wpAnyH_done (by kernel_rfl) ?_ _;go_wp2_with fail
 go_ret
 exact⟨rfl,S',D',P',O',hD2.out.b⟩
theorem does_0 (T:Ties Kp G B0)(hq:q<59998)(hc:c<60000)(kd pid fd n ito:Int)(s:ByteArray)(hkd:I64 kd)(hp:I64 pid)(hs:s.size<=maxLen)(hn:I64 n)(ht:I64 ito)(e0:((kd.tmod 13)+13).tmod 13=0)(w:World)(h:B13 Kp G q c S D P O S D P O B0 w0 w) :
 Calls prog 16 #[.pointer (some ⟨Kp.tg,0,none⟩),.pointer (some ⟨Kp.g,0,none⟩),.pointer (some ⟨G.d,0,none⟩),.agg #[.int .i64 kd,.int .i64 pid,.int .i64 fd,.string s,.int .i64 n,.int .i64 ito]] w fun e w'=>e=.returned (.bool true)/\Did13 Kp G q c B0 w0 w':=by
 have hk:=h.kn T;obtain⟨W0,hW0⟩:∃ W0,w.alloc (.cells #[.int .i64 kd,.int .i64 pid,.int .i64 fd,.string s,.int .i64 n,.int .i64 ito] 45)=W0:=⟨_,rfl⟩;have hD:=n13_of T h hW0;obtain⟨y0,y1,y2,y3,y4,y5⟩:=hD.out.x6;have hkd':=hkd;clear hkd h;obtain⟨a,r,S',D',P',O',cP,cR⟩:=bo13_open (xg:=w.heap.size) (xl:=(xl13 kd pid fd s n ito)) (w0:=w0) (c:=c) T hk hq hc pid s n hp hs hn;replace cP:=Wd cP;replace cR:=Wd cR;clear hk T hq hc hp hs hn ht;obtain⟨hcs,hk1,hk2⟩:=kind13 kd;obtain⟨tm,htm⟩:∃ tm,kd.tmod 13=tm:=⟨_,rfl⟩;rw[htm] at hcs hk1 hk2 e0;go_enter func16,ntmps16
 go_wp2_with fail
 refine (cP.out _ hD.out).mono ?_;rintro e w1 ⟨rfl,hD1⟩;replace hD1:=Wd hD1;obtain⟨q0,q1,q2,q3,q4,q5⟩:=hD1.out.x6;go_wp2_with fail
 refine (cR.out _ hD1.out).mono ?_;rintro e w2 ⟨rfl,hD2⟩;replace hD2:=Wd hD2;go_wp2_with fail
 go_ret
 exact⟨rfl,S',D',P',O',hD2.out.b⟩
theorem does_1 (T:Ties Kp G B0)(hq:q<59998)(hc:c<60000)(kd pid fd n ito:Int)(s:ByteArray)(hkd:I64 kd)(hp:I64 pid)(hs:s.size<=maxLen)(hn:I64 n)(ht:I64 ito)(e0:((kd.tmod 13)+13).tmod 13=1)(w:World)(h:B13 Kp G q c S D P O S D P O B0 w0 w) :
 Calls prog 16 #[.pointer (some ⟨Kp.tg,0,none⟩),.pointer (some ⟨Kp.g,0,none⟩),.pointer (some ⟨G.d,0,none⟩),.agg #[.int .i64 kd,.int .i64 pid,.int .i64 fd,.string s,.int .i64 n,.int .i64 ito]] w fun e w'=>e=.returned (.bool true)/\Did13 Kp G q c B0 w0 w':=by
 have hk:=h.kn T;obtain⟨W0,hW0⟩:∃ W0,w.alloc (.cells #[.int .i64 kd,.int .i64 pid,.int .i64 fd,.string s,.int .i64 n,.int .i64 ito] 45)=W0:=⟨_,rfl⟩;have hD:=n13_of T h hW0;obtain⟨y0,y1,y2,y3,y4,y5⟩:=hD.out.x6;have hkd':=hkd;clear hkd h;have hB2:=T.b2;obtain⟨r,S',D',P',O',cP,cR⟩:=bo13_close (xg:=w.heap.size) (xl:=(xl13 kd pid fd s n ito)) (w0:=w0) (c:=c) T hk hq pid fd hp;replace cP:=Wd cP;replace cR:=Wd cR;clear hk T hq hc hp hs hn ht;obtain⟨hcs,hk1,hk2⟩:=kind13 kd;obtain⟨tm,htm⟩:∃ tm,kd.tmod 13=tm:=⟨_,rfl⟩;rw[htm] at hcs hk1 hk2 e0;go_enter func16,ntmps16
 go_wp2_with fail
 refine wp_region_held_drew (S:=(fun w'=>Blk w' w.heap.size 45 (xl13 kd pid fd s n ito)/\w'.cell? ⟨G.d,1,none⟩=some (.pointer (some ⟨G.rt,0,none⟩)))) (by kernel_rfl) hD.out.two (fun hHeld=>?_);refine wt (i:=0) (v:=.pointer (some ⟨Kp.g,0,none⟩)) hHeld ?_;refine wt (i:=1) (v:=.pointer (some ⟨w.heap.size,1,none⟩)) hHeld ?_;refine wt (i:=2) (v:=.int .i64 pid) hHeld ?_ (hv:=fun w0 s1=>by (have q:=Blk.cell (j:=1) s1.1 rfl;go_simp));refine wt (i:=3) (v:=.pointer (some ⟨w.heap.size,2,none⟩)) hHeld ?_;refine wt (i:=4) (v:=.int .i64 fd) hHeld ?_ (hv:=fun w0 s1=>by (have q:=Blk.cell (j:=2) s1.1 rfl;go_simp));refine wt (i:=6) (v:=.pointer (some ⟨G.d,0,none⟩)) hHeld ?_;refine wt (i:=7) (v:=.pointer (some ⟨w.heap.size,1,none⟩)) hHeld ?_;refine wt (i:=8) (v:=.int .i64 pid) hHeld ?_ (hv:=fun w0 s1=>by (have q:=Blk.cell (j:=1) s1.1 rfl;go_simp));refine wt (i:=9) (v:=.pointer (some ⟨w.heap.size,2,none⟩)) hHeld ?_;refine wt (i:=10) (v:=.int .i64 fd) hHeld ?_ (hv:=fun w0 s1=>by (have q:=Blk.cell (j:=2) s1.1 rfl;go_simp));refine wpAnyH_ready (rs:=[5]) (by kernel_rfl) (by simp) ?_;refine AllReadyH.cons rfl (fun K hK=>?_) AllReadyH.nil;go_simp
 refine (cP.out _ (hD.out.drew hB2)).mono ?_;rintro e w1 ⟨rfl,hD1⟩;replace hD1:=Wd hD1;refine hK.out _ _ hD1.out.two (fun hHeld1=>?_);clear hK K
 try simp only[Act.put,List.setIfInBounds_toArray,List.set_cons_zero,List.set_cons_succ,List.getElem_toArray,List.getElem_cons_zero,List.getElem_cons_succ]
 refine wpAnyH_ready (rs:=[11]) (by kernel_rfl) (by simp) ?_;refine AllReadyH.cons rfl (fun K hK=>?_) AllReadyH.nil;go_simp
 refine (cR.out _ hD1.out).mono ?_;rintro e w2 ⟨rfl,hD2⟩;replace hD2:=Wd hD2;refine hK.out _ _ hD2.out.two (fun hHeld2=>?_);clear hK K
 try simp only[Act.put,List.setIfInBounds_toArray,List.set_cons_zero,List.set_cons_succ,List.getElem_toArray,List.getElem_cons_zero,List.getElem_cons_succ]
 refine wt (i:=12) (v:=.bool true) hHeld2 ?_;refine wt (i:=13) (v:=.bool true) hHeld2 ?_;refine wpAnyH_done (by kernel_rfl) ?_ _;go_wp2_with fail
 go_ret
 exact⟨rfl,S',D',P',O',hD2.out.b⟩
theorem does_2 (T:Ties Kp G B0)(hq:q<59998)(hc:c<60000)(kd pid fd n ito:Int)(s:ByteArray)(hkd:I64 kd)(hp:I64 pid)(hs:s.size<=maxLen)(hn:I64 n)(ht:I64 ito)(e0:((kd.tmod 13)+13).tmod 13=2)(w:World)(h:B13 Kp G q c S D P O S D P O B0 w0 w) :
 Calls prog 16 #[.pointer (some ⟨Kp.tg,0,none⟩),.pointer (some ⟨Kp.g,0,none⟩),.pointer (some ⟨G.d,0,none⟩),.agg #[.int .i64 kd,.int .i64 pid,.int .i64 fd,.string s,.int .i64 n,.int .i64 ito]] w fun e w'=>e=.returned (.bool true)/\Did13 Kp G q c B0 w0 w':=by
 have hk:=h.kn T;obtain⟨W0,hW0⟩:∃ W0,w.alloc (.cells #[.int .i64 kd,.int .i64 pid,.int .i64 fd,.string s,.int .i64 n,.int .i64 ito] 45)=W0:=⟨_,rfl⟩;have hD:=n13_of T h hW0;obtain⟨y0,y1,y2,y3,y4,y5⟩:=hD.out.x6;have hkd':=hkd;clear hkd h;obtain⟨a,r,S',D',P',O',cP,cR⟩:=bo13_dup (xg:=w.heap.size) (xl:=(xl13 kd pid fd s n ito)) (w0:=w0) (c:=c) T hk hq pid fd hp;replace cP:=Wd cP;replace cR:=Wd cR;clear hk T hq hc hp hs hn ht;obtain⟨hcs,hk1,hk2⟩:=kind13 kd;obtain⟨tm,htm⟩:∃ tm,kd.tmod 13=tm:=⟨_,rfl⟩;rw[htm] at hcs hk1 hk2 e0;go_enter func16,ntmps16
 go_wp2_with fail
 refine (cP.out _ hD.out).mono ?_;rintro e w1 ⟨rfl,hD1⟩;replace hD1:=Wd hD1;obtain⟨q0,q1,q2,q3,q4,q5⟩:=hD1.out.x6;go_wp2_with fail
 refine (cR.out _ hD1.out).mono ?_;rintro e w2 ⟨rfl,hD2⟩;replace hD2:=Wd hD2;go_wp2_with fail
 go_ret
 exact⟨rfl,S',D',P',O',hD2.out.b⟩
theorem does_3 (T:Ties Kp G B0)(hq:q<59998)(hc:c<60000)(kd pid fd n ito:Int)(s:ByteArray)(hkd:I64 kd)(hp:I64 pid)(hs:s.size<=maxLen)(hn:I64 n)(ht:I64 ito)(e0:((kd.tmod 13)+13).tmod 13=3)(w:World)(h:B13 Kp G q c S D P O S D P O B0 w0 w) :
 Calls prog 16 #[.pointer (some ⟨Kp.tg,0,none⟩),.pointer (some ⟨Kp.g,0,none⟩),.pointer (some ⟨G.d,0,none⟩),.agg #[.int .i64 kd,.int .i64 pid,.int .i64 fd,.string s,.int .i64 n,.int .i64 ito]] w fun e w'=>e=.returned (.bool true)/\Did13 Kp G q c B0 w0 w':=by
 have hk:=h.kn T;obtain⟨W0,hW0⟩:∃ W0,w.alloc (.cells #[.int .i64 kd,.int .i64 pid,.int .i64 fd,.string s,.int .i64 n,.int .i64 ito] 45)=W0:=⟨_,rfl⟩;have hD:=n13_of T h hW0;obtain⟨y0,y1,y2,y3,y4,y5⟩:=hD.out.x6;have hkd':=hkd;clear hkd h;obtain⟨a,r,S',D',P',O',cP,cR⟩:=bo13_read (xg:=w.heap.size) (xl:=(xl13 kd pid fd s n ito)) (w0:=w0) (c:=c) T hk hq pid fd n hp hn;replace cP:=Wd cP;replace cR:=Wd cR;clear hk T hq hc hp hs hn ht;obtain⟨hcs,hk1,hk2⟩:=kind13 kd;obtain⟨tm,htm⟩:∃ tm,kd.tmod 13=tm:=⟨_,rfl⟩;rw[htm] at hcs hk1 hk2 e0;go_enter func16,ntmps16
 go_wp2_with fail
 refine (cP.out _ hD.out).mono ?_;rintro e w1 ⟨rfl,hD1⟩;replace hD1:=Wd hD1;obtain⟨q0,q1,q2,q3,q4,q5⟩:=hD1.out.x6;go_wp2_with fail
 refine (cR.out _ hD1.out).mono ?_;rintro e w2 ⟨rfl,hD2⟩;replace hD2:=Wd hD2;go_wp2_with fail
 go_ret
 exact⟨rfl,S',D',P',O',hD2.out.b⟩
theorem does_4 (T:Ties Kp G B0)(hq:q<59998)(hc:c<60000)(kd pid fd n ito:Int)(s:ByteArray)(hkd:I64 kd)(hp:I64 pid)(hs:s.size<=maxLen)(hn:I64 n)(ht:I64 ito)(e0:((kd.tmod 13)+13).tmod 13=4)(w:World)(h:B13 Kp G q c S D P O S D P O B0 w0 w) :
 Calls prog 16 #[.pointer (some ⟨Kp.tg,0,none⟩),.pointer (some ⟨Kp.g,0,none⟩),.pointer (some ⟨G.d,0,none⟩),.agg #[.int .i64 kd,.int .i64 pid,.int .i64 fd,.string s,.int .i64 n,.int .i64 ito]] w fun e w'=>e=.returned (.bool true)/\Did13 Kp G q c B0 w0 w':=by
 have hk:=h.kn T;obtain⟨W0,hW0⟩:∃ W0,w.alloc (.cells #[.int .i64 kd,.int .i64 pid,.int .i64 fd,.string s,.int .i64 n,.int .i64 ito] 45)=W0:=⟨_,rfl⟩;have hD:=n13_of T h hW0;obtain⟨y0,y1,y2,y3,y4,y5⟩:=hD.out.x6;have hkd':=hkd;clear hkd h;obtain⟨a,r,S',D',P',O',cP,cR⟩:=bo13_write (xg:=w.heap.size) (xl:=(xl13 kd pid fd s n ito)) (w0:=w0) (c:=c) T hk hq pid fd s hp hs;replace cP:=Wd cP;replace cR:=Wd cR;clear hk T hq hc hp hs hn ht;obtain⟨hcs,hk1,hk2⟩:=kind13 kd;obtain⟨tm,htm⟩:∃ tm,kd.tmod 13=tm:=⟨_,rfl⟩;rw[htm] at hcs hk1 hk2 e0;go_enter func16,ntmps16
 go_wp2_with fail
 refine (cP.out _ hD.out).mono ?_;rintro e w1 ⟨rfl,hD1⟩;replace hD1:=Wd hD1;obtain⟨q0,q1,q2,q3,q4,q5⟩:=hD1.out.x6;go_wp2_with fail
 refine (cR.out _ hD1.out).mono ?_;rintro e w2 ⟨rfl,hD2⟩;replace hD2:=Wd hD2;go_wp2_with fail
 go_ret
 exact⟨rfl,S',D',P',O',hD2.out.b⟩
theorem does_5 (T:Ties Kp G B0)(hq:q<59998)(hc:c<60000)(kd pid fd n ito:Int)(s:ByteArray)(hkd:I64 kd)(hp:I64 pid)(hs:s.size<=maxLen)(hn:I64 n)(ht:I64 ito)(e0:((kd.tmod 13)+13).tmod 13=5)(w:World)(h:B13 Kp G q c S D P O S D P O B0 w0 w) :
 Calls prog 16 #[.pointer (some ⟨Kp.tg,0,none⟩),.pointer (some ⟨Kp.g,0,none⟩),.pointer (some ⟨G.d,0,none⟩),.agg #[.int .i64 kd,.int .i64 pid,.int .i64 fd,.string s,.int .i64 n,.int .i64 ito]] w fun e w'=>e=.returned (.bool true)/\Did13 Kp G q c B0 w0 w':=by
 have hk:=h.kn T;obtain⟨W0,hW0⟩:∃ W0,w.alloc (.cells #[.int .i64 kd,.int .i64 pid,.int .i64 fd,.string s,.int .i64 n,.int .i64 ito] 45)=W0:=⟨_,rfl⟩;have hD:=n13_of T h hW0;obtain⟨y0,y1,y2,y3,y4,y5⟩:=hD.out.x6;have hkd':=hkd;clear hkd h;have cM:=Wd (fun W (hN:N13 Kp G w.heap.size (xl13 kd pid fd s n ito) B0 w0 q c S D P O S D P O W)=>more_5 T hq hc kd pid fd n ito s hkd' hp hs hn ht W hN.b);clear hk T hq hc hp hs hn ht;obtain⟨hcs,hk1,hk2⟩:=kind13 kd;obtain⟨tm,htm⟩:∃ tm,kd.tmod 13=tm:=⟨_,rfl⟩;rw[htm] at hcs hk1 hk2 e0;go_enter func16,ntmps16
 go_wp2_with fail
 refine (cM.out _ hD.out).mono ?_;rintro e w1 ⟨rfl,hd⟩;replace hd:=Wd hd;go_wp2_with fail
 go_ret
 exact⟨rfl,hd.out⟩
theorem does_6 (T:Ties Kp G B0)(hq:q<59998)(hc:c<60000)(kd pid fd n ito:Int)(s:ByteArray)(hkd:I64 kd)(hp:I64 pid)(hs:s.size<=maxLen)(hn:I64 n)(ht:I64 ito)(e0:((kd.tmod 13)+13).tmod 13=6)(w:World)(h:B13 Kp G q c S D P O S D P O B0 w0 w) :
 Calls prog 16 #[.pointer (some ⟨Kp.tg,0,none⟩),.pointer (some ⟨Kp.g,0,none⟩),.pointer (some ⟨G.d,0,none⟩),.agg #[.int .i64 kd,.int .i64 pid,.int .i64 fd,.string s,.int .i64 n,.int .i64 ito]] w fun e w'=>e=.returned (.bool true)/\Did13 Kp G q c B0 w0 w':=by
 have hk:=h.kn T;obtain⟨W0,hW0⟩:∃ W0,w.alloc (.cells #[.int .i64 kd,.int .i64 pid,.int .i64 fd,.string s,.int .i64 n,.int .i64 ito] 45)=W0:=⟨_,rfl⟩;have hD:=n13_of T h hW0;obtain⟨y0,y1,y2,y3,y4,y5⟩:=hD.out.x6;have hkd':=hkd;clear hkd h;have cM:=Wd (fun W (hN:N13 Kp G w.heap.size (xl13 kd pid fd s n ito) B0 w0 q c S D P O S D P O W)=>more_6 T hq hc kd pid fd n ito s hkd' hp hs hn ht W hN.b);clear hk T hq hc hp hs hn ht;obtain⟨hcs,hk1,hk2⟩:=kind13 kd;obtain⟨tm,htm⟩:∃ tm,kd.tmod 13=tm:=⟨_,rfl⟩;rw[htm] at hcs hk1 hk2 e0;go_enter func16,ntmps16
 go_wp2_with fail
 refine (cM.out _ hD.out).mono ?_;rintro e w1 ⟨rfl,hd⟩;replace hd:=Wd hd;go_wp2_with fail
 go_ret
 exact⟨rfl,hd.out⟩
theorem does_7 (T:Ties Kp G B0)(hq:q<59998)(hc:c<60000)(kd pid fd n ito:Int)(s:ByteArray)(hkd:I64 kd)(hp:I64 pid)(hs:s.size<=maxLen)(hn:I64 n)(ht:I64 ito)(e0:((kd.tmod 13)+13).tmod 13=7)(w:World)(h:B13 Kp G q c S D P O S D P O B0 w0 w) :
 Calls prog 16 #[.pointer (some ⟨Kp.tg,0,none⟩),.pointer (some ⟨Kp.g,0,none⟩),.pointer (some ⟨G.d,0,none⟩),.agg #[.int .i64 kd,.int .i64 pid,.int .i64 fd,.string s,.int .i64 n,.int .i64 ito]] w fun e w'=>e=.returned (.bool true)/\Did13 Kp G q c B0 w0 w':=by
 have hk:=h.kn T;obtain⟨W0,hW0⟩:∃ W0,w.alloc (.cells #[.int .i64 kd,.int .i64 pid,.int .i64 fd,.string s,.int .i64 n,.int .i64 ito] 45)=W0:=⟨_,rfl⟩;have hD:=n13_of T h hW0;obtain⟨y0,y1,y2,y3,y4,y5⟩:=hD.out.x6;have hkd':=hkd;clear hkd h;have cM:=Wd (fun W (hN:N13 Kp G w.heap.size (xl13 kd pid fd s n ito) B0 w0 q c S D P O S D P O W)=>more_7 T hq hc kd pid fd n ito s hkd' hp hs hn ht W hN.b);clear hk T hq hc hp hs hn ht;obtain⟨hcs,hk1,hk2⟩:=kind13 kd;obtain⟨tm,htm⟩:∃ tm,kd.tmod 13=tm:=⟨_,rfl⟩;rw[htm] at hcs hk1 hk2 e0;go_enter func16,ntmps16
 go_wp2_with fail
 refine (cM.out _ hD.out).mono ?_;rintro e w1 ⟨rfl,hd⟩;replace hd:=Wd hd;go_wp2_with fail
 go_ret
 exact⟨rfl,hd.out⟩
theorem does_8 (T:Ties Kp G B0)(hq:q<59998)(hc:c<60000)(kd pid fd n ito:Int)(s:ByteArray)(hkd:I64 kd)(hp:I64 pid)(hs:s.size<=maxLen)(hn:I64 n)(ht:I64 ito)(e0:((kd.tmod 13)+13).tmod 13=8)(w:World)(h:B13 Kp G q c S D P O S D P O B0 w0 w) :
 Calls prog 16 #[.pointer (some ⟨Kp.tg,0,none⟩),.pointer (some ⟨Kp.g,0,none⟩),.pointer (some ⟨G.d,0,none⟩),.agg #[.int .i64 kd,.int .i64 pid,.int .i64 fd,.string s,.int .i64 n,.int .i64 ito]] w fun e w'=>e=.returned (.bool true)/\Did13 Kp G q c B0 w0 w':=by
 have hk:=h.kn T;obtain⟨W0,hW0⟩:∃ W0,w.alloc (.cells #[.int .i64 kd,.int .i64 pid,.int .i64 fd,.string s,.int .i64 n,.int .i64 ito] 45)=W0:=⟨_,rfl⟩;have hD:=n13_of T h hW0;obtain⟨y0,y1,y2,y3,y4,y5⟩:=hD.out.x6;have hkd':=hkd;clear hkd h;have cM:=Wd (fun W (hN:N13 Kp G w.heap.size (xl13 kd pid fd s n ito) B0 w0 q c S D P O S D P O W)=>more_8 T hq hc kd pid fd n ito s hkd' hp hs hn ht W hN.b);clear hk T hq hc hp hs hn ht;obtain⟨hcs,hk1,hk2⟩:=kind13 kd;obtain⟨tm,htm⟩:∃ tm,kd.tmod 13=tm:=⟨_,rfl⟩;rw[htm] at hcs hk1 hk2 e0;go_enter func16,ntmps16
 go_wp2_with fail
 refine (cM.out _ hD.out).mono ?_;rintro e w1 ⟨rfl,hd⟩;replace hd:=Wd hd;go_wp2_with fail
 go_ret
 exact⟨rfl,hd.out⟩
theorem does_9 (T:Ties Kp G B0)(hq:q<59998)(hc:c<60000)(kd pid fd n ito:Int)(s:ByteArray)(hkd:I64 kd)(hp:I64 pid)(hs:s.size<=maxLen)(hn:I64 n)(ht:I64 ito)(e0:((kd.tmod 13)+13).tmod 13=9)(w:World)(h:B13 Kp G q c S D P O S D P O B0 w0 w) :
 Calls prog 16 #[.pointer (some ⟨Kp.tg,0,none⟩),.pointer (some ⟨Kp.g,0,none⟩),.pointer (some ⟨G.d,0,none⟩),.agg #[.int .i64 kd,.int .i64 pid,.int .i64 fd,.string s,.int .i64 n,.int .i64 ito]] w fun e w'=>e=.returned (.bool true)/\Did13 Kp G q c B0 w0 w':=by
 have hk:=h.kn T;obtain⟨W0,hW0⟩:∃ W0,w.alloc (.cells #[.int .i64 kd,.int .i64 pid,.int .i64 fd,.string s,.int .i64 n,.int .i64 ito] 45)=W0:=⟨_,rfl⟩;have hD:=n13_of T h hW0;obtain⟨y0,y1,y2,y3,y4,y5⟩:=hD.out.x6;have hkd':=hkd;clear hkd h;have cM:=Wd (fun W (hN:N13 Kp G w.heap.size (xl13 kd pid fd s n ito) B0 w0 q c S D P O S D P O W)=>more_9 T hq hc kd pid fd n ito s hkd' hp hs hn ht W hN.b);clear hk T hq hc hp hs hn ht;obtain⟨hcs,hk1,hk2⟩:=kind13 kd;obtain⟨tm,htm⟩:∃ tm,kd.tmod 13=tm:=⟨_,rfl⟩;rw[htm] at hcs hk1 hk2 e0;go_enter func16,ntmps16
 go_wp2_with fail
 refine (cM.out _ hD.out).mono ?_;rintro e w1 ⟨rfl,hd⟩;replace hd:=Wd hd;go_wp2_with fail
 go_ret
 exact⟨rfl,hd.out⟩
theorem does_10 (T:Ties Kp G B0)(hq:q<59998)(hc:c<60000)(kd pid fd n ito:Int)(s:ByteArray)(hkd:I64 kd)(hp:I64 pid)(hs:s.size<=maxLen)(hn:I64 n)(ht:I64 ito)(e0:((kd.tmod 13)+13).tmod 13=10)(w:World)(h:B13 Kp G q c S D P O S D P O B0 w0 w) :
 Calls prog 16 #[.pointer (some ⟨Kp.tg,0,none⟩),.pointer (some ⟨Kp.g,0,none⟩),.pointer (some ⟨G.d,0,none⟩),.agg #[.int .i64 kd,.int .i64 pid,.int .i64 fd,.string s,.int .i64 n,.int .i64 ito]] w fun e w'=>e=.returned (.bool true)/\Did13 Kp G q c B0 w0 w':=by
 have hk:=h.kn T;obtain⟨W0,hW0⟩:∃ W0,w.alloc (.cells #[.int .i64 kd,.int .i64 pid,.int .i64 fd,.string s,.int .i64 n,.int .i64 ito] 45)=W0:=⟨_,rfl⟩;have hD:=n13_of T h hW0;obtain⟨y0,y1,y2,y3,y4,y5⟩:=hD.out.x6;have hkd':=hkd;clear hkd h;have cM:=Wd (fun W (hN:N13 Kp G w.heap.size (xl13 kd pid fd s n ito) B0 w0 q c S D P O S D P O W)=>more_10 T hq hc kd pid fd n ito s hkd' hp hs hn ht W hN.b);clear hk T hq hc hp hs hn ht;obtain⟨hcs,hk1,hk2⟩:=kind13 kd;obtain⟨tm,htm⟩:∃ tm,kd.tmod 13=tm:=⟨_,rfl⟩;rw[htm] at hcs hk1 hk2 e0;go_enter func16,ntmps16
 go_wp2_with fail
 refine (cM.out _ hD.out).mono ?_;rintro e w1 ⟨rfl,hd⟩;replace hd:=Wd hd;go_wp2_with fail
 go_ret
 exact⟨rfl,hd.out⟩
theorem does_11 (T:Ties Kp G B0)(hq:q<59998)(hc:c<60000)(kd pid fd n ito:Int)(s:ByteArray)(hkd:I64 kd)(hp:I64 pid)(hs:s.size<=maxLen)(hn:I64 n)(ht:I64 ito)(e0:((kd.tmod 13)+13).tmod 13=11)(w:World)(h:B13 Kp G q c S D P O S D P O B0 w0 w) :
 Calls prog 16 #[.pointer (some ⟨Kp.tg,0,none⟩),.pointer (some ⟨Kp.g,0,none⟩),.pointer (some ⟨G.d,0,none⟩),.agg #[.int .i64 kd,.int .i64 pid,.int .i64 fd,.string s,.int .i64 n,.int .i64 ito]] w fun e w'=>e=.returned (.bool true)/\Did13 Kp G q c B0 w0 w':=by
 have hk:=h.kn T;obtain⟨W0,hW0⟩:∃ W0,w.alloc (.cells #[.int .i64 kd,.int .i64 pid,.int .i64 fd,.string s,.int .i64 n,.int .i64 ito] 45)=W0:=⟨_,rfl⟩;have hD:=n13_of T h hW0;obtain⟨y0,y1,y2,y3,y4,y5⟩:=hD.out.x6;have hkd':=hkd;clear hkd h;have cM:=Wd (fun W (hN:N13 Kp G w.heap.size (xl13 kd pid fd s n ito) B0 w0 q c S D P O S D P O W)=>more_11 T hq hc kd pid fd n ito s hkd' hp hs hn ht W hN.b);clear hk T hq hc hp hs hn ht;obtain⟨hcs,hk1,hk2⟩:=kind13 kd;obtain⟨tm,htm⟩:∃ tm,kd.tmod 13=tm:=⟨_,rfl⟩;rw[htm] at hcs hk1 hk2 e0;go_enter func16,ntmps16
 go_wp2_with fail
 refine (cM.out _ hD.out).mono ?_;rintro e w1 ⟨rfl,hd⟩;replace hd:=Wd hd;go_wp2_with fail
 go_ret
 exact⟨rfl,hd.out⟩
theorem does_12 (T:Ties Kp G B0)(hq:q<59998)(hc:c<60000)(kd pid fd n ito:Int)(s:ByteArray)(hkd:I64 kd)(hp:I64 pid)(hs:s.size<=maxLen)(hn:I64 n)(ht:I64 ito)(e0:((kd.tmod 13)+13).tmod 13=12)(w:World)(h:B13 Kp G q c S D P O S D P O B0 w0 w) :
 Calls prog 16 #[.pointer (some ⟨Kp.tg,0,none⟩),.pointer (some ⟨Kp.g,0,none⟩),.pointer (some ⟨G.d,0,none⟩),.agg #[.int .i64 kd,.int .i64 pid,.int .i64 fd,.string s,.int .i64 n,.int .i64 ito]] w fun e w'=>e=.returned (.bool true)/\Did13 Kp G q c B0 w0 w':=by
 have hk:=h.kn T;obtain⟨W0,hW0⟩:∃ W0,w.alloc (.cells #[.int .i64 kd,.int .i64 pid,.int .i64 fd,.string s,.int .i64 n,.int .i64 ito] 45)=W0:=⟨_,rfl⟩;have hD:=n13_of T h hW0;obtain⟨y0,y1,y2,y3,y4,y5⟩:=hD.out.x6;have hkd':=hkd;clear hkd h;have cM:=Wd (fun W (hN:N13 Kp G w.heap.size (xl13 kd pid fd s n ito) B0 w0 q c S D P O S D P O W)=>more_12 T hq hc kd pid fd n ito s hkd' hp hs hn ht W hN.b);clear hk T hq hc hp hs hn ht;obtain⟨hcs,hk1,hk2⟩:=kind13 kd;obtain⟨tm,htm⟩:∃ tm,kd.tmod 13=tm:=⟨_,rfl⟩;rw[htm] at hcs hk1 hk2 e0;go_enter func16,ntmps16
 go_wp2_with fail
 refine (cM.out _ hD.out).mono ?_;rintro e w1 ⟨rfl,hd⟩;replace hd:=Wd hd;go_wp2_with fail
 go_ret
 exact⟨rfl,hd.out⟩
theorem does13 (T:Ties Kp G B0)(hq:q<59998)(hc:c<60000)(kd pid fd n ito:Int)(s:ByteArray)(hkd:I64 kd)(hp:I64 pid)(hs:s.size<=maxLen)(hn:I64 n)(ht:I64 ito)(w:World)(h:B13 Kp G q c S D P O S D P O B0 w0 w) :
 Calls prog 16 #[.pointer (some ⟨Kp.tg,0,none⟩),.pointer (some ⟨Kp.g,0,none⟩),.pointer (some ⟨G.d,0,none⟩),.agg #[.int .i64 kd,.int .i64 pid,.int .i64 fd,.string s,.int .i64 n,.int .i64 ito]] w fun e w'=>e=.returned (.bool true)/\Did13 Kp G q c B0 w0 w':=by
 rcases (kind13 kd).1 with e|e|e|e|e|e|e|e|e|e|e|e|e
 ·exact does_0 T hq hc kd pid fd n ito s hkd hp hs hn ht e w h
 ·exact does_1 T hq hc kd pid fd n ito s hkd hp hs hn ht e w h
 ·exact does_2 T hq hc kd pid fd n ito s hkd hp hs hn ht e w h
 ·exact does_3 T hq hc kd pid fd n ito s hkd hp hs hn ht e w h
 ·exact does_4 T hq hc kd pid fd n ito s hkd hp hs hn ht e w h
 ·exact does_5 T hq hc kd pid fd n ito s hkd hp hs hn ht e w h
 ·exact does_6 T hq hc kd pid fd n ito s hkd hp hs hn ht e w h
 ·exact does_7 T hq hc kd pid fd n ito s hkd hp hs hn ht e w h
 ·exact does_8 T hq hc kd pid fd n ito s hkd hp hs hn ht e w h
 ·exact does_9 T hq hc kd pid fd n ito s hkd hp hs hn ht e w h
 ·exact does_10 T hq hc kd pid fd n ito s hkd hp hs hn ht e w h
 ·exact does_11 T hq hc kd pid fd n ito s hkd hp hs hn ht e w h
 ·exact does_12 T hq hc kd pid fd n ito s hkd hp hs hn ht e w h
end
end RD
end Go.Proofs.YtfffibepcdlldaaGreat

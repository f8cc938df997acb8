/- A part. -/
import Derived.Test.YtfffibepcdlldaaGreatZA04
import Derived.Test.YtfffibepcdlldaaGreatZA01
set_option linter.unusedVariables false
set_option linter.unusedSimpArgs false
set_option maxRecDepth 100000
set_option maxHeartbeats 64000000
open Go.Proofs.Tryz

namespace Go.Proofs.YtfffibepcdlldaaGreat
open Go.ChangeShapes Go.WideShapes Go.ChangeAt Go.RowKit
def wrE (l:List (Int×ByteArray))(f:Int)(d:ByteArray):Int:=if EM.ok 0 l=true/\0<=f then (if f+d.size<=1048576 then 0 else 28) else 2
def wrL (l:List (Int×ByteArray))(f:Int)(d:ByteArray):List (Int×ByteArray):=if wrE l f d=0 then EM.wr l f d else []
theorem wr_no {l:List (Int×ByteArray)}{f:Int}{d:ByteArray}{k:Int}(h:wrE l f d=k)(hk:k≠0):wrL l f d=[]/\wrE l f d=k:=by
 unfold wrL;rw[h,if_neg hk];exact⟨rfl,rfl⟩
theorem below_al {a w:World}(h:Below a.heap.size a w)(o:Obj):Below a.heap.size a (w.alloc o):=h.alloc h.size o
theorem below_tr {a b c:World}(h:Below a.heap.size a b)(k:Below b.heap.size b c):Below a.heap.size a c:=h.trans (k.mono h.size)
def XV (w:World)(v:Value)(l:List (Int×ByteArray)):Prop:=∃ ao n c,v=.slice ao n c/\XS w ao n c l
theorem XV.alloc {w:World}{v:Value}{l:List (Int×ByteArray)}(h:XV w v l)(o:Obj):XV (w.alloc o) v l:=by
 obtain⟨a,n,c,h1,h2⟩:=h;exact⟨a,n,c,h1,h2.alloc o⟩
theorem XV.below {w w':World}{v:Value}{l:List (Int×ByteArray)}(h:XV w v l)(hb:Below w.heap.size w w'):XV w' v l:=by
 obtain⟨a,n,c,h1,h2⟩:=h;exact⟨a,n,c,h1,h2.below hb (Nat.le_refl _)⟩
theorem XV_own {w:World}{base n:Nat}{v:Value}{l:List (Int×ByteArray)}(h:w.ownsRow base 211 2 v n (ecl l)):XV w v l:=by
 obtain⟨a,c,rfl⟩:=Own.form h;exact⟨a,n,c,rfl,XS_own h⟩
theorem XV_new {w:World}{g:Nat}{f:Int}{d:ByteArray}{t:TypeId}(hg:g=w.heap.size):XV (w.alloc (.cells #[.int .i64 f,.string d] t)) (.slice (some ⟨g,0,none⟩) 1 1) [(f,d)]:=by
 subst hg;refine⟨_,_,_,rfl,rfl,Nat.le_refl _,by unfold maxLen;omega,(fun h=>by cases h),fun a ha j u hu=>?_⟩;obtain rfl:=Option.some.inj ha;exact Own.cells_two _ _ _ _ _ j u hu
theorem LS_three {w:World}{g:Nat}{v1 v2 v3:Value}{l1 l2 l3:List (Int×ByteArray)}{t:TypeId}(hg:g=w.heap.size)(h1:XV w v1 l1)(h2:XV w v2 l2)(h3:XV w v3 l3) :
 LS (w.alloc (.cells #[v1,v2,v3] t)) (some ⟨g,0,none⟩) 3 3 [(v1,l1),(v2,l2),(v3,l3)]:=by
 subst hg;refine⟨rfl,by decide,by unfold maxLen;omega,(fun h=>by cases h),fun a ha j u hu=>?_,fun p hp=>?_⟩
 ·obtain rfl:=Option.some.inj ha;rw[Addr.add_lit,cell_of_row _ _ _ _ _ _ (heap_alloc_new w (.cells #[v1,v2,v3] t))]
  match j,hu with
  | 0,hu=>obtain rfl:(v1,l1)=u:=by simpa using hu
          simp
  | 1,hu=>obtain rfl:(v2,l2)=u:=by simpa using hu
          simp
  | 2,hu=>obtain rfl:(v3,l3)=u:=by simpa using hu
          simp
 ·simp only[List.mem_cons,List.not_mem_nil,or_false] at hp;rcases hp with rfl|rfl|rfl
  ·exact h1.alloc _
  ·exact h2.alloc _
  ·exact h3.alloc _
theorem Write_in (ao:Option Addr)(n cap:Nat)(l:List (Int×ByteArray))(f:Int)(d:ByteArray)(w:World)(h:XS w ao n cap l)(hf:XFit l)(hv:EM.ok 0 l=true)(h0:0<=f)(h1:f+d.size<=1048576)(hd:d.size≠0) :
 Calls prog 114 #[.slice ao n cap,.int .i64 f,.string d] w (Gave (EM.wr l f d) 0 w):=by
 have hval:=xvalid_any ao n cap l w h hf;have hfit:=fits_any f d;have H:=Wd h;have hft:Hid (∀ w,Calls prog 156 #[.int .i64 f,.string d] w fun e w'=>e=.returned (.bool true)/\w=w'):=by
  intro w;have:=fits_any f d w (by unfold I64;omega) (by unfold maxLen;omega);rwa[decide_eq_true h1] at this
 obtain⟨s1,s2⟩:=xfull hd;have hpart:∀ (lo hi:Int),I64 lo->I64 hi->∀ (g:Nat) (W:World),(W.cell? ⟨g,0,none⟩=some (.int .i64 f)/\W.cell? ⟨g,1,none⟩=some (.string d)/\Below w.heap.size w W) ->
  Calls prog 155 #[.slice ao n cap,.int .i64 lo,.int .i64 hi] W fun e W'=>∃ a n c,e=.returned (.slice a n c)/\XV W' (.slice a n c) (EM.part lo hi l)/\Below W.heap.size W W' /\
   (W'.cell? ⟨g,0,none⟩=some (.int .i64 f)/\W'.cell? ⟨g,1,none⟩=some (.string d)/\Below w.heap.size w W'):=by
  intro lo hi h1 h2 g W ⟨c0,c1,bel⟩;refine (part_any ao n cap l lo hi W (h.below bel (Nat.le_refl _)) hv h1 h2).mono ?_;rintro e W' ⟨v,rfl,hown,belp⟩;obtain⟨a,c,rfl⟩:=Own.form hown;exact⟨a,_,c,rfl,XV_own hown,belp,by rw[belp.cell (World.block_lt_of_cell? W _ c0)];exact c0,by rw[belp.cell (World.block_lt_of_cell? W _ c1)];exact c1,below_tr bel belp⟩
 have hp1:=Wd (hpart 0 f (by unfold I64;omega) (by unfold I64;omega));have hp2:=Wd (hpart (f+d.size) 1048576 (by unfold I64;omega) (by unfold I64;omega));have hend:Hid (∀ (g:Nat) (W:World),(W.cell? ⟨g,0,none⟩=some (.int .i64 f)/\W.cell? ⟨g,1,none⟩=some (.string d)/\Below w.heap.size w W) ->
  Calls prog 158 #[.agg #[.int .i64 f,.string d]] W fun e W'=>e=.returned (.int .i64 (f+d.size))/\Below W.heap.size W W' /\
   (W'.cell? ⟨g,0,none⟩=some (.int .i64 f)/\W'.cell? ⟨g,1,none⟩=some (.string d)/\Below w.heap.size w W')):=by
  intro g W ⟨c0,c1,bel⟩;refine (end_any f d W (by omega) (by omega)).mono ?_;rintro e W' ⟨rfl,belp⟩;exact⟨rfl,belp,by rw[belp.cell (World.block_lt_of_cell? W _ c0)];exact c0,by rw[belp.cell (World.block_lt_of_cell? W _ c1)];exact c1,below_tr bel belp⟩
 have hj:Hid (∀ (g:Nat) (W:World) (g2:Nat) (v1 v2 v3:Value),(W.cell? ⟨g,0,none⟩=some (.int .i64 f)/\W.cell? ⟨g,1,none⟩=some (.string d)/\Below w.heap.size w W) ->
  LS W (some ⟨g2,0,none⟩) 3 3 [(v1,EM.part 0 f l),(v2,[(f,d)]),(v3,EM.part (f+d.size) 1048576 l)] ->
  Calls prog 157 #[.slice (some ⟨g2,0,none⟩) 3 3] W fun e W'=>∃ v,e=.returned v/\W'.ownsRow w.heap.size 211 2 v (EM.wr l f d).length (ecl (EM.wr l f d)) /\
   (W'.cell? ⟨g,0,none⟩=some (.int .i64 f)/\W'.cell? ⟨g,1,none⟩=some (.string d)/\Below w.heap.size w W')):=by
  intro g W g2 v1 v2 v3 ⟨c0,c1,bel⟩ hls;have hall:alls [(v1,EM.part 0 f l),(v2,[(f,d)]),(v3,EM.part (f+d.size) 1048576 l)]=EM.part 0 f l ++ [(f,d)] ++ EM.part (f+d.size) 1048576 l:=by simp[alls]
  have hwr:EM.wr l f d=EM.merge (EM.part 0 f l ++ [(f,d)] ++ EM.part (f+d.size) 1048576 l):=by unfold EM.wr;rw[if_neg hd]
  have hjn:=joined_any _ 3 3 _ W hls (by rw[hall];exact EM.wk_write hv h0 h1 (by omega));rw[hall,<-hwr] at hjn;refine hjn.mono ?_;rintro e W' ⟨v,rfl,hown,belp⟩;exact⟨v,rfl,Own.low bel.size hown,by rw[belp.cell (World.block_lt_of_cell? W _ c0)];exact c0,by rw[belp.cell (World.block_lt_of_cell? W _ c1)];exact c1,below_tr bel belp⟩
 rw[hv] at hval;have hval:=Wd hval;clear h hfit hpart;go_enter func114,ntmps114
 go_wp2_with fail
 refine hval.out.mono ?_;rintro e w1 ⟨rfl,bel1⟩;go_wp2_with fail
 refine (hft.out _).mono ?_;rintro e w' ⟨rfl,rfl⟩;have hw2:=XB.new w1 f d rfl;have u0:=hw2.c0;have u1:=hw2.c1;go_wp2_with fail
 have hS:(w1.alloc (.cells #[.int .i64 f,.string d] 211)).cell? ⟨w1.heap.size,0,none⟩=some (.int .i64 f)/\(w1.alloc (.cells #[.int .i64 f,.string d] 211)).cell? ⟨w1.heap.size,1,none⟩=some (.string d)/\Below w.heap.size w (w1.alloc (.cells #[.int .i64 f,.string d] 211)):=⟨u0,u1,below_al bel1 _⟩;have bel2:=hS.2.2;clear hw2 bel1;go_region_held3 (fun w'=>w'.cell? ⟨w1.heap.size,0,none⟩=some (.int .i64 f)/\w'.cell? ⟨w1.heap.size,1,none⟩=some (.string d)/\Below w.heap.size w w')
  (first|assumption|(refine⟨?_,?_,?_⟩ <;> first|assumption|exact Below.drew (by assumption)|exact below_al (by assumption) _|exact below_al (Below.drew (by assumption)) _|exact below_al (below_al (by assumption) _) _|go_keep))
  (first
   | (go_at_call 158;refine (hend.out _ _ (by assumption)).mono ?_;rintro e w2 ⟨rfl,belb,hS2⟩;have hb:=hS2.2.2)
   | (go_at_call 157;refine (hj.out _ _ _ _ _ _ (by assumption) (LS_three (by first|rfl|simp) (by repeat (first|assumption|apply XV.alloc|(refine XV.below ?_ belc)|(refine XV.below ?_ belb)|(refine XV.below ?_ bela))) (by repeat (first|assumption|exact XV_new rfl|exact XV_new (by simp)|apply XV.alloc|(refine XV.below ?_ belc)|(refine XV.below ?_ belb)|(refine XV.below ?_ bela))) (by repeat (first|assumption|apply XV.alloc|(refine XV.below ?_ belc)|(refine XV.below ?_ belb)|(refine XV.below ?_ bela))))).mono ?_;rintro e w4 ⟨v4,rfl,hown4,hS4⟩)
   | (go_at_call_of 155 (Value.int IntKind.i64 1048576);refine (hp2.out _ _ (by assumption)).mono ?_;rintro e w3 ⟨a3,n3,c3,rfl,hx3,belc,hS3⟩;have hb:=hS3.2.2)
   | (go_at_call 155;refine (hp1.out _ _ (by assumption)).mono ?_;rintro e w2 ⟨a1,n1,c1,rfl,hx1,bela,hS1⟩;have hb:=hS1.2.2))
 all_goals
  clear hp1 hp2 hend hj hval hft;go_wp2_with fail
  go_ret2
  exact⟨v4,rfl,hown4,hS4.2.2⟩
theorem Write_none (ao:Option Addr)(n cap:Nat)(l:List (Int×ByteArray))(f:Int)(d:ByteArray)(w:World)(h:XS w ao n cap l)(hf:XFit l)(hv:EM.ok 0 l=true)(h0:0<=f)(h1:f+d.size<=1048576)(hd:d.size=0) :
 Calls prog 114 #[.slice ao n cap,.int .i64 f,.string d] w (Gave (EM.wr l f d) 0 w):=by
 have hval:=xvalid_any ao n cap l w h hf;have H:=Wd h;have hft:Hid (∀ w,Calls prog 156 #[.int .i64 f,.string d] w fun e w'=>e=.returned (.bool true)/\w=w'):=by
  intro w;have:=fits_any f d w (by unfold I64;omega) (by unfold maxLen;omega);rwa[decide_eq_true h1] at this
 obtain⟨s1,s2⟩:=xempty hd;have hwr:=Wd (EM.wr_nil (f:=f) hv hd);have hok:=Wd hv;rw[hv] at hval;have hval:=Wd hval;have hfn:decide (f<0)=false:=by simp;omega
 clear h hv;go_enter func114,ntmps114
 go_wp2_with fail
 refine hval.out.mono ?_;rintro e w1 ⟨rfl,bel1⟩;go_wp2_with fail
 refine (hft.out _).mono ?_;rintro e w' ⟨rfl,rfl⟩;have hj:=joined_any _ 1 1 _ _ (LS_one (t:=123) rfl (H.out.below bel1 (Nat.le_refl _))) (by rw[alls_one];exact EM.ok_wk hok.out);rw[alls_one,EM.merge_id hok.out] at hj;have hj:=Wd hj;have bel4:=below_al bel1 (.cells #[.slice ao n cap] 123);go_wp2_with fail
 refine hj.out.mono ?_;rintro e w3 ⟨v3,rfl,hown3,bel5⟩;go_wp2_with fail
 go_ret2
 refine⟨v3,rfl,?_,below_tr bel4 bel5⟩;rw[hwr.out];exact Own.low bel4.size hown3
theorem Write_any (ao:Option Addr)(n cap:Nat)(l:List (Int×ByteArray))(f:Int)(d:ByteArray)(w:World)(h:XS w ao n cap l)(hf:XFit l)(hff:I64 f)(hd:d.size<=maxLen) :
 Calls prog 114 #[.slice ao n cap,.int .i64 f,.string d] w (Gave (wrL l f d) (wrE l f d) w):=by
 have hval:=xvalid_any ao n cap l w h hf
 cases hv:EM.ok 0 l with
 | false=>
   have HE:=Wd (fun w'=>@gave_no (wrL l f d) (wrE l f d) w w' 2 (wr_no (by unfold wrE;rw[hv];exact if_neg (by simp)) (by decide)));rw[hv] at hval;have hval:=Wd hval;clear hv h;go_enter func114,ntmps114
   go_wp2_with fail
   refine hval.out.mono ?_;rintro e w1 ⟨rfl,bel1⟩;go_wp2_with fail
   go_ret2
   exact HE.out _ bel1
 | true=>
   by_cases h0:f<0
   ·have HE:=Wd (fun w'=>@gave_no (wrL l f d) (wrE l f d) w w' 2 (wr_no (by unfold wrE;rw[hv];exact if_neg (by omega)) (by decide)));rw[hv] at hval;have hval:=Wd hval;clear hv h;go_enter func114,ntmps114
    go_wp2_with fail
    refine hval.out.mono ?_;rintro e w1 ⟨rfl,bel1⟩;go_wp2_with fail
    go_ret2
    exact HE.out _ bel1
   by_cases h1:f+d.size<=1048576
   ·have he:wrE l f d=0:=by unfold wrE;rw[hv,if_pos ⟨rfl,by omega⟩,if_pos h1]
    have hL:wrL l f d=EM.wr l f d:=by unfold wrL;rw[if_pos he]
    rw[he,hL]
    by_cases hd0:d.size=0
    ·exact Write_none ao n cap l f d w h hf hv (by omega) h1 hd0
    ·exact Write_in ao n cap l f d w h hf hv (by omega) h1 hd0
   ·have HE:=Wd (fun w'=>@gave_no (wrL l f d) (wrE l f d) w w' 28 (wr_no (by unfold wrE;rw[hv,if_pos ⟨rfl,by omega⟩,if_neg h1]) (by decide)));have hft:Hid (∀ w,Calls prog 156 #[.int .i64 f,.string d] w fun e w'=>e=.returned (.bool false)/\w=w'):=by
     intro w;have:=fits_any f d w hff hd;rwa[decide_eq_false h1] at this
    rw[hv] at hval;have hval:=Wd hval;clear hv h;go_enter func114,ntmps114
    go_wp2_with fail
    refine hval.out.mono ?_;rintro e w1 ⟨rfl,bel1⟩;go_wp2_with fail
    refine (hft.out _).mono ?_;rintro e w' ⟨rfl,rfl⟩;go_wp2_with fail
    go_ret2
    exact HE.out _ bel1
namespace IN
structure Keeps (B:Nat)(T:Nat->Obj->Prop)(w w':World):Prop where
 os:w'.os=w.os
 tape:w'.tape=w.tape
 output:w'.output=w.output
 size:w.heap.size<=w'.heap.size
 low:∀ (k:Nat),k<B->w'.heap[k]? = w.heap[k]?
 block:∀ (k:Nat) (o:Obj),w.heap[k]? = some o->¬ T k o->w'.heap[k]? = some o
section
variable {w w' w2:World}{B:Nat}{T:Nat->Obj->Prop}
theorem Keeps.refl (B:Nat)(T:Nat->Obj->Prop)(w:World):Keeps B T w w:=⟨rfl,rfl,rfl,Nat.le_refl _,fun _ _=>rfl,fun _ _ h _=>h⟩
theorem Keeps.trans (h:Keeps B T w w')(k:Keeps B T w' w2):Keeps B T w w2:=
 ⟨k.os.trans h.os,k.tape.trans h.tape,k.output.trans h.output,Nat.le_trans h.size k.size,fun i hi=>(k.low i hi).trans (h.low i hi),fun i o ho hT=>k.block i o (h.block i o ho hT) hT⟩
theorem lt_of_some {w:World}{k:Nat}{o:Obj}(h:w.heap[k]? = some o):k<w.heap.size:=by
 rcases Nat.lt_or_ge k w.heap.size with hlt|hge
 ·exact hlt
 ·rw[Array.getElem?_eq_none hge] at h;cases h
theorem Keeps.of {C:Nat}(h:Below C w w')(hB:B<=C)(hC:w.heap.size<=C):Keeps B T w w':=
 ⟨h.os,h.tape,h.output,h.size,fun k hk=>h.block k (by omega),fun k o ho _=>(h.block k (Nat.lt_of_lt_of_le (lt_of_some ho) hC)).trans ho⟩
theorem Keeps.new (h:Below w.heap.size w w')(hB:B<=w.heap.size):Keeps B T w w':=Keeps.of h hB (Nat.le_refl _)
theorem Keeps.drew (h:Keeps B T w w')(n:Nat):Keeps B T w (w'.drewN n):=⟨h.os,h.tape,h.output,h.size,h.low,h.block⟩
theorem Keeps.drew1 (h:Keeps B T w w'):Keeps B T w w'.drew:=⟨h.os,h.tape,h.output,h.size,h.low,h.block⟩
theorem Keeps.undrew (h:Keeps B T w.drew w'):Keeps B T w w':=⟨h.os,h.tape,h.output,h.size,h.low,h.block⟩
theorem Keeps.alloc (h:Keeps B T w w')(hB:B<=w.heap.size)(o:Obj):Keeps B T w (w'.alloc o):=
 h.trans (Keeps.new ((Below.refl _ _).alloc (Nat.le_refl _) o) (Nat.le_trans hB h.size))
theorem Keeps.setCell (h:Keeps B T w w'){p:Addr}{o:Obj}(ho:w'.heap[p.block]? = some o)(hT:T p.block o)(hB:B<=p.block)(u:Value):Keeps B T w (w'.setCell p u):=
 h.trans ⟨rfl,rfl,rfl,by simp[World.setCell],fun k hk=>Below.heap_setCell _ _ _ _ (by omega),fun k o' ho' hT'=>by
  rw[Below.heap_setCell _ _ _ _ (fun e=>hT' (by subst e;rw[ho] at ho';cases ho';exact hT))];exact ho'⟩
theorem Keeps.grown (h:Keeps B T w w'){b:Nat}{o:Obj}(ho:w'.heap[b]? = some o)(hT:T b o)(hB:B<=b)(hg:w'.grownBy w2 (some b)):Keeps B T w w2:=
 h.trans ⟨hg.os,hg.tape,hg.output,hg.size,fun k hk=>hg.block k (Nat.lt_trans hk (by have:=lt_of_some ho;omega)) (by intro e;cases e;omega),fun k o' ho' hT'=>by
  rw[hg.block k (lt_of_some ho') (by intro e;cases e;rw[ho] at ho';cases ho';exact hT' hT)];exact ho'⟩
theorem Keeps.below (h:Keeps B T w w'){C:Nat}(hC:C<=B):Below C w w':=⟨h.os,h.tape,h.output,h.size,fun k hk=>h.low k (by omega)⟩
end
end IN
end Go.Proofs.YtfffibepcdlldaaGreat

namespace Go.Proofs.YtfffibepcdlldaaGreat
open Go.ChangeShapes Go.WideShapes Go.ChangeAt Go.RowKit Go.Maps
namespace IN
structure Nd where
 kind:Int
 links:Int
 opens:Int
 size:Int
 l:List (Int×ByteArray)
def upd (S:Int->Option Nd)(n:Int)(x:Option Nd):Int->Option Nd:=fun m=>if m=n then x else S m
theorem upd_at (S:Int->Option Nd)(n:Int)(x:Option Nd):upd S n x n=x:=if_pos rfl
theorem upd_ne {S:Int->Option Nd}{n m:Int}{x:Option Nd}(h:m≠n):upd S n x m=S m:=if_neg h
theorem upd_upd (S:Int->Option Nd)(n:Int)(x y:Option Nd):upd (upd S n x) n y=upd S n y:=by
 funext m;unfold upd;split <;> rfl
def PT (mb:Nat)(k:Nat)(o:Obj):Prop:=(∃ c s,o=.cells c 80 s)∨(∃ c s,o=.cells c 143 s)∨(k=mb/\∃ es c,o=.map es c)
def XE (w:World)(v:Value)(l:List (Int×ByteArray)):Prop:=∃ ao n c,v=.slice ao n c/\XS w ao n c l/\∀ a,ao=some a->∃ cur,w.heap[a.block]? = some (.cells cur 211 (0,0))
section
variable {w w':World}{v:Value}{l:List (Int×ByteArray)}
theorem XE.move (h:XE w v l)(hk:∀ (b:Nat) cur,w.heap[b]? = some (.cells cur 211 (0,0))->w'.heap[b]? = w.heap[b]?):XE w' v l:=by
 obtain⟨ao,n,c,rfl,hx,ht⟩:=h;refine⟨ao,n,c,rfl,⟨hx.1,hx.2.1,hx.2.2.1,hx.2.2.2.1,fun a ha j u hu=>?_⟩,fun a ha=>?_⟩
 ·have hc:=hx.2.2.2.2 a ha j u hu;obtain⟨cur,hb⟩:=ht a ha;have ea:(a.add j).block=a.block:=by
   unfold Addr.add
   split <;> rfl
  rw[World.cell?_of_block (w:=w) (w':=w') (a:=a.add j) (by rw[ea];exact hk _ cur hb)];exact hc
 ·obtain⟨cur,hb⟩:=ht a ha;exact⟨cur,(hk _ cur hb).trans hb⟩
theorem XE.keeps (h:XE w v l){B:Nat}{T:Nat->Obj->Prop}(hK:Keeps B T w w')(hT:∀ k c,¬ T k (.cells c 211 (0,0))):XE w' v l:=
 h.move fun b cur hb=>(hK.block b _ hb (hT b cur)).trans hb.symm
theorem XE.keep (h:XE w v l)(hb:Below w.heap.size w w'):XE w' v l:=h.move fun b cur hc=>hb.block b (lt_of_some hc)
theorem XE.nil (w:World):XE w (.slice none 0 0) []:=⟨none,0,0,rfl,XS.nil w,fun _ h=>by cases h⟩
theorem XE.own {base:Nat}(h:w.ownsRow base 211 2 v l.length (ecl l)):XE w v l:=by
 obtain⟨ao,c,rfl⟩:=Own.form h;refine⟨ao,_,c,rfl,XS_own h,fun a ha=>?_⟩;subst ha;rcases h.2 with ⟨h',_⟩|⟨g,cap,cur,h',_,hg,_⟩
 ·simp at h'
 ·simp only[Value.slice.injEq,Option.some.injEq] at h';obtain⟨rfl,-,rfl⟩:=h';exact⟨cur,hg⟩
end
def ncl (d:Nd)(v:Value):List Value:=[.int .i64 d.kind,.int .i64 d.links,.int .i64 d.opens,.int .i64 d.size,v]
def NB (w:World)(g:Nat)(d:Nd)(v:Value):Prop:=Blk w g 143 (ncl d v)/\XE w v d.l
theorem blk_ne {w:World}{g b:Nat}{e f:TypeId}{l m:List Value}(h:Blk w g e l)(k:Blk w b f m)(hef:e≠f):g≠b:=by
 intro e';subst e';unfold Blk at h k;rw[h] at k;simp only[Option.some.injEq,Obj.cells.injEq] at k;exact hef k.2.1
theorem map_obj {w:World}{b:Nat}{M:Int->Option Nat}(h:IS.MB w b M):∃ es c,w.heap[b]? = some (.map es c):=by
 obtain⟨D,⟨es,clock,hb,_⟩,_⟩:=h.ex;exact⟨es,clock,hb⟩
theorem blk_map {w:World}{g b:Nat}{e:TypeId}{l:List Value}{M:Int->Option Nat}(h:Blk w g e l)(k:IS.MB w b M):g≠b:=by
 intro e';subst e';obtain⟨es,c,hm⟩:=map_obj k;unfold Blk at h;rw[h] at hm
 cases hm
structure PM (base:Nat)(w:World)(sg mb:Nat)(M:Int->Option Nat)(I L left:Int)(S:Int->Option Nd):Prop where
 box:Blk w sg 80 [.map (some mb),.int .i64 I,.int .i64 L,.int .i64 left]
 mp:IS.MB w mb M
 dom:∀ n,M n=none↔S n=none
 node:∀ n g d,M n=some g->S n=some d->∃ v,NB w g d v
 inj:∀ n m g,M n=some g->M m=some g->n=m
 ge:base<=sg/\base<=mb/\∀ n g,M n=some g->base<=g
section
variable {base:Nat}{w w':World}{sg mb:Nat}{M:Int->Option Nat}{I L left:Int}{S:Int->Option Nd}
theorem PM.moved (h:PM base w sg mb M I L left S)(h1:w'.heap[sg]? = w.heap[sg]?)(h2:w'.heap[mb]? = w.heap[mb]?)(h3:∀ n g,M n=some g->w'.heap[g]? = w.heap[g]?)(h4:∀ (b:Nat) (cur:Array Value),w.heap[b]? = some (.cells cur 211 (0,0))->w'.heap[b]? = w.heap[b]?):PM base w' sg mb M I L left S:=
 ⟨h1.trans h.box,h.mp.heap h2,h.dom,fun n g d hM hS=>by
  obtain⟨v,hb,hx⟩:=h.node n g d hM hS;exact⟨v,(h3 n g hM).trans hb,hx.move h4⟩,h.inj,h.ge⟩
theorem PM.glt (h:PM base w sg mb M I L left S){n:Int}{g:Nat}(hM:M n=some g):g<w.heap.size:=by
 cases hS:S n with
 | none=>rw[(h.dom n).2 hS] at hM;cases hM
 | some d=>obtain⟨v,hb,_⟩:=h.node n g d hM hS;exact hb.lt
theorem PM.keep (h:PM base w sg mb M I L left S)(hb:Below w.heap.size w w'):PM base w' sg mb M I L left S:=
 h.moved (hb.block _ h.box.lt) (hb.block _ h.mp.lt) (fun n g hM=>hb.block _ (h.glt hM)) (fun b cur hc=>hb.block _ (lt_of_some hc))
theorem PM.drew1 (h:PM base w sg mb M I L left S):PM base w.drew sg mb M I L left S:=h.moved rfl rfl (fun _ _ _=>rfl) (fun _ _ _=>rfl)
theorem PM.alloc (h:PM base w sg mb M I L left S)(o:Obj):PM base (w.alloc o) sg mb M I L left S:=h.keep ((Below.refl _ _).alloc (Nat.le_refl _) o)
theorem PM.keeps (h:PM base w sg mb M I L left S){B:Nat}{T:Nat->Obj->Prop}(hK:Keeps B T w w')(h1:∀ k c s,¬ T k (.cells c 80 s))(h2:∀ k c s,¬ T k (.cells c 143 s))(h3:∀ es c,¬ T mb (.map es c))(h4:∀ k c,¬ T k (.cells c 211 (0,0))):PM base w' sg mb M I L left S:=by
 obtain⟨es,c,hm⟩:=map_obj h.mp;refine h.moved ((hK.block _ _ h.box (h1 _ _ _)).trans (Eq.symm h.box)) ((hK.block _ _ hm (h3 _ _)).trans hm.symm) (fun n g hM=>?_) (fun b cur hb=>(hK.block b _ hb (h4 b cur)).trans hb.symm)
 cases hS:S n with
 | none=>rw[(h.dom n).2 hS] at hM;cases hM
 | some d=>
   obtain⟨v,hb,_⟩:=h.node n g d hM hS;exact (hK.block _ _ hb (h2 _ _ _)).trans (Eq.symm hb)
theorem PM.has (h:PM base w sg mb M I L left S){n:Int}{d:Nd}(hS:S n=some d):∃ g v,M n=some g/\NB w g d v/\base<=g/\g≠sg/\g≠mb:=by
 cases hM:M n with
 | none=>rw[(h.dom n).1 hM] at hS;cases hS
 | some g=>
   obtain⟨v,hN⟩:=h.node n g d hM hS;exact⟨g,v,rfl,hN,h.ge.2.2 n g hM,blk_ne hN.1 h.box (by decide),blk_map hN.1 h.mp⟩
theorem PM.setNode (h:PM base w sg mb M I L left S){n:Int}{g:Nat}{d d':Nd}{v v':Value}(hM:M n=some g)(hS:S n=some d)(hb:Blk w g 143 (ncl d v))(hx:XE w v' d'.l)(j:Nat)(u:Value)(he:(ncl d v).set j u=ncl d' v') :
 PM base (w.setCell ⟨g,j,none⟩ u) sg mb M I L left (upd S n (some d'))/\NB (w.setCell ⟨g,j,none⟩ u) g d' v'/\Keeps base (PT mb) w (w.setCell ⟨g,j,none⟩ u):=by
 have hgs:sg≠g:=(blk_ne hb h.box (by decide)).symm;have hgm:mb≠g:=(blk_map hb h.mp).symm;have hext:∀ (b:Nat) (cur:Array Value),w.heap[b]? = some (.cells cur 211 (0,0))->(w.setCell ⟨g,j,none⟩ u).heap[b]? = w.heap[b]?:=fun b cur hc=>Below.heap_setCell _ _ _ _ (fun e=>by
  have e':b=g:=e;subst e';unfold Blk at hb;rw[hb] at hc;simp only[Option.some.injEq,Obj.cells.injEq] at hc;exact absurd hc.2.1 (by decide))
 have hnew:Blk (w.setCell ⟨g,j,none⟩ u) g 143 (ncl d' v'):=by
  have:=hb.set j u;rw[he] at this;exact this
 refine⟨⟨h.box.far hgs u,h.mp.far hgm u,fun m=>?_,fun m g' d'' hM' hS'=>?_,h.inj,h.ge⟩,⟨hnew,hx.move hext⟩,(Keeps.refl base (PT mb) w).setCell (p:=⟨g,j,none⟩) (o:=.cells (ncl d v).toArray 143 (0,0)) hb (.inr (.inl ⟨_,_,rfl⟩)) (h.ge.2.2 n g hM) u⟩
 ·by_cases e:m=n
  ·subst e;rw[upd_at,hM];simp
  ·rw[upd_ne e];exact h.dom m
 ·by_cases e:m=n
  ·subst e;rw[upd_at] at hS'
   cases hS'
   rw[hM] at hM'
   cases hM'
   exact⟨v',hnew,hx.move hext⟩
  ·rw[upd_ne e] at hS';obtain⟨v'',hb',hx'⟩:=h.node m g' d'' hM' hS';exact⟨v'',hb'.far (p:=⟨g,j,none⟩) (fun e'=>e (h.inj m n g (by have e2:g'=g:=e';rw[<-e2];exact hM') hM)) u,hx'.move hext⟩
theorem PM.setLeft (h:PM base w sg mb M I L left S)(x:Int):PM base (w.setCell ⟨sg,3,none⟩ (.int .i64 x)) sg mb M I L x S/\Keeps base (PT mb) w (w.setCell ⟨sg,3,none⟩ (.int .i64 x)):=by
 have hext:∀ (b:Nat) (cur:Array Value),w.heap[b]? = some (.cells cur 211 (0,0))->(w.setCell ⟨sg,3,none⟩ (.int .i64 x)).heap[b]? = w.heap[b]?:=fun b cur hc=>Below.heap_setCell _ _ _ _ (fun e=>by
  have e':b=sg:=e;subst e';have hb:=h.box;unfold Blk at hb;rw[hb] at hc;simp only[Option.some.injEq,Obj.cells.injEq] at hc;exact absurd hc.2.1 (by decide))
 refine⟨⟨h.box.set 3 _,h.mp.far (blk_map h.box h.mp).symm _,h.dom,fun n g d hM hS=>?_,h.inj,h.ge⟩,(Keeps.refl base (PT mb) w).setCell (p:=⟨sg,3,none⟩) (o:=.cells [Value.map (some mb),.int .i64 I,.int .i64 L,.int .i64 left].toArray 80 (0,0)) h.box (.inl ⟨_,_,rfl⟩) h.ge.1 _⟩;obtain⟨v,hb,hx⟩:=h.node n g d hM hS;exact⟨v,hb.far (blk_ne hb h.box (by decide)) _,hx.move hext⟩
theorem PM.turn (h:PM base w sg mb M I L left S) {M':Int->Option Nat} (hm:IS.MB w' mb M') (hg:w.grownBy w' (some mb)) (S':Int->Option Nd) (hd:∀ n,M' n=none↔S' n=none)
 (hn:∀ n g d,M' n=some g->S' n=some d->(M n=some g/\S n=some d)∨∃ v,NB w g d v/\base<=g) (hi:∀ n m g,M' n=some g->M' m=some g->n=m):PM base w' sg mb M' I L left S'/\Keeps base (PT mb) w w':=by
 obtain⟨es,c,hmo⟩:=map_obj h.mp;have hext:∀ (b:Nat) (cur:Array Value),w.heap[b]? = some (.cells cur 211 (0,0))->w'.heap[b]? = w.heap[b]?:=fun b cur hc=>hg.block b (lt_of_some hc) (fun e=>by cases e;rw[hmo] at hc;cases hc);have hmv:∀ {g:Nat} {d:Nd} {v:Value},NB w g d v->NB w' g d v:=fun {g d v} k=>⟨k.1.grown hg (fun e=>blk_map k.1 h.mp (Option.some.inj e)),k.2.move hext⟩;refine⟨⟨h.box.grown hg (fun e=>blk_map h.box h.mp (Option.some.inj e)),hm,hd,fun n g d hM hS=>?_,hi,h.ge.1,h.ge.2.1,fun n g hM=>?_⟩,(Keeps.refl _ _ _).grown hmo (.inr (.inr ⟨rfl,_,_,rfl⟩)) h.ge.2.1 hg⟩
 ·rcases hn n g d hM hS with ⟨h1,h2⟩|⟨v,h1,_⟩
  ·obtain⟨v,hN⟩:=h.node n g d h1 h2;exact⟨v,hmv hN⟩
  ·exact⟨v,hmv h1⟩
 ·cases hS:S' n with
  | none=>rw[(hd n).2 hS] at hM;cases hM
  | some d=>
    rcases hn n g d hM hS with ⟨h1,h2⟩|⟨v,_,h1⟩
    ·exact h.ge.2.2 n g h1
    ·exact h1
end
end IN
namespace IN
theorem unless_any (b:Bool)(e:Int)(w:World):Calls prog 101 #[.bool b,.int .i64 e] w fun r w'=>r=.returned (.int .i64 (if b=true then 0 else e))/\w'=w:=by
 go_enter func101,ntmps101
 cases b <;>
 ·go_wp2
  go_ret
  exact⟨rfl,rfl⟩
def Ans (r:Int)(w:World)(e:Ending)(w':World):Prop:=e=.returned (.int .i64 r)/\Below w.heap.size w w'
theorem ans_drew {r:Int}{w:World}(n:Nat):Ans r w (.returned (.int .i64 r)) (w.drewN n):=⟨rfl,⟨rfl,rfl,rfl,Nat.le_refl _,fun _ _=>rfl⟩⟩
theorem ans_same {r:Int}{w:World}:Ans r w (.returned (.int .i64 r)) w:=⟨rfl,Below.refl _ _⟩
theorem isKind_any (k:Int)(w:World):Calls prog 71 #[.int .i64 k] w (Ans (if k=1∨k=2 then 0 else 2) w):=by
 have cU:=fun b w=>unless_any b 2 w;go_enter func71,ntmps71
 by_cases h1:k=1
 ·subst h1;go_wp2_with (go_at_call 101;refine (cU _ _).mono ?_;rintro e w' ⟨rfl,rfl⟩)
  go_ret
  exact ans_same
 ·by_cases h2:k=2
  ·subst h2;go_wp2_with (go_at_call 101;refine (cU _ _).mono ?_;rintro e w' ⟨rfl,rfl⟩)
   go_ret
   exact ans_same
  ·rw[if_neg (by omega)];go_wp2_with (go_at_call 101;refine (cU _ _).mono ?_;rintro e w' ⟨rfl,rfl⟩)
   go_ret
   exact ans_same
section
variable {base sg mb:Nat}{M:Int->Option Nat}{I L left:Int}{S:Int->Option Nd}
theorem made_some (a:Value)(w:World)(h:PM base w sg mb M I L left S):Calls prog 53 #[.pointer (some ⟨sg,0,none⟩),a] w (Ans 0 w):=by
 have cU:=fun w=>unless_any true 1 w;have c0:=h.box.cell (j:=0) rfl;have qT:∀ (w:World) (r:Option Nat),(binOp .neq 78 (.map r) (.map none)).run prog w=.ok (.bool (!r.isNone)) w:=fun w r=>run_neq_map_nil w _ _ _ r IS.und_map;clear h;go_enter func53,ntmps53
 go_wp2_with (go_at_call 101;refine (cU _).mono ?_;rintro e w' ⟨rfl,rfl⟩)
 go_ret
 exact ans_same
theorem has_any (n:Int)(w:World)(h:PM base w sg mb M I L left S)(hn:IS.I64 n):Calls prog 73 #[.pointer (some ⟨sg,0,none⟩),.int .i64 n] w (Ans (if (S n).isSome=true then 0 else 11) w):=by
 have cU:=fun b w=>unless_any b 11 w;have c0:=h.box.cell (j:=0) rfl;have hl:=h.mp.look n hn;have hd:(S n).isSome=(M n).isSome:=by
  have:=h.dom n
  cases hM:M n <;> cases hS:S n <;> simp_all
 rw[hd];clear h hd;generalize M n=x at hl ⊢
 cases x with
 | none=>
   go_enter func73,ntmps73
   simp only[IS.ptr] at hl;go_wp2_with (go_at_call 101;refine (cU _ _).mono ?_;rintro e w' ⟨rfl,rfl⟩)
   go_ret
   exact ans_same
 | some g=>
   go_enter func73,ntmps73
   simp only[IS.ptr] at hl;go_wp2_with (go_at_call 101;refine (cU _ _).mono ?_;rintro e w' ⟨rfl,rfl⟩)
   go_ret
   exact ans_same
theorem room_any (n:Value)(ss:List Nat)(w:World)(h:PM base w sg mb M I L left S)(hs:IS.Nums M ss):Calls prog 72 #[.pointer (some ⟨sg,0,none⟩),n] w (Ans (if (ss.length:Int)<I then 0 else 21) w):=by
 have cT:=fun t=>Calls.quiet_of_same (unless_any true 21 (w.drewN t));have cF:=fun t=>Calls.quiet_of_same (unless_any false 21 (w.drewN t));have c0:=h.box.cell (j:=0) rfl;have c1:=h.box.cell (j:=1) rfl;have hl:=fun t ty=>(h.mp.drew t).count hs ty;have hl0:=fun ty=>h.mp.count hs ty;clear h
 by_cases hlt:(ss.length:Int)<I
 ·rw[if_pos hlt];go_enter func72,ntmps72
  go_wp2_with fail
  go_quiet ((go_at_call 101;exact cT _))
  go_wp2_with fail
  go_ret
  exact ans_drew _
 ·rw[if_neg hlt];have hd:decide ((ss.length:Int)<I)=false:=decide_eq_false hlt;go_enter func72,ntmps72
  go_wp2_with fail
  go_quiet ((go_at_call 101;exact cF _))
  go_wp2_with fail
  go_ret
  exact ans_drew _
theorem file_any (n:Int)(d:Nd)(w:World)(h:PM base w sg mb M I L left S)(hn:IS.I64 n)(hS:S n=some d):Calls prog 112 #[.pointer (some ⟨sg,0,none⟩),.int .i64 n] w (Ans (if d.kind=1 then 0 else 14) w):=by
 have cU:=fun b w=>unless_any b 14 w;have c0:=h.box.cell (j:=0) rfl;have hl:=h.mp.look n hn;obtain⟨g,v,hM,hN,-⟩:=h.has hS;have d0:=hN.1.cell (j:=0) rfl;rw[hM] at hl;simp only[IS.ptr] at hl;clear h hN hM;go_enter func112,ntmps112
 by_cases hk:d.kind=1
 ·rw[hk] at d0;rw[if_pos hk];go_wp2_with (go_at_call 101;refine (cU _ _).mono ?_;rintro e w' ⟨rfl,rfl⟩)
  go_ret
  exact ans_same
 ·rw[if_neg hk];go_wp2_with (go_at_call 101;refine (cU _ _).mono ?_;rintro e w' ⟨rfl,rfl⟩)
  go_ret
  simp[hk];exact ans_same
theorem linkable_any (n:Int)(d:Nd)(w:World)(h:PM base w sg mb M I L left S)(hn:IS.I64 n)(hS:S n=some d):Calls prog 173 #[.pointer (some ⟨sg,0,none⟩),.int .i64 n] w (Ans (if d.links<L then 0 else 18) w):=by
 have cT:=fun t=>Calls.quiet_of_same (unless_any true 18 (w.drewN t));have cF:=fun t=>Calls.quiet_of_same (unless_any false 18 (w.drewN t));have cV:=fun b w=>unless_any b 18 w;have c0:=h.box.cell (j:=0) rfl;have c2:=h.box.cell (j:=2) rfl;have hl:=fun t=>(h.mp.drew t).look n hn;have hl0:=h.mp.look n hn;obtain⟨g,v,hM,hN,-⟩:=h.has hS;have d1:=hN.1.cell (j:=1) rfl;rw[hM] at hl hl0;simp only[IS.ptr] at hl hl0;clear h hN hM;go_enter func173,ntmps173
 by_cases hk:d.links<L
 ·rw[if_pos hk];go_wp2_with fail
  go_quiet ((go_at_call 101;exact cT _))
  go_wp2_with fail
  go_ret
  exact ans_drew _
 ·rw[if_neg hk];have hd:decide (d.links<L)=false:=decide_eq_false hk;go_wp2_with fail
  go_quiet ((go_at_call 101;exact cF _))
  go_wp2_with fail
  go_ret
  exact ans_drew _
theorem linked_any (n:Int)(d:Nd)(w:World)(h:PM base w sg mb M I L left S)(hn:IS.I64 n)(hS:S n=some d):Calls prog 188 #[.pointer (some ⟨sg,0,none⟩),.int .i64 n] w (Ans (if 0<d.links then 0 else 2) w):=by
 have cU:=fun b w=>unless_any b 2 w;have c0:=h.box.cell (j:=0) rfl;have hl:=h.mp.look n hn;obtain⟨g,v,hM,hN,-⟩:=h.has hS;have d1:=hN.1.cell (j:=1) rfl;rw[hM] at hl;simp only[IS.ptr] at hl;clear h hN hM;go_enter func188,ntmps188
 by_cases hk:0<d.links
 ·rw[if_pos hk];go_wp2_with (go_at_call 101;refine (cU _ _).mono ?_;rintro e w' ⟨rfl,rfl⟩)
  go_ret
  simp[hk];exact ans_same
 ·rw[if_neg hk];go_wp2_with (go_at_call 101;refine (cU _ _).mono ?_;rintro e w' ⟨rfl,rfl⟩)
  go_ret
  simp[hk];exact ans_same
theorem opened_any (n:Int)(d:Nd)(w:World)(h:PM base w sg mb M I L left S)(hn:IS.I64 n)(hS:S n=some d):Calls prog 151 #[.pointer (some ⟨sg,0,none⟩),.int .i64 n] w (Ans (if 0<d.opens then 0 else 2) w):=by
 have cU:=fun b w=>unless_any b 2 w;have c0:=h.box.cell (j:=0) rfl;have hl:=h.mp.look n hn;obtain⟨g,v,hM,hN,-⟩:=h.has hS;have d1:=hN.1.cell (j:=2) rfl;rw[hM] at hl;simp only[IS.ptr] at hl;clear h hN hM;go_enter func151,ntmps151
 by_cases hk:0<d.opens
 ·rw[if_pos hk];go_wp2_with (go_at_call 101;refine (cU _ _).mono ?_;rintro e w' ⟨rfl,rfl⟩)
  go_ret
  simp[hk];exact ans_same
 ·rw[if_neg hk];go_wp2_with (go_at_call 101;refine (cU _ _).mono ?_;rintro e w' ⟨rfl,rfl⟩)
  go_ret
  simp[hk];exact ans_same
end
def fst:List Int->Int
 | []=>0
 | r :: rs=>if r=0 then fst rs else r
def Chk (w:World)(arg:Value)(f:Value)(r:Int):Prop:=∃ (k:Nat) (c:Array Value),f=.func (.func k) c #[]/\(∀ w,(callFunc k (c ++ #[arg])).run prog w=.ok (.enter k (c ++ #[arg])) w)/\∀ W,Below w.heap.size w W->Calls prog k (c ++ #[arg]) W (Ans r W)
end IN
end Go.Proofs.YtfffibepcdlldaaGreat

namespace Go.Proofs.YtfffibepcdlldaaGreat
namespace IN
def ent (S:Int->Option Nd)(i:Nat):Option (Nat×Nd):=(S ((i+1:Nat):Int)).map fun d=>(i+1,d)
def lst (S:Int->Option Nd)(I:Nat):List (Nat×Nd):=(List.range I).filterMap (ent S)
def lo (S:Int->Option Nd)(n:Nat):List (Nat×Nd):=(List.range (n-1)).filterMap (ent S)
def hi (S:Int->Option Nd)(n I:Nat):List (Nat×Nd):=(List.range' n (I-n)).filterMap (ent S)
def ks (S:Int->Option Nd)(I:Nat):List Nat:=(lst S I).map (·.1)
def tot (S:Int->Option Nd)(I:Nat):Nat:=((lst S I).map fun x=>EM.cnt x.2.l).sum
def cntOf (x:Option Nd):Nat:=match x with|none=>0|some d=>EM.cnt d.l
theorem fm_congr {α β:Type}{f g:α->Option β}:∀ {l:List α},(∀ x∈l,f x=g x)->l.filterMap f=l.filterMap g
 | [],_=>rfl
 | a :: l,h=>by
   rw[List.filterMap_cons,List.filterMap_cons,h a List.mem_cons_self,fm_congr (fun x hx=>h x (List.mem_cons_of_mem _ hx))]
theorem split (S:Int->Option Nd)(n I:Nat)(h1:1<=n)(h2:n<=I):lst S I=lo S n ++ ((S (n:Int)).map fun d=>(n,d)).toList ++ hi S n I:=by
 have e:List.range I=List.range (n-1) ++ [n-1] ++ List.range' n (I-n):=by
  rw[List.range_eq_range',List.range_eq_range'];have e1:List.range' 0 (n-1) ++ [n-1]=List.range' 0 n:=by
   have:n=n-1+1:=by omega
   conv=>rhs;rw[this,List.range'_concat]
   simp
  rw[e1];have e2:I=n+(I-n):=by omega
  conv=>lhs;rw[e2]
  rw[<-List.range'_append];simp
 unfold lst;rw[e,List.filterMap_append,List.filterMap_append];have:(n-1+1:Nat)=n:=by omega
 have hone:List.filterMap (ent S) [n-1]=((S (n:Int)).map fun d=>(n,d)).toList:=by
  unfold ent;rw[List.filterMap_cons];rw[this]
  cases S (n:Int) <;> rfl
 rw[hone]
 rfl
theorem lo_upd (S:Int->Option Nd)(n:Nat)(x:Option Nd):lo (upd S (n:Int) x) n=lo S n:=
 fm_congr fun i hi=>by
  have:=List.mem_range.1 hi;unfold ent;rw[upd_ne (by omega)]
theorem hi_upd (S:Int->Option Nd)(n I:Nat)(x:Option Nd):hi (upd S (n:Int) x) n I=hi S n I:=
 fm_congr fun i hi=>by
  have:=List.mem_range'_1.1 hi;unfold ent;rw[upd_ne (by omega)]
theorem lst_upd (S:Int->Option Nd)(n I:Nat)(x:Option Nd)(h1:1<=n)(h2:n<=I):lst (upd S (n:Int) x) I=lo S n ++ (x.map fun d=>(n,d)).toList ++ hi S n I:=by
 rw[split _ n I h1 h2,lo_upd,hi_upd,upd_at]
theorem tot_upd (S:Int->Option Nd)(n I:Nat)(x:Option Nd)(h1:1<=n)(h2:n<=I):tot (upd S (n:Int) x) I+cntOf (S n)=tot S I+cntOf x:=by
 unfold tot;rw[lst_upd S n I x h1 h2,split S n I h1 h2];simp only[List.map_append,List.sum_append]
 cases x <;> cases hS:S (n:Int) <;> simp[cntOf] <;> omega
theorem tot_ge (S:Int->Option Nd)(n I:Nat)(h1:1<=n)(h2:n<=I):cntOf (S n)<=tot S I:=by
 unfold tot;rw[split S n I h1 h2];simp only[List.map_append,List.sum_append]
 cases hS:S (n:Int) <;> simp[cntOf] <;> omega
theorem mem_lst {S:Int->Option Nd}{I:Nat}{x:Nat×Nd}:x∈lst S I↔1<=x.1/\x.1<=I/\S (x.1:Int)=some x.2:=by
 unfold lst;rw[List.mem_filterMap]
 constructor
 ·rintro ⟨i,hi,e⟩;have:=List.mem_range.1 hi;unfold ent at e
  cases hS:S ((i+1:Nat):Int) with
  | none=>rw[hS] at e;cases e
  | some d=>rw[hS] at e;cases e;exact⟨by simp,by simp;omega,hS⟩
 ·rintro ⟨h1,h2,h3⟩;refine⟨x.1-1,List.mem_range.2 (by omega),?_⟩;unfold ent;have:x.1-1+1=x.1:=by omega
  rw[this,h3]
  rfl
theorem lst_rise (S:Int->Option Nd)(I:Nat):(lst S I).Pairwise fun a b=>a.1<b.1:=by
 unfold lst;rw[List.pairwise_filterMap];refine List.Pairwise.imp ?_ List.pairwise_lt_range;intro i j hij a ha b hb;unfold ent at ha hb
 cases hS:S ((i+1:Nat):Int) with
 | none=>rw[hS] at ha;cases ha
 | some d=>
   cases hS':S ((j+1:Nat):Int) with
   | none=>rw[hS'] at hb;cases hb
   | some d'=>rw[hS] at ha;rw[hS'] at hb;cases ha;cases hb;simp;exact hij
theorem ks_rise (S:Int->Option Nd)(I:Nat):(ks S I).Pairwise (· < ·):=by
 unfold ks;rw[List.pairwise_map];exact lst_rise S I
theorem ks_mem {S:Int->Option Nd}{I:Nat}(h:∀ n,S n≠none->1<=n/\n<=(I:Int))(f:Nat):f∈ks S I↔S (f:Int)≠none:=by
 unfold ks;rw[List.mem_map]
 constructor
 ·rintro ⟨x,hx,rfl⟩;rw[(mem_lst.1 hx).2.2];simp
 ·intro hf;have:=h f hf
  cases hS:S (f:Int) with
  | none=>exact absurd hS hf
  | some d=>exact⟨(f,d),mem_lst.2 ⟨by omega,by omega,hS⟩,rfl⟩
theorem ks_nums {S:Int->Option Nd}{M:Int->Option Nat}{I:Nat}(h:∀ n,S n≠none->1<=n/\n<=(I:Int))(hd:∀ n,M n=none↔S n=none):IS.Nums M (ks S I):=
 ⟨(ks_rise S I).imp fun h=>by omega,fun f=>by rw[ks_mem h,ne_eq,ne_eq,hd]⟩
theorem ks_len (S:Int->Option Nd)(I:Nat):(ks S I).length=(lst S I).length:=by simp[ks]
theorem lst_len (S:Int->Option Nd)(I:Nat):(lst S I).length<=I:=by
 have:=List.length_filterMap_le (ent S) (List.range I);simpa[lst] using this
theorem rise_eq:∀ {l m:List Nat},l.Pairwise (· < ·)->m.Pairwise (· < ·)->(∀ x,x∈l↔x∈m)->l=m
 | [],[],_,_,_=>rfl
 | [],b :: m,_,_,h=>by have:=(h b).2 (by simp);simp at this
 | a :: l,[],_,_,h=>by have:=(h a).1 (by simp);simp at this
 | a :: l,b :: m,h1,h2,h=>by
   have p1:=List.pairwise_cons.1 h1;have p2:=List.pairwise_cons.1 h2;have hab:a=b:=by
    have ha:=(h a).1 (by simp);have hb:=(h b).2 (by simp);rcases List.mem_cons.1 ha with e|ha'
    ·exact e
    ·rcases List.mem_cons.1 hb with e|hb'
     ·exact e.symm
     ·have:=p1.1 b hb';have:=p2.1 a ha';omega
   subst hab;rw[rise_eq p1.2 p2.2 fun x=>?_];have hx:=h x
   constructor
   ·intro hxl;rcases List.mem_cons.1 (hx.1 (List.mem_cons_of_mem _ hxl)) with e|h'
    ·subst e;have:=p1.1 x hxl;omega
    ·exact h'
   ·intro hxm;rcases List.mem_cons.1 (hx.2 (List.mem_cons_of_mem _ hxm)) with e|h'
    ·subst e;have:=p2.1 x hxm;omega
    ·exact h'
def Low (S:Int->Option Nd)(n:Nat):Prop:=1<=n/\S (n:Int)=none/\∀ m:Nat,1<=m->m<n->S (m:Int)≠none
theorem low_or (S:Int->Option Nd):∀ k:Nat,(∃ n,n<=k/\Low S n)∨∀ m:Nat,1<=m->m<=k->S (m:Int)≠none
 | 0=>.inr fun m h1 h2=>by omega
 | k+1=>by
   rcases low_or S k with ⟨n,h1,h2⟩|h
   ·exact .inl ⟨n,by omega,h2⟩
   ·by_cases e:S ((k+1:Nat):Int)=none
    ·exact .inl ⟨k+1,by omega,by omega,e,fun m h1 h2=>h m h1 (by omega)⟩
    ·refine .inr fun m h1 h2=>?_
     by_cases hm:m=k+1
     ·rw[hm];exact e
     ·exact h m h1 (by omega)
theorem fm_full {S:Int->Option Nd}:∀ k:Nat,(∀ m:Nat,1<=m->m<=k->S (m:Int)≠none)->((List.range k).filterMap (ent S)).length=k/\∀ i x,((List.range k).filterMap (ent S))[i]? = some x->x.1=i+1
 | 0,_=>⟨rfl,fun i x h=>by simp at h⟩
 | k+1,h=>by
   obtain⟨h1,h2⟩:=fm_full k fun m a b=>h m a (by omega);have h3:=h (k+1) (by omega) (by omega)
   cases hS:S ((k+1:Nat):Int) with
   | none=>exact absurd hS h3
   | some d=>
     have e:(List.range (k+1)).filterMap (ent S)=(List.range k).filterMap (ent S) ++ [(k+1,d)]:=by
      rw[List.range_succ,List.filterMap_append]
      congr 1
      unfold ent;rw[List.filterMap_cons,hS]
      rfl
     rw[e];refine⟨by simp[h1],fun i x hx=>?_⟩
     by_cases hi:i<k
     ·rw[List.getElem?_append_left (by omega)] at hx;exact h2 i x hx
     ·rw[List.getElem?_append_right (by omega),h1] at hx;have:i-k=0:=by
       rcases Nat.eq_zero_or_pos (i-k) with e|e
       ·exact e
       ·rw[List.getElem?_eq_none (by simp;omega)] at hx;cases hx
      rw[this] at hx
      cases hx
      simp;omega
theorem low_of {S:Int->Option Nd}{I:Nat}(h:(lst S I).length<I):∃ n,n<=I/\Low S n:=by
 rcases low_or S I with h1|h1
 ·exact h1
 ·have:=(fm_full I h1).1;unfold lst at h
  omega
theorem low_lo {S:Int->Option Nd}{n:Nat}(h:Low S n):(lo S n).length=n-1/\∀ i x,(lo S n)[i]? = some x->x.1=i+1:=
 fm_full (n-1) fun m h1 h2=>h.2.2 m h1 (by have:=h.1;omega)
structure Good (L k:Nat)(d:Nd):Prop where
 kind:d.kind=1∨d.kind=2
 links:0<=d.links/\d.links<=L
 opens:0<=d.opens/\d.opens<=k
 some:1<=d.links+d.opens
 size:0<=d.size/\d.size<=1048576
 ok:EM.ok 0 d.l=true
 fin:ends d.l<=d.size
 dir:d.kind=2->d.size=0/\d.l=[]
structure Fine (I L B k:Nat)(S:Int->Option Nd):Prop where
 num:∀ n,S n≠none->1<=n/\n<=(I:Int)
 good:∀ n d,S n=some d->Good L k d
 tot:tot S I<=B
theorem Fine.empty (I L B:Nat):Fine I L B 0 fun _=>none:=
 ⟨fun _ h=>absurd rfl h,fun _ _ h=>(by cases h),by
  have:lst (fun _=>none) I=[]:=List.eq_nil_iff_forall_not_mem.2 fun x hx=>by have:=(mem_lst.1 hx).2.2;cases this
  unfold IN.tot;rw[this];simp⟩
theorem Good.mono {L k k':Nat}{d:Nd}(h:Good L k d)(hk:k<=k'):Good L k' d:=⟨h.kind,h.links,⟨h.opens.1,by have:=h.opens.2;omega⟩,h.some,h.size,h.ok,h.fin,h.dir⟩
theorem Fine.mono {I L B k k':Nat}{S:Int->Option Nd}(h:Fine I L B k S)(hk:k<=k'):Fine I L B k' S:=⟨h.num,fun n d e=>(h.good n d e).mono hk,h.tot⟩
theorem Fine.turn {I L B k:Nat}{S:Int->Option Nd}(h:Fine I L B k S){n:Nat}{x:Option Nd}(h1:1<=n)(h2:n<=I)(hg:∀ d,x=some d->Good L k d)(ht:IN.tot S I+cntOf x<=B+cntOf (S n)):Fine I L B k (upd S n x):=by
 refine⟨fun m hm=>?_,fun m d hd=>?_,?_⟩
 ·by_cases e:m=n
  ·omega
  ·rw[upd_ne e] at hm;exact h.num m hm
 ·by_cases e:m=n
  ·subst e;rw[upd_at] at hd;exact hg d hd
  ·rw[upd_ne e] at hd;exact h.good m d hd
 ·have:=tot_upd S n I x h1 h2
  omega
end IN
end Go.Proofs.YtfffibepcdlldaaGreat

/- Contracts of package inode's stat, Stat, of stores that are there. -/
import Derived.Test.YtieneehpijilpaaInoOps
namespace Go.Proofs.Ytieneehpijilpaa
open Go.ChangeShapes Go.WideShapes Go.ChangeAt Go.RowKit Go.Maps
set_option linter.unusedVariables false
set_option linter.unusedSimpArgs false
namespace IN

/-- What an inode says. -/
def stl (n : Int) (d : Nd) : List Value := [.int .i64 n, .int .i64 d.kind, .int .i64 d.links, .int .i64 d.opens, .int .i64 d.size, .int .i64 (EM.cnt d.l : Int)]
def zl : List Value := [.int .i64 0, .int .i64 0, .int .i64 0, .int .i64 0, .int .i64 0, .int .i64 0]
def six (a b c d e f : Int) : List Value := [.int .i64 a, .int .i64 b, .int .i64 c, .int .i64 d, .int .i64 e, .int .i64 f]

theorem res_one {fn : Func} {r : Tmp} (hres : fn.results = #[.cell r 41]) (tmps : Array Value) (w : World) {g : Nat} {a b c d e f : Int} (hr : tmps.getD r undef = .pointer (some ⟨g, 0, none⟩)) (hp : Blk w g 41 (six a b c d e f)) :
    (results fn tmps).run Try.prog w = .ok (.agg (six a b c d e f).toArray) w := by
  have c0 := hp.cell (j := 0) rfl
  have c1 := hp.cell (j := 1) rfl
  have c2 := hp.cell (j := 2) rfl
  have c3 := hp.cell (j := 3) rfl
  have c4 := hp.cell (j := 4) rfl
  have c5 := hp.cell (j := 5) rfl
  rw [Array.getD_eq_getD_getElem?] at hr
  simp [results, hres, go_sem, hr, c0, c1, c2, c3, c4, c5, six]
theorem res_two {fn : Func} {r t : Tmp} (hres : fn.results = #[.cell r 41, .tmp t]) (tmps : Array Value) (w : World) {g : Nat} {a b c d e f : Int} (hr : tmps.getD r undef = .pointer (some ⟨g, 0, none⟩)) (hp : Blk w g 41 (six a b c d e f)) :
    (results fn tmps).run Try.prog w = .ok (.tuple #[.agg (six a b c d e f).toArray, tmps.getD t undef]) w := by
  have c0 := hp.cell (j := 0) rfl
  have c1 := hp.cell (j := 1) rfl
  have c2 := hp.cell (j := 2) rfl
  have c3 := hp.cell (j := 3) rfl
  have c4 := hp.cell (j := 4) rfl
  have c5 := hp.cell (j := 5) rfl
  rw [Array.getD_eq_getD_getElem?] at hr
  simp [results, hres, go_sem, hr, c0, c1, c2, c3, c4, c5, six]

/-- Six stores into a block of six cells. -/
def six_set (w : World) (r : Nat) (a b c d e f : Int) : World := (((((w.setCell ⟨r, 0, none⟩ (.int .i64 a)).setCell ⟨r, 1, none⟩ (.int .i64 b)).setCell ⟨r, 2, none⟩ (.int .i64 c)).setCell ⟨r, 3, none⟩ (.int .i64 d)).setCell ⟨r, 4, none⟩ (.int .i64 e)).setCell ⟨r, 5, none⟩ (.int .i64 f)
theorem six_blk {w : World} {r : Nat} {x0 x1 x2 x3 x4 x5 : Value} (h : Blk w r 41 [x0, x1, x2, x3, x4, x5]) (a b c d e f : Int) : Blk (six_set w r a b c d e f) r 41 (six a b c d e f) :=
  (((((h.set 0 (.int .i64 a)).set 1 (.int .i64 b)).set 2 (.int .i64 c)).set 3 (.int .i64 d)).set 4 (.int .i64 e)).set 5 (.int .i64 f)
theorem six_below {w0 w : World} {r B : Nat} (h : Below B w0 w) (hr : B ≤ r) (a b c d e f : Int) : Below B w0 (six_set w r a b c d e f) :=
  (((((h.setCell (p := ⟨r, 0, none⟩) hr _).setCell (p := ⟨r, 1, none⟩) hr _).setCell (p := ⟨r, 2, none⟩) hr _).setCell (p := ⟨r, 3, none⟩) hr _).setCell (p := ⟨r, 4, none⟩) hr _).setCell (p := ⟨r, 5, none⟩) hr _

section
variable {base sg mb : Nat} {M : Int → Option Nat} {S : Int → Option Nd}
set_option maxRecDepth 100000 in
set_option maxHeartbeats 4000000 in
theorem stat_any (n : Int) (d : Nd) (w : World) {I L left : Int} (h : PM base w sg mb M I L left S) (hn : IS.I64 n) (hS : S n = some d) (hok : EM.ok 0 d.l = true) :
    Calls Try.prog 39 #[.pointer (some ⟨sg, 0, none⟩), .int .i64 n] w fun e w' => e = .returned (.agg (stl n d).toArray) ∧ Below w.heap.size w w' := by
  obtain ⟨g, v, hM, hN, -⟩ := h.has hS
  have hlt := hN.1.lt
  obtain ⟨W0, hW0⟩ : ∃ W0, w.alloc (.cells #[.int .i64 0, .int .i64 0, .int .i64 0, .int .i64 0, .int .i64 0, .int .i64 0] 41) = W0 := ⟨_, rfl⟩
  have hb0 : Below w.heap.size w W0 := by rw [← hW0]; exact (Below.refl _ _).alloc (Nat.le_refl _) _
  have hr0 : Blk W0 w.heap.size 41 zl := by rw [← hW0]; exact Blk.new w _ zl rfl
  have h0 := h.keep hb0
  have c0 := h0.box.cell (j := 0) rfl
  have hlk := h0.mp.look n hn
  rw [hM] at hlk
  simp only [IS.ptr] at hlk
  have hN0 : NB W0 g d v := ⟨hN.1.keep hb0, hN.2.keep hb0⟩
  have d0 := hN0.1.cell (j := 0) rfl
  have d1 := hN0.1.cell (j := 1) rfl
  have d2 := hN0.1.cell (j := 2) rfl
  have d3 := hN0.1.cell (j := 3) rfl
  have d4 := hN0.1.cell (j := 4) rfl
  have hNN := W_hid (show Blk W0.drew g 74 (ncl d v) from hN0.1)
  have cS := W_hid (stored_any v d.l W0.drew hN0.2 hok)
  have hN1 := W_hid (fun w' (hb : Below W0.heap.size W0 w') => hN0.1.keep hb)
  have hs0 : W0.heap.size = w.heap.size + 1 := by rw [← hW0]; simp
  have hb0 := W_hid hb0
  have hr0 := W_hid hr0
  replace hs0 := W_hid hs0
  clear h h0 hN hM hS hok hN0
  go_enter Try.func39, Try.ntmps39
  go_wp2_with fail
  replace hW0 := W_hid hW0
  have hne : ¬ g = w.heap.size := by omega
  have hne2 : ¬ w.heap.size = g := by omega
  have fr := hr0.out.fz
  refine wp_region_held_drew (S := (fun w' => Blk w' g 74 (ncl d v))) (by kernel_rfl) hNN.out (fun hHeld => ?_)
  refine wpAnyH_take (i := 0) (v := .int .i64 n) rfl (by kernel_rfl) (by kernel_rfl) (by kernel_rfl) (fun _ _ _ h => h) (Or.inl ⟨by rfl, fun w0 s1 => ?_⟩) hHeld ?_
  · go_simp
  try simp only [Act.put, List.setIfInBounds_toArray, List.set_cons_zero, List.set_cons_succ, List.getElem_toArray, List.getElem_cons_zero, List.getElem_cons_succ]
  refine wpAnyH_take (i := 1) (v := .pointer (some ⟨g, 0, none⟩)) rfl (by kernel_rfl) (by kernel_rfl) (by kernel_rfl) (fun _ _ _ h => h) (Or.inl ⟨by rfl, fun w0 s1 => ?_⟩) hHeld ?_
  · go_simp
  try simp only [Act.put, List.setIfInBounds_toArray, List.set_cons_zero, List.set_cons_succ, List.getElem_toArray, List.getElem_cons_zero, List.getElem_cons_succ]
  refine wpAnyH_take (i := 2) (v := .pointer (some ⟨g, 0, none⟩)) rfl (by kernel_rfl) (by kernel_rfl) (by kernel_rfl) (fun _ _ _ h => h) (Or.inl ⟨by rfl, fun w0 s1 => ?_⟩) hHeld ?_
  · go_simp
  try simp only [Act.put, List.setIfInBounds_toArray, List.set_cons_zero, List.set_cons_succ, List.getElem_toArray, List.getElem_cons_zero, List.getElem_cons_succ]
  refine wpAnyH_take (i := 3) (v := .pointer (some ⟨g, 0, none⟩)) rfl (by kernel_rfl) (by kernel_rfl) (by kernel_rfl) (fun _ _ _ h => h) (Or.inl ⟨by rfl, fun w0 s1 => ?_⟩) hHeld ?_
  · go_simp
  try simp only [Act.put, List.setIfInBounds_toArray, List.set_cons_zero, List.set_cons_succ, List.getElem_toArray, List.getElem_cons_zero, List.getElem_cons_succ]
  refine wpAnyH_take (i := 4) (v := .int .i64 d.kind) rfl (by kernel_rfl) (by kernel_rfl) (by kernel_rfl) (fun _ _ _ h => h) (Or.inl ⟨by rfl, fun w0 s1 => ?_⟩) hHeld ?_
  · (have q := Blk.cell (j := 0) s1 rfl; go_simp)
  try simp only [Act.put, List.setIfInBounds_toArray, List.set_cons_zero, List.set_cons_succ, List.getElem_toArray, List.getElem_cons_zero, List.getElem_cons_succ]
  refine wpAnyH_take (i := 5) (v := .pointer (some ⟨g, 0, none⟩)) rfl (by kernel_rfl) (by kernel_rfl) (by kernel_rfl) (fun _ _ _ h => h) (Or.inl ⟨by rfl, fun w0 s1 => ?_⟩) hHeld ?_
  · go_simp
  try simp only [Act.put, List.setIfInBounds_toArray, List.set_cons_zero, List.set_cons_succ, List.getElem_toArray, List.getElem_cons_zero, List.getElem_cons_succ]
  refine wpAnyH_take (i := 6) (v := .pointer (some ⟨g, 0, none⟩)) rfl (by kernel_rfl) (by kernel_rfl) (by kernel_rfl) (fun _ _ _ h => h) (Or.inl ⟨by rfl, fun w0 s1 => ?_⟩) hHeld ?_
  · go_simp
  try simp only [Act.put, List.setIfInBounds_toArray, List.set_cons_zero, List.set_cons_succ, List.getElem_toArray, List.getElem_cons_zero, List.getElem_cons_succ]
  refine wpAnyH_take (i := 7) (v := .pointer (some ⟨g, 1, none⟩)) rfl (by kernel_rfl) (by kernel_rfl) (by kernel_rfl) (fun _ _ _ h => h) (Or.inl ⟨by rfl, fun w0 s1 => ?_⟩) hHeld ?_
  · go_simp
  try simp only [Act.put, List.setIfInBounds_toArray, List.set_cons_zero, List.set_cons_succ, List.getElem_toArray, List.getElem_cons_zero, List.getElem_cons_succ]
  refine wpAnyH_take (i := 8) (v := .int .i64 d.links) rfl (by kernel_rfl) (by kernel_rfl) (by kernel_rfl) (fun _ _ _ h => h) (Or.inl ⟨by rfl, fun w0 s1 => ?_⟩) hHeld ?_
  · (have q := Blk.cell (j := 1) s1 rfl; go_simp)
  try simp only [Act.put, List.setIfInBounds_toArray, List.set_cons_zero, List.set_cons_succ, List.getElem_toArray, List.getElem_cons_zero, List.getElem_cons_succ]
  refine wpAnyH_take (i := 9) (v := .pointer (some ⟨g, 0, none⟩)) rfl (by kernel_rfl) (by kernel_rfl) (by kernel_rfl) (fun _ _ _ h => h) (Or.inl ⟨by rfl, fun w0 s1 => ?_⟩) hHeld ?_
  · go_simp
  try simp only [Act.put, List.setIfInBounds_toArray, List.set_cons_zero, List.set_cons_succ, List.getElem_toArray, List.getElem_cons_zero, List.getElem_cons_succ]
  refine wpAnyH_take (i := 10) (v := .pointer (some ⟨g, 0, none⟩)) rfl (by kernel_rfl) (by kernel_rfl) (by kernel_rfl) (fun _ _ _ h => h) (Or.inl ⟨by rfl, fun w0 s1 => ?_⟩) hHeld ?_
  · go_simp
  try simp only [Act.put, List.setIfInBounds_toArray, List.set_cons_zero, List.set_cons_succ, List.getElem_toArray, List.getElem_cons_zero, List.getElem_cons_succ]
  refine wpAnyH_take (i := 11) (v := .pointer (some ⟨g, 2, none⟩)) rfl (by kernel_rfl) (by kernel_rfl) (by kernel_rfl) (fun _ _ _ h => h) (Or.inl ⟨by rfl, fun w0 s1 => ?_⟩) hHeld ?_
  · go_simp
  try simp only [Act.put, List.setIfInBounds_toArray, List.set_cons_zero, List.set_cons_succ, List.getElem_toArray, List.getElem_cons_zero, List.getElem_cons_succ]
  refine wpAnyH_take (i := 12) (v := .int .i64 d.opens) rfl (by kernel_rfl) (by kernel_rfl) (by kernel_rfl) (fun _ _ _ h => h) (Or.inl ⟨by rfl, fun w0 s1 => ?_⟩) hHeld ?_
  · (have q := Blk.cell (j := 2) s1 rfl; go_simp)
  try simp only [Act.put, List.setIfInBounds_toArray, List.set_cons_zero, List.set_cons_succ, List.getElem_toArray, List.getElem_cons_zero, List.getElem_cons_succ]
  refine wpAnyH_take (i := 13) (v := .pointer (some ⟨g, 0, none⟩)) rfl (by kernel_rfl) (by kernel_rfl) (by kernel_rfl) (fun _ _ _ h => h) (Or.inl ⟨by rfl, fun w0 s1 => ?_⟩) hHeld ?_
  · go_simp
  try simp only [Act.put, List.setIfInBounds_toArray, List.set_cons_zero, List.set_cons_succ, List.getElem_toArray, List.getElem_cons_zero, List.getElem_cons_succ]
  refine wpAnyH_take (i := 14) (v := .pointer (some ⟨g, 0, none⟩)) rfl (by kernel_rfl) (by kernel_rfl) (by kernel_rfl) (fun _ _ _ h => h) (Or.inl ⟨by rfl, fun w0 s1 => ?_⟩) hHeld ?_
  · go_simp
  try simp only [Act.put, List.setIfInBounds_toArray, List.set_cons_zero, List.set_cons_succ, List.getElem_toArray, List.getElem_cons_zero, List.getElem_cons_succ]
  refine wpAnyH_take (i := 15) (v := .pointer (some ⟨g, 3, none⟩)) rfl (by kernel_rfl) (by kernel_rfl) (by kernel_rfl) (fun _ _ _ h => h) (Or.inl ⟨by rfl, fun w0 s1 => ?_⟩) hHeld ?_
  · go_simp
  try simp only [Act.put, List.setIfInBounds_toArray, List.set_cons_zero, List.set_cons_succ, List.getElem_toArray, List.getElem_cons_zero, List.getElem_cons_succ]
  refine wpAnyH_take (i := 16) (v := .int .i64 d.size) rfl (by kernel_rfl) (by kernel_rfl) (by kernel_rfl) (fun _ _ _ h => h) (Or.inl ⟨by rfl, fun w0 s1 => ?_⟩) hHeld ?_
  · (have q := Blk.cell (j := 3) s1 rfl; go_simp)
  try simp only [Act.put, List.setIfInBounds_toArray, List.set_cons_zero, List.set_cons_succ, List.getElem_toArray, List.getElem_cons_zero, List.getElem_cons_succ]
  refine wpAnyH_take (i := 17) (v := .pointer (some ⟨g, 0, none⟩)) rfl (by kernel_rfl) (by kernel_rfl) (by kernel_rfl) (fun _ _ _ h => h) (Or.inl ⟨by rfl, fun w0 s1 => ?_⟩) hHeld ?_
  · go_simp
  try simp only [Act.put, List.setIfInBounds_toArray, List.set_cons_zero, List.set_cons_succ, List.getElem_toArray, List.getElem_cons_zero, List.getElem_cons_succ]
  refine wpAnyH_take (i := 18) (v := .pointer (some ⟨g, 0, none⟩)) rfl (by kernel_rfl) (by kernel_rfl) (by kernel_rfl) (fun _ _ _ h => h) (Or.inl ⟨by rfl, fun w0 s1 => ?_⟩) hHeld ?_
  · go_simp
  try simp only [Act.put, List.setIfInBounds_toArray, List.set_cons_zero, List.set_cons_succ, List.getElem_toArray, List.getElem_cons_zero, List.getElem_cons_succ]
  refine wpAnyH_take (i := 19) (v := .pointer (some ⟨g, 4, none⟩)) rfl (by kernel_rfl) (by kernel_rfl) (by kernel_rfl) (fun _ _ _ h => h) (Or.inl ⟨by rfl, fun w0 s1 => ?_⟩) hHeld ?_
  · go_simp
  try simp only [Act.put, List.setIfInBounds_toArray, List.set_cons_zero, List.set_cons_succ, List.getElem_toArray, List.getElem_cons_zero, List.getElem_cons_succ]
  refine wpAnyH_take (i := 20) (v := v) rfl (by kernel_rfl) (by kernel_rfl) (by kernel_rfl) (fun _ _ _ h => h) (Or.inl ⟨by rfl, fun w0 s1 => ?_⟩) hHeld ?_
  · (have q := Blk.cell (j := 4) s1 rfl; go_simp)
  try simp only [Act.put, List.setIfInBounds_toArray, List.set_cons_zero, List.set_cons_succ, List.getElem_toArray, List.getElem_cons_zero, List.getElem_cons_succ]
  refine wpAnyH_ready (rs := [21]) (by kernel_rfl) (by simp) ?_
  refine AllReadyH.cons rfl (fun K hK => ?_) AllReadyH.nil
  go_simp
  refine cS.out.mono ?_
  rintro e w2 ⟨rfl, hb2⟩
  have hN2 := hN1.out w2 (Own.bundrew hb2)
  have hr2 := hr0.out.keep (Own.bundrew hb2)
  have kf := hr2.fz
  have r0 := hr2.cell (j := 0) rfl
  have r1 := hr2.cell (j := 1) rfl
  have r2 := hr2.cell (j := 2) rfl
  have r3 := hr2.cell (j := 3) rfl
  have r4 := hr2.cell (j := 4) rfl
  have r5 := hr2.cell (j := 5) rfl
  refine hK.out _ _ hN2 (fun hHeld1 => ?_)
  clear hK K
  try simp only [Act.put, List.setIfInBounds_toArray, List.set_cons_zero, List.set_cons_succ, List.getElem_toArray, List.getElem_cons_zero, List.getElem_cons_succ]
  refine wpAnyH_take (i := 22) (v := .agg #[.int .i64 n, .int .i64 d.kind, .int .i64 d.links, .int .i64 d.opens, .int .i64 d.size, .int .i64 (EM.cnt d.l : Int)]) rfl (by kernel_rfl) (by kernel_rfl) (by kernel_rfl) (fun _ _ _ h => h) (Or.inl ⟨by rfl, fun w0 s1 => ?_⟩) hHeld1 ?_
  · go_simp
  try simp only [Act.put, List.setIfInBounds_toArray, List.set_cons_zero, List.set_cons_succ, List.getElem_toArray, List.getElem_cons_zero, List.getElem_cons_succ]
  refine wpAnyH_ready (rs := [23]) (by kernel_rfl) (by simp) ?_
  refine AllReadyH.cons rfl (fun K hK => ?_) AllReadyH.nil
  go_simp
  skip
  refine hK.out _ _ ((((((hN2.far (p := ⟨w.heap.size, 0, none⟩) hne _).far (p := ⟨w.heap.size, 1, none⟩) hne _).far (p := ⟨w.heap.size, 2, none⟩) hne _).far (p := ⟨w.heap.size, 3, none⟩) hne _).far (p := ⟨w.heap.size, 4, none⟩) hne _).far (p := ⟨w.heap.size, 5, none⟩) hne _) (fun hHeld2 => ?_)
  clear hK K
  try simp only [Act.put, List.setIfInBounds_toArray, List.set_cons_zero, List.set_cons_succ, List.getElem_toArray, List.getElem_cons_zero, List.getElem_cons_succ]
  refine wpAnyH_done (by kernel_rfl) ?_ _
  have hfin := six_blk hr2 n d.kind d.links d.opens d.size (EM.cnt d.l)
  have hbl := six_below (hb0.out.trans ((Own.bundrew hb2).mono hb0.out.size)) (Nat.le_refl _) n d.kind d.links d.opens d.size (EM.cnt d.l : Int)
  go_wp2_with fail
  refine bodyPost_ret (res_one rfl _ _ rfl hfin) rfl ⟨rfl, hbl⟩
end
end IN
end Go.Proofs.Ytieneehpijilpaa

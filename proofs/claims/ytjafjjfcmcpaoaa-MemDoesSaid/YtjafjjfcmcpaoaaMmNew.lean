/- Stage 18: New. -/
import Derived.Test.YtjafjjfcmcpaoaaMmRun
namespace Go.Proofs.Ytjafjjfcmcpaoaa
open Go.ChangeShapes Go.WideShapes Go.ChangeAt Go.RowKit
set_option linter.unusedVariables false
set_option linter.unusedSimpArgs false
set_option maxRecDepth 100000
namespace MC
open IN (lt_of_some)

theorem live_push (L : List Th) (t : Th) : live (L ++ [t]) = live L ++ (if on t = true then [L.length] else []) := by
  unfold live
  rw [List.length_append, List.length_singleton, List.range_succ, List.filter_append]
  congr 1
  · refine List.filter_congr fun k hk => ?_
    rw [List.getElem?_append_left (List.mem_range.1 hk)]
  · rw [List.filter_cons, List.getElem?_append_right (Nat.le_refl _), Nat.sub_self]
    simp
/-- The programs, as New is given them. -/
def PIn (w : World) (ao : Option Addr) (n : Nat) (l : List (Value × List In)) : Prop :=
  n = l.length ∧ n ≤ 9223372036854775807 ∧ ∀ j x, l[j]? = some x → ∃ g o, ao = some ⟨g, o, none⟩ ∧ g < w.heap.size ∧ w.cell? ⟨g, o + j, none⟩ = some x.1 ∧ Own.Src w 5 x.1 x.2.length (xcl x.2) ∧ (∀ y ∈ x.2, InFit y) ∧ x.2.length ≤ 3518437208880
theorem src_form {w : World} {size m : Nat} {v : Value} {ys : List Value} (h : Own.Src w size v m ys) : ∃ ao cap, v = .slice ao m cap := by
  rcases h with ⟨rfl, rfl, -⟩ | ⟨ad, c, rfl, -⟩
  · exact ⟨_, _, rfl⟩
  · exact ⟨_, _, rfl⟩
theorem PIn.below {w w' : World} {ao : Option Addr} {n : Nat} {l : List (Value × List In)} (h : PIn w ao n l) (hb : Below w.heap.size w w') : PIn w' ao n l := by
  refine ⟨h.1, h.2.1, fun j x hj => ?_⟩
  obtain ⟨g, o, h1, h2, h3, h4, h5⟩ := h.2.2 j x hj
  exact ⟨g, o, h1, Nat.lt_of_lt_of_le h2 hb.size, by rw [World.cell?_of_block (w := w) (hb.block g h2)]; exact h3, h4.keep hb, h5⟩
theorem newThread_any {w : World} {v : Value} {p : List In} (h : Own.Src w 5 v p.length (xcl p)) (hn : p.length ≤ 3518437208880) :
    Calls Try.prog 25 #[v] w fun e w' => ∃ ao cap, e = .returned (.agg #[.slice ao p.length cap, .int .i64 0, .int .i64 0, .int .i64 0, .int .i64 0, .int .i64 0, .int .i64 0, .int .i64 0, .int .i64 0, .int .i64 0]) ∧ w'.ownsRow w.heap.size TX 5 (.slice ao p.length cap) p.length (xcl p) ∧ Below w.heap.size w w' := by
  obtain ⟨ao, cap, rfl⟩ := src_form h
  obtain ⟨n, hnn⟩ : ∃ n, p.length = n := ⟨_, rfl⟩
  rw [hnn] at h hn ⊢
  have hB := fun X : Obj => (Below.refl w.heap.size w).alloc (Nat.le_refl _) X
  have hcl := W_hid (fun (X : Obj) => cloneX_any (h.keep (hB X)) (xcl_one p) (by omega))
  clear h hnn
  go_enter Try.func25, Try.ntmps25
  go_wp2_with (go_at_call 36; refine (hcl.out _).mono ?_; rintro e w' ⟨v', rfl, ho, hb⟩; obtain ⟨a1, c1, rfl⟩ := Own.form ho; have hbx : Blk w' w.heap.size TT _ := (Blk.new w TT [.slice none 0 0, .int .i64 0, .int .i64 0, .int .i64 0, .int .i64 0, .int .i64 0, .int .i64 0, .int .i64 0, .int .i64 0, .int .i64 0] rfl).keep hb; have x0 := hbx.cell (j := 0) rfl; have x1 := hbx.cell (j := 1) rfl; have x2 := hbx.cell (j := 2) rfl; have x3 := hbx.cell (j := 3) rfl; have x4 := hbx.cell (j := 4) rfl; have x5 := hbx.cell (j := 5) rfl; have x6 := hbx.cell (j := 6) rfl; have x7 := hbx.cell (j := 7) rfl; have x8 := hbx.cell (j := 8) rfl; have x9 := hbx.cell (j := 9) rfl; have xf := hbx.fz; have hbx := W_hid hbx)
  refine bodyPost_ret (res_thr (l := [.slice a1 n c1, .int .i64 0, .int .i64 0, .int .i64 0, .int .i64 0, .int .i64 0, .int .i64 0, .int .i64 0, .int .i64 0, .int .i64 0]) rfl _ _ rfl (Blk.set (Blk.set (Blk.set (Blk.set (Blk.set (Blk.set (Blk.set (Blk.set (Blk.set (Blk.set hbx.out 0 (.slice a1 n c1)) 1 (.int .i64 0)) 2 (.int .i64 0)) 3 (.int .i64 0)) 4 (.int .i64 0)) 5 (.int .i64 0)) 6 (.int .i64 0)) 7 (.int .i64 0)) 8 (.int .i64 0)) 9 (.int .i64 0)) rfl) rfl ?_
  have hb2 : Below w.heap.size w w' := (hB _).trans (hb.mono (by simp))
  refine ⟨a1, c1, rfl, Own.low (base := (w.alloc (.cells #[.slice none 0 0, .int .i64 0, .int .i64 0, .int .i64 0, .int .i64 0, .int .i64 0, .int .i64 0, .int .i64 0, .int .i64 0, .int .i64 0] TT)).heap.size) (by simp) ?_, ?_⟩
  · iterate 10 refine Own.set ?_ (by simp) _
    exact ho
  · iterate 10 refine Below.setCell ?_ (by simp) _
    exact hb2
end MC
end Go.Proofs.Ytjafjjfcmcpaoaa

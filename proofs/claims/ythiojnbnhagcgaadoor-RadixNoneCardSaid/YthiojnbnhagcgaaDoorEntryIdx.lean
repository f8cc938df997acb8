/- Contracts of package entry's isLevel and Index, and of the document's own Index: for all arguments. -/
import Derived.Test.YthiojnbnhagcgaaDoorEntryMath
import Derived.Test.YthiojnbnhagcgaaDoorWord
namespace Go.Proofs.YthiojnbnhagcgaaDoor
open Go.ChangeShapes Go.WideShapes Go.ChangeAt Go.RowKit
set_option linter.unusedVariables false
set_option linter.unusedSimpArgs false

set_option maxRecDepth 100000 in
set_option maxHeartbeats 400000 in
theorem isLevel_yes (L : Int) (h1 : 1 ≤ L) (h4 : L ≤ 4) (w : World) :
    Calls Tryd.prog 62 #[.int .i64 L] w fun e w' => e = .returned (.bool true) ∧ w = w' := by
  have d1 : decide (1 ≤ L) = true := by simp; omega
  have d2 : decide (L ≤ 4) = true := by simp; omega
  clear h1 h4
  go_enter Tryd.func62, Tryd.ntmps62
  go_wp2
  go_ret
  exact ⟨rfl, rfl⟩

set_option maxRecDepth 100000 in
set_option maxHeartbeats 400000 in
theorem isLevel_no (L : Int) (h : ¬ (1 ≤ L ∧ L ≤ 4)) (w : World) :
    Calls Tryd.prog 62 #[.int .i64 L] w fun e w' => e = .returned (.bool false) ∧ w = w' := by
  by_cases c1 : 1 ≤ L
  · have d2 : decide (L ≤ 4) = false := by simp; omega
    clear h
    go_enter Tryd.func62, Tryd.ntmps62
    go_wp2
    go_ret
    exact ⟨rfl, rfl⟩
  · have d1 : decide (1 ≤ L) = false := by simp; omega
    clear h c1
    go_enter Tryd.func62, Tryd.ntmps62
    go_wp2
    go_ret
    exact ⟨rfl, rfl⟩

set_option maxRecDepth 100000 in
set_option maxHeartbeats 1000000 in
theorem Index_yes (va l : Nat) (hva : va < 140737488355328) (h1 : 1 ≤ l) (h4 : l ≤ 4) (w : World) :
    Calls Tryd.prog 45 #[.int .u64 va, .int .i64 l] w fun e w' => e = .returned (.tuple #[.int .i64 ((EN.idx va l : Nat) : Int), .int .i64 0]) ∧ Below w.heap.size w w' := by
  have hT : Hid (∀ (lo : Int), lo = ((12 + 9 * (l - 1) : Nat) : Int) → ∀ w : World, Calls Tryd.prog 60 #[.int .u64 va, .int .i64 lo, .int .i64 9] w fun e w' => e = .returned (.tuple #[.int .u64 ((EN.idx va l : Nat) : Int), .int .i64 0]) ∧ Below w.heap.size w w') := by
    intro lo h w
    subst h
    rw [← EN.idx_take va l h1 h4]
    exact take_yes va (12 + 9 * (l - 1)) 9 (by omega) (by omega) w
  have hL := W_hid (fun w => isLevel_yes l (by omega) (by omega) w)
  have d : decide (140737488355328 ≤ (va : Int)) = false := by simp; omega
  have hi := EN.idx_lt va l
  go_enter Tryd.func45, Tryd.ntmps45
  go_wp2_with fail
  refine (hL.out _).mono ?_
  rintro e w1 ⟨rfl, rfl⟩
  go_wp2_with fail
  refine (hT.out _ (by omega) _).mono ?_
  rintro e w2 ⟨rfl, bel⟩
  go_wp2
  go_ret2
  exact ⟨rfl, bel⟩

set_option maxRecDepth 100000 in
set_option maxHeartbeats 1000000 in
theorem Index_no (va : Nat) (L : Int) (h : ¬ (1 ≤ L ∧ L ≤ 4 ∧ va < 140737488355328)) (w : World) :
    Calls Tryd.prog 45 #[.int .u64 va, .int .i64 L] w fun e w' => e = .returned (.tuple #[.int .i64 0, .int .i64 2]) ∧ w = w' := by
  by_cases c : 1 ≤ L ∧ L ≤ 4
  · have hL := W_hid (fun w => isLevel_yes L c.1 c.2 w)
    have d : decide (140737488355328 ≤ (va : Int)) = true := by simp; omega
    clear h c
    go_enter Tryd.func45, Tryd.ntmps45
    go_wp2_with fail
    refine (hL.out _).mono ?_
    rintro e w1 ⟨rfl, rfl⟩
    go_wp2
    go_ret2
    exact ⟨rfl, rfl⟩
  · have hL := W_hid (fun w => isLevel_no L c w)
    clear h c
    go_enter Tryd.func45, Tryd.ntmps45
    go_wp2_with fail
    refine (hL.out _).mono ?_
    rintro e w1 ⟨rfl, rfl⟩
    go_wp2
    go_ret2
    exact ⟨rfl, rfl⟩

end Go.Proofs.YthiojnbnhagcgaaDoor

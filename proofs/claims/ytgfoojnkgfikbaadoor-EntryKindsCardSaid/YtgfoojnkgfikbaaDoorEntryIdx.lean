/- Contracts of package entry's isLevel and Index, and of the document's own Index: for all arguments. -/
import Derived.Test.YtgfoojnkgfikbaaDoorEntryMath
import Derived.Test.YtgfoojnkgfikbaaDoorWord
namespace Go.Proofs.YtgfoojnkgfikbaaDoor
open Go.ChangeShapes Go.WideShapes Go.ChangeAt Go.RowKit
set_option linter.unusedVariables false
set_option linter.unusedSimpArgs false

set_option maxRecDepth 100000 in
set_option maxHeartbeats 400000 in
theorem isLevel_yes (L : Int) (h1 : 1 ≤ L) (h4 : L ≤ 4) (w : World) :
    Calls Tryd.prog 14 #[.int .i64 L] w fun e w' => e = .returned (.bool true) ∧ w = w' := by
  have d1 : decide (1 ≤ L) = true := by simp; omega
  have d2 : decide (L ≤ 4) = true := by simp; omega
  clear h1 h4
  go_enter Tryd.func14, Tryd.ntmps14
  go_wp2
  go_ret
  exact ⟨rfl, rfl⟩

set_option maxRecDepth 100000 in
set_option maxHeartbeats 400000 in
theorem isLevel_no (L : Int) (h : ¬ (1 ≤ L ∧ L ≤ 4)) (w : World) :
    Calls Tryd.prog 14 #[.int .i64 L] w fun e w' => e = .returned (.bool false) ∧ w = w' := by
  by_cases c1 : 1 ≤ L
  · have d2 : decide (L ≤ 4) = false := by simp; omega
    clear h
    go_enter Tryd.func14, Tryd.ntmps14
    go_wp2
    go_ret
    exact ⟨rfl, rfl⟩
  · have d1 : decide (1 ≤ L) = false := by simp; omega
    clear h c1
    go_enter Tryd.func14, Tryd.ntmps14
    go_wp2
    go_ret
    exact ⟨rfl, rfl⟩

end Go.Proofs.YtgfoojnkgfikbaaDoor

/- Contracts of package entry's write, Encode, isLevel, Decode: for every entry, word and level. -/
import Derived.Test.YthiojnbnhagcgaaDoorEntryRead
import Derived.Laws.StructEq
namespace Go.Proofs.YthiojnbnhagcgaaDoor
open Go.ChangeShapes Go.WideShapes Go.ChangeAt Go.RowKit
set_option linter.unusedVariables false
set_option linter.unusedSimpArgs false

/-- The bits of an entry's word beside its frame. -/
def base (b1 H b2 : Bool) : Nat := (5 + (if b1 = true then 2 else 0) + (if H = true then 128 else 0)) + 9223372036854775808 * (if b2 = true then 1 else 0)
theorem base_lt (b1 H b2 : Bool) : base b1 H b2 < 18446744073709551616 := by cases b1 <;> cases H <;> cases b2 <;> decide
theorem base_wd (H : Bool) (P : Int) (F : Nat) (hP : EN.perms P) (hF : F < 68719476736) (b1 b2 : Bool) (h1 : b1 = true ↔ P = 3 ∨ P = 7) (h2 : b2 = true ↔ P < 4) : WM.put (base b1 H b2) 12 36 F = EN.wd H P F := by
  unfold base EN.wd
  rw [EN.put_frame _ _ _ (by split <;> split <;> decide) (by split <;> decide) hF]
  by_cases c1 : P = 3 ∨ P = 7
  · rw [if_pos (h1.2 c1), if_pos c1]
    by_cases c2 : P < 4
    · rw [if_pos (h2.2 c2), if_pos c2]; omega
    · rw [if_neg (fun h => c2 (h2.1 h)), if_neg c2]; omega
  · rw [if_neg (fun h => c1 (h1.1 h)), if_neg c1]
    by_cases c2 : P < 4
    · rw [if_pos (h2.2 c2), if_pos c2]; omega
    · rw [if_neg (fun h => c2 (h2.1 h)), if_neg c2]; omega
theorem perm_bits (P : Int) (hP : EN.perms P) : ((bits BinOp.and IntKind.i64 P 2 != 0) = true ↔ P = 3 ∨ P = 7) ∧ ((bits BinOp.and IntKind.i64 P 4 == 0) = true ↔ P < 4) := by
  rcases hP with rfl | rfl | rfl | rfl <;> decide

set_option maxRecDepth 100000 in
set_option maxHeartbeats 1000000 in
theorem write_walk (T H b1 b2 : Bool) (P : Int) (F : Nat) (hb1 : (bits BinOp.and IntKind.i64 P 2 != 0) = b1) (hb2 : (bits BinOp.and IntKind.i64 P 4 == 0) = b2) (v E : Int)
    (hput : Hid (∀ (r : Int), r = (base b1 H b2 : Int) → ∀ w, Calls Tryd.prog 61 #[.int .u64 r, .int .i64 12, .int .i64 36, .int .u64 F] w fun e w' => e = .returned (.tuple #[.int .u64 v, .int .i64 E]) ∧ Below w.heap.size w w')) (w : World) :
    Calls Tryd.prog 46 #[.agg #[.bool T, .bool H, .int .i64 P, .int .u64 F]] w fun e w' => e = .returned (.tuple #[.int .u64 v, .int .i64 E]) ∧ Below w.heap.size w w' := by
  cases b1 <;> cases b2 <;> cases H
  all_goals
    go_enter Tryd.func46, Tryd.ntmps46
    go_wp2_with fail
    refine (hput.out _ (by decide) _).mono ?_
    rintro e w1 ⟨rfl, bel⟩
    go_wp2
    go_ret2
    exact ⟨rfl, ((Below.refl _ _).alloc (Nat.le_refl _) _).trans (bel.mono (by simp))⟩

theorem write_high (T H : Bool) (P : Int) (F : Nat) (hF : ¬ F < 68719476736) (w : World) :
    Calls Tryd.prog 46 #[.agg #[.bool T, .bool H, .int .i64 P, .int .u64 F]] w fun e w' => e = .returned (.tuple #[.int .u64 0, .int .i64 2]) ∧ Below w.heap.size w w' := by
  refine write_walk T H _ _ P F rfl rfl 0 2 ?_ w
  intro r hr w
  exact put_high r 12 36 F (by decide) (by omega) w

theorem write_low (T H : Bool) (P : Int) (F : Nat) (hF : F < 68719476736) : ∃ x : Nat, x < 18446744073709551616 ∧ (EN.perms P → x = EN.wd H P F) ∧ ∀ w : World,
    Calls Tryd.prog 46 #[.agg #[.bool T, .bool H, .int .i64 P, .int .u64 F]] w fun e w' => e = .returned (.tuple #[.int .u64 (x : Int), .int .i64 0]) ∧ Below w.heap.size w w' := by
  refine ⟨WM.put (base (bits BinOp.and IntKind.i64 P 2 != 0) H (bits BinOp.and IntKind.i64 P 4 == 0)) 12 36 F, WM.put_lt _ _ _ _ (base_lt _ _ _) (by decide) (by omega), fun hP => ?_, fun w => ?_⟩
  · exact base_wd H P F hP hF _ _ (perm_bits P hP).1 (perm_bits P hP).2
  · refine write_walk T H _ _ P F rfl rfl _ 0 ?_ w
    intro r hr w
    subst hr
    exact put_yes _ 12 36 F (base_lt _ _ _) (by decide) (by omega) w

end Go.Proofs.YthiojnbnhagcgaaDoor

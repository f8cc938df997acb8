/- Calls and replies are compared field by field. -/
import Derived.Test.YtmhikoblaejhhaaCalKit
import Derived.ChangeKeysEq
namespace Go.Proofs.Ytmhikoblaejhhaa
open Go.ChangeShapes Go.WideShapes Go.ChangeAt Go.RowKit Go.Maps
set_option linter.unusedVariables false
set_option linter.unusedSimpArgs false
set_option maxRecDepth 100000
namespace CA
theorem u_arr3 : Try.prog.underlying 22 = some (.array 3 2) := by kernel_rfl
theorem u_arr2 : Try.prog.underlying 23 = some (.array 2 9) := by kernel_rfl
theorem c_i64 : Try.prog.cellsOf 2 = 1 := by kernel_rfl
theorem c_str : Try.prog.cellsOf 9 = 1 := by kernel_rfl
theorem i_i64 : (Try.prog.info? 2).map (·.size) = some 1 := by kernel_rfl
theorem i_str : (Try.prog.info? 9).map (·.size) = some 1 := by kernel_rfl
theorem bytes_beq (s t : ByteArray) : (s.toList == t.toList) = decide (s = t) := by
  rw [Bool.eq_iff_iff, decide_eq_true_iff, beq_iff_eq, ByteArray.toList_eq, ByteArray.toList_eq, Array.toList_inj]
  constructor
  · intro h; cases s; cases t; simpa using h
  · intro h; rw [h]
theorem eq_arr3 (b c d b' c' d' : Int) (w : World) :
    (Op.equalIn 9999 22 (.agg #[.int .i64 b, .int .i64 c, .int .i64 d]) (.agg #[.int .i64 b', .int .i64 c', .int .i64 d'])).run Try.prog w = .ok (decide (b = b' ∧ c = c' ∧ d = d')) w := by
  obtain ⟨i, hi, -⟩ := Option.map_eq_some_iff.1 i_i64
  rw [run_equalIn_array (P := Try.prog) w 9998 _ _ u_arr3 hi, c_i64]
  by_cases c1 : b = b'
  · by_cases c2 : c = c'
    · by_cases c3 : d = d' <;> simp [Op.eqItems, List.range, List.range.loop, go_sem, c1, c2, c3]
    · simp [Op.eqItems, List.range, List.range.loop, go_sem, c1, c2]
  · simp [Op.eqItems, List.range, List.range.loop, go_sem, c1]
theorem eq_arr2 (s t s' t' : ByteArray) (w : World) :
    (Op.equalIn 9999 23 (.agg #[.string s, .string t]) (.agg #[.string s', .string t'])).run Try.prog w = .ok (decide (s = s' ∧ t = t')) w := by
  obtain ⟨i, hi, -⟩ := Option.map_eq_some_iff.1 i_str
  rw [run_equalIn_array (P := Try.prog) w 9998 _ _ u_arr2 hi, c_str]
  by_cases c1 : s = s'
  · by_cases c2 : t = t' <;> simp [Op.eqItems, List.range, List.range.loop, go_sem, c1, c2, bytes_beq]
  · simp [Op.eqItems, List.range, List.range.loop, go_sem, c1, bytes_beq]
set_option maxRecDepth 100000 in
set_option maxHeartbeats 2000000 in
theorem call_neq (a b c d a' b' c' d' : Int) (s t s' t' : ByteArray) (q : Bool) (hq : q = true ↔ ¬ (a = a' ∧ b = b' ∧ c = c' ∧ d = d' ∧ s = s' ∧ t = t')) (w : World) :
    (binOp .neq 25 (.agg #[.int .i64 a, .int .i64 b, .int .i64 c, .int .i64 d, .string s, .string t]) (.agg #[.int .i64 a', .int .i64 b', .int .i64 c', .int .i64 d', .string s', .string t'])).run Try.prog w = .ok (.bool q) w := by
  have e : q = !(decide (a = a' ∧ b = b' ∧ c = c' ∧ d = d' ∧ s = s' ∧ t = t')) := by
    rw [Bool.eq_iff_iff, hq, Bool.not_eq_true', decide_eq_false_iff_not]
  rw [e]
  by_cases c0 : a = a'
  · by_cases c1 : b = b' ∧ c = c' ∧ d = d'
    · by_cases c4 : s = s' ∧ t = t' <;> simp [go_sem, c0, c1, c4, eq_arr3, eq_arr2]
    · have : ¬ (a = a' ∧ b = b' ∧ c = c' ∧ d = d' ∧ s = s' ∧ t = t') := fun h => c1 ⟨h.2.1, h.2.2.1, h.2.2.2.1⟩
      rw [decide_eq_false this]
      have e3 := fun w => eq_arr3 b c d b' c' d' w
      simp only [decide_eq_false c1] at e3
      simp [go_sem, c0, e3]
  · simp [go_sem, c0]
theorem size_zero (s : ByteArray) : s.size = 0 ↔ s = { data := #[] } := by
  constructor
  · intro h
    cases s with
    | mk d => exact congrArg ByteArray.mk (Array.eq_empty_of_size_eq_zero h)
  · rintro rfl; rfl
end CA
end Go.Proofs.Ytmhikoblaejhhaa

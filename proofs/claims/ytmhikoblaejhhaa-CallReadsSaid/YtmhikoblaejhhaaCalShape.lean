/- The program's and the document's Shape: which shape a number has. -/
import Derived.Test.YtmhikoblaejhhaaCalMap
namespace Go.Proofs.Ytmhikoblaejhhaa
open Go.ChangeShapes Go.WideShapes Go.ChangeAt Go.RowKit Go.Maps
set_option linter.unusedVariables false
set_option linter.unusedSimpArgs false
namespace CA
theorem shp_out {k : Nat} (h : k = 0 ∨ 25 < k) : shp k = none := by
  unfold shp
  simp only [upd]
  iterate 25 rw [if_neg (by omega)]
/-- The shape of a number that may be negative. -/
def shI (z : Int) : Option ByteArray := if z < 0 then none else shp z.toNat
theorem shI_nat (k : Nat) : shI (k : Int) = shp k := by unfold shI; rw [if_neg (by omega)]; rfl
theorem shI_out {z : Int} (h : z < 1 ∨ 25 < z) : shI z = none := by
  unfold shI
  split
  · rfl
  · exact shp_out (by omega)
theorem shp_u64 {z : Int} (h0 : -9223372036854775808 ≤ z) (h1 : z ≤ 9223372036854775807) : shp (IntKind.u64.wrap z).toNat = shI z := by
  by_cases hz : z < 0
  · rw [shI_out (by omega), shp_out]
    have : IntKind.u64.wrap z = z + 18446744073709551616 := by simp [IntKind.wrap, IntKind.signed, IntKind.bits]; omega
    rw [this]; omega
  · have : IntKind.u64.wrap z = z := by simp [IntKind.wrap, IntKind.signed, IntKind.bits]; omega
    rw [this, shI, if_neg hz]

set_option maxRecDepth 100000 in
set_option maxHeartbeats 1000000 in
theorem Shape_any (z : Int) (h0 : -9223372036854775808 ≤ z) (h1 : z ≤ 9223372036854775807) (w : World) :
    Calls Try.prog 9 #[.int .i64 z] w fun e w' => e = .returned (.tuple #[.string ((shI z).getD ByteArray.empty), .bool (shI z).isSome]) ∧ Below w.heap.size w w' := by
  have e := shp_u64 h0 h1
  obtain ⟨k, hk, hk2⟩ : ∃ k : Nat, IntKind.u64.wrap z = (k : Int) ∧ k < 18446744073709551616 := by
    refine ⟨(IntKind.u64.wrap z).toNat, ?_, ?_⟩
    · have : 0 ≤ IntKind.u64.wrap z := by simp [IntKind.wrap, IntKind.signed, IntKind.bits]; omega
      omega
    · have : IntKind.u64.wrap z < 18446744073709551616 := by simp [IntKind.wrap, IntKind.signed, IntKind.bits]; omega
      omega
  rw [hk] at e
  have e2 : shp k = shI z := by simpa using e
  rw [← e2]
  clear e e2
  generalize hs0 : (shp k).getD ByteArray.empty = s
  generalize ht0 : (shp k).isSome = t
  replace hs0 := W_hid hs0
  replace ht0 := W_hid ht0
  go_enter Try.func9, Try.ntmps9
  go_wp2_with fail
  refine (shapes_any w).mono ?_
  rintro e w1 ⟨b, rfl, hs, bel1⟩
  have hl := hs.look_ok k hk2
  unfold sv at hl
  rw [hs0.out, ht0.out] at hl
  go_wp2_with fail
  go_ret2
  exact ⟨rfl, bel1.alloc bel1.size _⟩

set_option maxRecDepth 100000 in
set_option maxHeartbeats 2000000 in
theorem rShape_any (z : Int) (h0 : -9223372036854775808 ≤ z) (h1 : z ≤ 9223372036854775807) (w : World) :
    Calls Try.prog 10 #[.int .i64 z] w fun e w' => e = .returned (.tuple #[.string ((shI z).getD ByteArray.empty), .bool (shI z).isSome]) ∧ w = w' := by
  rcases (by omega : (z < 1 ∨ 25 < z) ∨ z = 1 ∨ z = 2 ∨ z = 3 ∨ z = 4 ∨ z = 5 ∨ z = 6 ∨ z = 7 ∨ z = 8 ∨ z = 9 ∨ z = 10 ∨ z = 11 ∨ z = 12 ∨ z = 13 ∨ z = 14 ∨ z = 15 ∨ z = 16 ∨ z = 17 ∨ z = 18 ∨ z = 19 ∨ z = 20 ∨ z = 21 ∨ z = 22 ∨ z = 23 ∨ z = 24 ∨ z = 25) with h | rfl | rfl | rfl | rfl | rfl | rfl | rfl | rfl | rfl | rfl | rfl | rfl | rfl | rfl | rfl | rfl | rfl | rfl | rfl | rfl | rfl | rfl | rfl | rfl | rfl
  · rw [shI_out h]
    go_enter Try.func10, Try.ntmps10
    go_wp2
    go_ret2
    exact ⟨rfl, rfl⟩
  all_goals (
    go_enter Try.func10, Try.ntmps10
    go_wp2
    go_ret2
    exact ⟨rfl, rfl⟩)
end CA
end Go.Proofs.Ytmhikoblaejhhaa

/- Contracts of package entry's fits, perm, read: which entry a word says at a level, for every word and level; the table of kinds is as its initialiser lays it. -/
import Derived.Test.YthiojnbnhagcgaaDoorEntryMath
import Derived.Test.YthiojnbnhagcgaaDoorWord
namespace Go.Proofs.YthiojnbnhagcgaaDoor
open Go.ChangeShapes Go.WideShapes Go.ChangeAt Go.RowKit
set_option linter.unusedVariables false
set_option linter.unusedSimpArgs false

/-- The cells of the table of kinds. -/
def kcl : List Value := [.bool false, .bool false, .int .i64 1, .int .i64 1, .int .u64 9223090561878069245, .int .u64 5, .bool false, .bool true, .int .i64 2, .int .i64 2, .int .u64 9223090561880162301, .int .u64 133, .bool true, .bool false, .int .i64 2, .int .i64 4, .int .u64 18446462598732845055, .int .u64 7]
def KT (w : World) : Prop := ∃ e fr, w.heap[0]? = some (.cells kcl.toArray e fr)
section
variable {w w' : World}
theorem KT.lt (h : KT w) : 0 < w.heap.size := by
  obtain ⟨e, fr, h⟩ := h
  rcases Nat.lt_or_ge 0 w.heap.size with hlt | hge
  · exact hlt
  · rw [Array.getElem?_eq_none hge] at h; cases h
theorem KT.below {B : Nat} (h : KT w) (hb : Below B w w') (hB : 0 < B) : KT w' := by
  obtain ⟨e, fr, h⟩ := h
  exact ⟨e, fr, (hb.block _ hB).trans h⟩
theorem KT.keep (h : KT w) (hb : Below w.heap.size w w') : KT w' := h.below hb h.lt
theorem KT.alloc (h : KT w) (o : Obj) : KT (w.alloc o) := h.keep ((Below.refl _ _).alloc (Nat.le_refl _) o)
end

/-- The answer of a call that reads a word. -/
def said : Option (Bool × Bool × Int × Nat) → Value
  | some (t, h, p, f) => .tuple #[.agg #[.bool t, .bool h, .int .i64 p, .int .u64 (f : Int)], .bool true]
  | none => .tuple #[.agg #[.bool false, .bool false, .int .i64 0, .int .u64 0], .bool false]

set_option maxRecDepth 100000 in
set_option maxHeartbeats 400000 in
theorem kfits_any (tb hg b : Bool) (lo hi L : Int) (K S x : Nat) (hx : x < 18446744073709551616) (hK : K < 18446744073709551616) (hb : b = true ↔ lo ≤ L ∧ L ≤ hi ∧ x &&& K = S) (w : World) :
    Calls Tryd.prog 63 #[.agg #[.bool tb, .bool hg, .int .i64 lo, .int .i64 hi, .int .u64 K, .int .u64 S], .int .u64 x, .int .i64 L] w fun e w' => e = .returned (.bool b) ∧ Below w.heap.size w w' := by
  have hand : bits BinOp.and IntKind.u64 (x : Int) (K : Int) = ((x &&& K : Nat) : Int) := u64_and_nat _ _ hx hK
  by_cases c1 : lo ≤ L
  · have d1 : decide (lo ≤ L) = true := by simp; omega
    by_cases c2 : L ≤ hi
    · have d2 : decide (L ≤ hi) = true := by simp; omega
      have d3 : (bits BinOp.and IntKind.u64 (x : Int) (K : Int) == (S : Int)) = b := by
        rw [hand, Bool.eq_iff_iff, beq_iff_eq, hb]; omega
      clear hb hand c1 c2
      go_enter Tryd.func63, Tryd.ntmps63
      go_wp2
      go_ret
      exact ⟨rfl, (Below.refl _ _).alloc (Nat.le_refl _) _⟩
    · have d2 : decide (L ≤ hi) = false := by simp; omega
      obtain rfl : b = false := by
        cases b
        · rfl
        · exact absurd (hb.1 rfl).2.1 c2
      clear hb hand c1 c2
      go_enter Tryd.func63, Tryd.ntmps63
      go_wp2
      go_ret
      exact ⟨rfl, (Below.refl _ _).alloc (Nat.le_refl _) _⟩
  · have d1 : decide (lo ≤ L) = false := by simp; omega
    obtain rfl : b = false := by
      cases b
      · rfl
      · exact absurd (hb.1 rfl).1 c1
    clear hb hand c1
    go_enter Tryd.func63, Tryd.ntmps63
    go_wp2
    go_ret
    exact ⟨rfl, (Below.refl _ _).alloc (Nat.le_refl _) _⟩

theorem bit1_test (x : Nat) (hx : x < 18446744073709551616) : (bits BinOp.and IntKind.u64 (x : Int) 2 != 0) = decide (x / 2 % 2 = 1) := by
  have h : x &&& 2 = 2 * (x / 2 % 2) := by
    conv => lhs; rw [show x = x % 2 + 2 ^ 1 * (x / 2 % 2 + 2 ^ 1 * (x / 4)) by omega, show 2 = 0 + 2 ^ 1 * ((2 ^ 1 - 1) + 2 ^ 1 * 0) by decide]
    rw [EN.and_peel _ _ _ _ _ (by omega) (by decide), EN.and_peel _ _ _ _ _ (by omega) (by decide), EN.and_full, Nat.and_zero, Nat.and_zero]
    omega
  rw [show (2 : Int) = ((2 : Nat) : Int) from rfl, u64_and_nat _ _ hx (by decide), h]
  rw [Bool.eq_iff_iff, bne_iff_ne, decide_eq_true_iff]; omega
theorem bit63_test (x : Nat) (hx : x < 18446744073709551616) : (bits BinOp.and IntKind.u64 (x : Int) 9223372036854775808 == 0) = decide (x / 9223372036854775808 = 0) := by
  have h : x &&& 9223372036854775808 = 9223372036854775808 * (x / 9223372036854775808) := by
    conv => lhs; rw [show x = x % 9223372036854775808 + 2 ^ 63 * (x / 9223372036854775808) by omega, show 9223372036854775808 = 0 + 2 ^ 63 * (2 ^ 1 - 1) by decide]
    rw [EN.and_peel _ _ _ _ _ (by omega) (by decide), EN.and_full, Nat.and_zero]
    omega
  rw [show (9223372036854775808 : Int) = ((9223372036854775808 : Nat) : Int) from rfl, u64_and_nat _ _ hx (by decide), h]
  rw [Bool.eq_iff_iff, beq_iff_eq, decide_eq_true_iff]; omega

set_option maxRecDepth 100000 in
set_option maxHeartbeats 400000 in
theorem perm_any (x : Nat) (hx : x < 18446744073709551616) (w : World) :
    Calls Tryd.prog 64 #[.int .u64 x] w fun e w' => e = .returned (.int .i64 (EN.perm x)) ∧ w = w' := by
  have h1 := bit1_test x hx
  have h2 := bit63_test x hx
  have hp : Hid (EN.perm x = 1 + (if x / 2 % 2 = 1 then 2 else 0) + (if x / 9223372036854775808 = 0 then 4 else 0)) := rfl
  by_cases c1 : x / 2 % 2 = 1
  · rw [decide_eq_true c1] at h1
    rw [if_pos c1] at hp
    by_cases c2 : x / 9223372036854775808 = 0
    · rw [decide_eq_true c2] at h2
      rw [if_pos c2] at hp
      clear c1 c2
      go_enter Tryd.func64, Tryd.ntmps64
      go_wp2
      go_ret
      exact ⟨ret_i64 hp.out.symm, rfl⟩
    · rw [decide_eq_false c2] at h2
      rw [if_neg c2] at hp
      clear c1 c2
      go_enter Tryd.func64, Tryd.ntmps64
      go_wp2
      go_ret
      exact ⟨ret_i64 hp.out.symm, rfl⟩
  · rw [decide_eq_false c1] at h1
    rw [if_neg c1] at hp
    by_cases c2 : x / 9223372036854775808 = 0
    · rw [decide_eq_true c2] at h2
      rw [if_pos c2] at hp
      clear c1 c2
      go_enter Tryd.func64, Tryd.ntmps64
      go_wp2
      go_ret
      exact ⟨ret_i64 hp.out.symm, rfl⟩
    · rw [decide_eq_false c2] at h2
      rw [if_neg c2] at hp
      clear c1 c2
      go_enter Tryd.func64, Tryd.ntmps64
      go_wp2
      go_ret
      exact ⟨ret_i64 hp.out.symm, rfl⟩

end Go.Proofs.YthiojnbnhagcgaaDoor

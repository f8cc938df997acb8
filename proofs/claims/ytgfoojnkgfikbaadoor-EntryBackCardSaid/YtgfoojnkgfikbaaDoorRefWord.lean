/- Contracts of the functions of package haywardref01 (the document's own answers for words): what each returns, for all arguments; the world is left as it was. -/
import Derived.Test.YtgfoojnkgfikbaaDoorWord
namespace Go.Proofs.YtgfoojnkgfikbaaDoor
open Go.ChangeShapes Go.WideShapes Go.ChangeAt Go.RowKit
set_option linter.unusedVariables false

set_option maxRecDepth 100000 in
set_option maxHeartbeats 400000 in
theorem rbit_any (x i : Nat) (hx : x < 18446744073709551616) (hi : i < 64) (w : World) :
    Calls Tryd.prog 16 #[.int .u64 x, .int .i64 i] w fun e w' => e = .returned (.int .u64 ((WM.bit x i : Nat) : Int)) ∧ w = w' := by
  have hs := W_hid (and_one x i hx)
  go_enter Tryd.func16, Tryd.ntmps16
  go_wp2
  go_ret
  exact ⟨ret_u64 hs.out, rfl⟩

set_option maxRecDepth 100000 in
set_option maxHeartbeats 400000 in
theorem right_yes (lo n : Nat) (h : lo + n ≤ 64) (w : World) :
    Calls Tryd.prog 21 #[.int .i64 lo, .int .i64 n] w fun e w' => e = .returned (.bool true) ∧ w = w' := by
  have h1 : (0 : Int) ≤ (lo : Int) := by omega
  have h2 : (0 : Int) ≤ (n : Int) := by omega
  have h4 : decide ((lo : Int) ≤ 64) = true := by simp; omega
  have h3 : decide ((n : Int) ≤ 64 - (lo : Int)) = true := by simp; omega
  go_enter Tryd.func21, Tryd.ntmps21
  go_wp2
  go_ret
  exact ⟨rfl, rfl⟩

set_option maxRecDepth 100000 in
set_option maxHeartbeats 400000 in
theorem right_no (lo n : Int) (h : ¬ (0 ≤ lo ∧ 0 ≤ n ∧ n ≤ 64 - lo)) (w : World) :
    Calls Tryd.prog 21 #[.int .i64 lo, .int .i64 n] w fun e w' => e = .returned (.bool false) ∧ w = w' := by
  by_cases c1 : 0 ≤ lo
  · by_cases c2 : 0 ≤ n
    · by_cases c5 : lo ≤ 64
      · have c3 : decide (n ≤ 64 - lo) = false := by simp; omega
        clear h
        go_enter Tryd.func21, Tryd.ntmps21
        go_wp2
        go_ret
        exact ⟨rfl, rfl⟩
      · have c3 : decide (lo ≤ 64) = false := by simp; omega
        clear h c5
        go_enter Tryd.func21, Tryd.ntmps21
        go_wp2
        go_ret
        exact ⟨rfl, rfl⟩
    · have c4 : decide (0 ≤ n) = false := by simp; omega
      clear h c2
      go_enter Tryd.func21, Tryd.ntmps21
      go_wp2
      go_ret
      exact ⟨rfl, rfl⟩
  · have c4 : decide (0 ≤ lo) = false := by simp; omega
    clear h c1
    go_enter Tryd.func21, Tryd.ntmps21
    go_wp2
    go_ret
    exact ⟨rfl, rfl⟩

set_option maxRecDepth 100000 in
set_option maxHeartbeats 400000 in
theorem rtake_no (x lo n : Int) (h : ¬ (0 ≤ lo ∧ 0 ≤ n ∧ n ≤ 64 - lo)) (w : World) :
    Calls Tryd.prog 15 #[.int .u64 x, .int .i64 lo, .int .i64 n] w fun e w' => e = .returned (.tuple #[.int .u64 0, .int .i64 2]) ∧ w = w' := by
  have hh := W_hid h
  clear h
  go_enter Tryd.func15, Tryd.ntmps15
  go_wp2_with (go_at_call 21; refine (right_no lo n hh.out _).mono ?_; rintro e w' ⟨rfl, rfl⟩)
  go_ret2
  exact ⟨rfl, rfl⟩

theorem rtake_step (x lo k : Nat) (h : lo + k < 64) :
    IntKind.u64.wrap (((WM.take x lo k : Nat) : Int) + IntKind.u64.wrap (((WM.bit x (lo + k) : Nat) : Int) * 2 ^ k)) = ((WM.take x lo (k + 1) : Nat) : Int) := by
  have e2 : ∀ k : Nat, ((2 : Int) ^ k) = ((2 ^ k : Nat) : Int) := by intro k; simp
  have h1 : WM.take x lo (k + 1) = WM.take x lo k + WM.bit x (lo + k) * 2 ^ k := by
    unfold WM.take; rw [WM.mod_succ, WM.bit_add]
  have h2 := WM.take_lt x lo (k + 1)
  have h3 : 2 ^ (k + 1) ≤ 2 ^ 64 := Nat.pow_le_pow_right (by decide) (by omega)
  rw [e2, ← Int.natCast_mul, wrap_in _ (by simp at h3; omega), ← Int.natCast_add, wrap_in _ (by simp at h3; omega), h1]

set_option maxRecDepth 100000 in
set_option maxHeartbeats 400000 in
theorem rtake_yes (x lo n : Nat) (hx : x < 18446744073709551616) (h : lo + n ≤ 64) (w : World) :
    Calls Tryd.prog 15 #[.int .u64 x, .int .i64 lo, .int .i64 n] w fun e w' => e = .returned (.tuple #[.int .u64 ((WM.take x lo n : Nat) : Int), .int .i64 0]) ∧ w = w' := by
  go_enter Tryd.func15, Tryd.ntmps15
  go_wp2_with (go_at_call 21; refine (right_yes lo n h _).mono ?_; rintro e w' ⟨rfl, rfl⟩)
  go_loop [9, 10] (fun o i => ∃ k : Nat, k ≤ n ∧ i = .int .i64 k ∧ o = .int .u64 ((WM.take x lo k : Nat) : Int)) (fun _ i => (n - intOf i).toNat)
  case atStart => exact ⟨0, by omega, rfl, by unfold WM.take; simp [Nat.mod_one]⟩
  case round =>
    obtain ⟨k, hk, rfl, rfl⟩ := hrel
    by_cases hlt : k < n
    · have hs := W_hid (rtake_step x lo k (by omega))
      go_wp2_with (go_at_call 16; refine (rbit_any x (lo + k) hx (by omega) _).mono ?_; rintro e w' ⟨rfl, rfl⟩)
      go_round
      case rel => exact ⟨k + 1, by omega, by go_num, by rw [hs.out]⟩
      case measure => simp [intOf]; omega
    · have h64 : Hid (k = n) := (by omega : k = n)
      go_wp2
      go_ret2
      exact ⟨by rw [h64.out]; rfl, rfl⟩

theorem rput_step (x lo n v k : Nat) (h : k < 64) :
    IntKind.u64.wrap (((WM.sum (WM.putBit x lo n v) k : Nat) : Int) + IntKind.u64.wrap (((WM.putBit x lo n v k : Nat) : Int) * 2 ^ k)) = ((WM.sum (WM.putBit x lo n v) (k + 1) : Nat) : Int) := by
  have e2 : ∀ k : Nat, ((2 : Int) ^ k) = ((2 ^ k : Nat) : Int) := by intro k; simp
  have h1 : WM.sum (WM.putBit x lo n v) (k + 1) = WM.sum (WM.putBit x lo n v) k + WM.putBit x lo n v k * 2 ^ k := rfl
  have h2 := WM.sum_lt (WM.putBit x lo n v) (WM.putBit_lt x lo n v) (k + 1)
  have h3 : 2 ^ (k + 1) ≤ 2 ^ 64 := Nat.pow_le_pow_right (by decide) (by omega)
  rw [e2, ← Int.natCast_mul, wrap_in _ (by simp at h3; omega), ← Int.natCast_add, wrap_in _ (by simp at h3; omega), h1]

/-- The bits of v from n on, from k on, are clear. -/
def Clear (v n k : Nat) : Prop := ∀ i, n ≤ i → i < k → WM.bit v i = 0

/-- What the two roads of the first loop come to. -/
def PutEnds (x lo n v : Nat) (e : Ending) : Prop :=
  (v < 2 ^ n → e = .returned (.tuple #[.int .u64 ((WM.put x lo n v : Nat) : Int), .int .i64 0])) ∧ (¬ v < 2 ^ n → e = .returned (.tuple #[.int .u64 0, .int .i64 2]))

theorem put_ends_high {x lo n v i : Nat} (h1 : n ≤ i) (h2 : WM.bit v i = 1) : PutEnds x lo n v (.returned (.tuple #[.int .u64 0, .int .i64 2])) :=
  ⟨fun h => by have := WM.high_bit v n i h h1; omega, fun _ => rfl⟩

end Go.Proofs.YtgfoojnkgfikbaaDoor

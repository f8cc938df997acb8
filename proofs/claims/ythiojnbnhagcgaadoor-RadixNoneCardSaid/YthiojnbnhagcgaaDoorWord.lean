/- Contracts of the functions of package word: what each returns, for all arguments; memory that was there is unchanged. -/
import Derived.Test.YthiojnbnhagcgaaDoorHid
import Derived.Test.YthiojnbnhagcgaaDoorWordMath
import Derived.WalkKit
import Derived.ProofKit
import Derived.OpenShut
import Derived.Outline
import Derived.WalkLawsBesides
import Derived.Deep.QuietTactic
import Derived.BigQuiet
import Derived.IntWalk
import Derived.Deep.RegionWith
import Derived.Laws.BitsAllLaws
namespace Go.Proofs.YthiojnbnhagcgaaDoor
open Go.ChangeShapes Go.WideShapes Go.ChangeAt Go.RowKit
set_option linter.unusedVariables false


theorem and_one (x i : Nat) (hx : x < 18446744073709551616) : bits BinOp.and IntKind.u64 ((x : Int) / 2 ^ i) 1 = ((WM.bit x i : Nat) : Int) := by
  have e : ((x : Int) / 2 ^ i) = ((x / 2 ^ i : Nat) : Int) := by simp
  have h : x / 2 ^ i < 18446744073709551616 := Nat.lt_of_le_of_lt (Nat.div_le_self _ _) hx
  have h1 : (1 : Int) = ((1 : Nat) : Int) := rfl
  rw [e, h1, u64_and_nat _ _ h (by decide), nat_mask1]; rfl

theorem wrap_in (n : Nat) (h : n < 18446744073709551616) : IntKind.u64.wrap (n : Int) = n := by
  rw [IntKind.wrap_u64]; omega

theorem and_is1 (x i : Nat) (hx : x < 18446744073709551616) (h : WM.bit x i = 1) :
    (bits BinOp.and IntKind.u64 ((x : Int) / 2 ^ i) 1 == 1) = true ∧ (bits BinOp.and IntKind.u64 ((x : Int) / 2 ^ i) 1 == 0) = false := by
  rw [and_one x i hx, h]; decide
theorem and_is0 (x i : Nat) (hx : x < 18446744073709551616) (h : WM.bit x i = 0) :
    (bits BinOp.and IntKind.u64 ((x : Int) / 2 ^ i) 1 == 1) = false ∧ (bits BinOp.and IntKind.u64 ((x : Int) / 2 ^ i) 1 == 0) = true := by
  rw [and_one x i hx, h]; decide

set_option maxRecDepth 100000 in
set_option maxHeartbeats 400000 in
theorem ones_any (x : Nat) (hx : x < 18446744073709551616) (w : World) :
    Calls Tryd.prog 57 #[.int .u64 x] w fun e w' => e = .returned (.int .i64 ((WM.ones x 64 : Nat) : Int)) ∧ w = w' := by
  go_enter Tryd.func57, Tryd.ntmps57
  go_wp2
  go_loop [3, 4, 5] (fun o v i => ∃ k : Nat, k ≤ 64 ∧ i = .int .i64 k ∧ o = .int .i64 ((WM.ones x k : Nat) : Int)) (fun _ _ i => (64 - intOf i).toNat)
  case atStart => exact ⟨0, by omega, rfl, rfl⟩
  case round =>
    obtain ⟨k, hk, rfl, rfl⟩ := hrel
    have hl := WM.ones_le x k
    by_cases hlt : k < 64
    · rcases WM.bit_01 x k with h01 | h01
      · have hb := (and_is0 x k hx h01).1
        have hs : Hid (WM.ones x (k + 1) = WM.ones x k) := by show WM.ones x k + WM.bit x k = _; rw [h01]; rfl
        clear h01
        go_wp2
        go_round
        case rel => exact ⟨k + 1, by omega, by go_num, by rw [hs.out]⟩
        case measure => simp [intOf]; omega
      · have hb := (and_is1 x k hx h01).1
        have hs : Hid (WM.ones x (k + 1) = WM.ones x k + 1) := by show WM.ones x k + WM.bit x k = _; rw [h01]
        clear h01
        go_wp2
        go_round
        case rel => exact ⟨k + 1, by omega, by go_num, by rw [hs.out]; go_num⟩
        case measure => simp [intOf]; omega
    · have h64 : Hid (k = 64) := (by omega : k = 64)
      go_wp2
      go_ret
      exact ⟨ret_i64 (by rw [h64.out]), rfl⟩

/-! ### Fields -/
theorem ret_tmp_world {w0 w w' : World} {r : Ending} (h : Below w0.heap.size w0 w') : r = r ∧ Below w0.heap.size w0 w' := ⟨rfl, h⟩

set_option maxRecDepth 100000 in
set_option maxHeartbeats 400000 in
theorem valid_yes (lo n : Nat) (h : lo + n ≤ 64) (w : World) :
    Calls Tryd.prog 70 #[.agg #[.int .i64 lo, .int .i64 n]] w fun e w' => e = .returned (.bool true) ∧ Below w.heap.size w w' := by
  have h1 : (0 : Int) ≤ (lo : Int) := by omega
  have h2 : (0 : Int) ≤ (n : Int) := by omega
  have h3 : decide ((n : Int) ≤ 64 - (lo : Int)) = true := by simp; omega
  go_enter Tryd.func70, Tryd.ntmps70
  go_wp2
  go_ret
  exact ⟨rfl, (Below.refl _ _).alloc (Nat.le_refl _) _⟩

set_option maxRecDepth 100000 in
set_option maxHeartbeats 400000 in
theorem valid_no (lo n : Int) (hlo : -9223372036854775808 ≤ lo ∧ lo ≤ 9223372036854775807) (h : ¬ (0 ≤ lo ∧ 0 ≤ n ∧ n ≤ 64 - lo)) (w : World) :
    Calls Tryd.prog 70 #[.agg #[.int .i64 lo, .int .i64 n]] w fun e w' => e = .returned (.bool false) ∧ Below w.heap.size w w' := by
  obtain ⟨hl1, hl2⟩ := hlo
  by_cases c1 : 0 ≤ lo
  · by_cases c2 : 0 ≤ n
    · have c3 : decide (n ≤ 64 - lo) = false := by simp; omega
      clear h
      go_enter Tryd.func70, Tryd.ntmps70
      go_wp2
      go_ret
      exact ⟨rfl, (Below.refl _ _).alloc (Nat.le_refl _) _⟩
    · have c4 : decide (0 ≤ n) = false := by simp; omega
      clear h c2
      go_enter Tryd.func70, Tryd.ntmps70
      go_wp2
      go_ret
      exact ⟨rfl, (Below.refl _ _).alloc (Nat.le_refl _) _⟩
  · have c4 : decide (0 ≤ lo) = false := by simp; omega
    clear h c1
    go_enter Tryd.func70, Tryd.ntmps70
    go_wp2
    go_ret
    exact ⟨rfl, (Below.refl _ _).alloc (Nat.le_refl _) _⟩

theorem mask_wraps (lo n : Nat) (h : lo + n ≤ 64) :
    IntKind.u64.wrap (IntKind.u64.wrap (IntKind.u64.wrap (2 ^ n) - 1) * 2 ^ lo) = ((WM.mask lo n : Nat) : Int) := by
  have hm := WM.mask_lt lo n h
  have hp := Nat.two_pow_pos n
  have e2 : ∀ k : Nat, ((2 : Int) ^ k) = ((2 ^ k : Nat) : Int) := by intro k; simp
  rw [IntKind.wrap_u64, IntKind.wrap_u64, IntKind.wrap_u64, e2, e2]
  by_cases h64 : n = 64
  · subst h64
    obtain rfl : lo = 0 := by omega
    rfl
  · have hn : 2 ^ n < 2 ^ 64 := Nat.pow_lt_pow_right (by decide) (by omega)
    have e1 : (((2 ^ n : Nat) : Int) % 18446744073709551616 - 1) % 18446744073709551616 = ((2 ^ n - 1 : Nat) : Int) := by omega
    rw [e1, ← Int.natCast_mul]
    unfold WM.mask
    unfold WM.mask at hm
    omega

set_option maxRecDepth 100000 in
set_option maxHeartbeats 400000 in
theorem mask_yes (lo n : Nat) (h : lo + n ≤ 64) (w : World) :
    Calls Tryd.prog 71 #[.agg #[.int .i64 lo, .int .i64 n]] w fun e w' => e = .returned (.int .u64 ((WM.mask lo n : Nat) : Int)) ∧ Below w.heap.size w w' := by
  have hm := W_hid (mask_wraps lo n h)
  go_enter Tryd.func71, Tryd.ntmps71
  go_wp2
  go_quiet (fail)
  go_wp2
  go_ret
  exact ⟨ret_u64 hm.out, below_drewN ((Below.refl _ _).alloc (Nat.le_refl _) _) _⟩

set_option maxRecDepth 100000 in
set_option maxHeartbeats 400000 in
theorem demand_valid_yes (lo n : Nat) (h : lo + n ≤ 64) (w : World) :
    Calls Tryd.prog 48 #[.func (Fn.func 70) #[.agg #[.int .i64 lo, .int .i64 n]] #[]] w fun e w' => e = .returned (.int .i64 0) ∧ Below w.heap.size w w' := by
  go_enter Tryd.func48, Tryd.ntmps48
  go_wp2_with (go_at_call 70; refine (valid_yes lo n h _).mono ?_; rintro e w' ⟨rfl, hb⟩)
  go_ret
  exact ⟨rfl, hb⟩

set_option maxRecDepth 100000 in
set_option maxHeartbeats 400000 in
theorem demand_valid_no (lo n : Int) (hlo : -9223372036854775808 ≤ lo ∧ lo ≤ 9223372036854775807) (h : ¬ (0 ≤ lo ∧ 0 ≤ n ∧ n ≤ 64 - lo)) (w : World) :
    Calls Tryd.prog 48 #[.func (Fn.func 70) #[.agg #[.int .i64 lo, .int .i64 n]] #[]] w fun e w' => e = .returned (.int .i64 2) ∧ Below w.heap.size w w' := by
  have c := fun w => valid_no lo n hlo h w
  clear h
  go_enter Tryd.func48, Tryd.ntmps48
  go_wp2_with (go_at_call 70; refine (c _).mono ?_; rintro e w' ⟨rfl, hb⟩)
  go_ret
  exact ⟨rfl, hb⟩

/-- Behind a call that made memory: old cells read as before. -/
theorem bcell {W w1 : World} (hb : Below W.heap.size W w1) : (∀ b o, b < W.heap.size → w1.cell? ⟨b, o, none⟩ = W.cell? ⟨b, o, none⟩) ∧ (∀ b o, b < W.heap.size → w1.frozen? ⟨b, o, none⟩ = W.frozen? ⟨b, o, none⟩) :=
  ⟨fun b o h => hb.cell (p := ⟨b, o, none⟩) h, fun b o h => hb.frozen (p := ⟨b, o, none⟩) h⟩

set_option maxRecDepth 100000 in
set_option maxHeartbeats 400000 in
theorem take_yes (x lo n : Nat) (hx : x < 18446744073709551616) (h : lo + n ≤ 64) (w : World) :
    Calls Tryd.prog 60 #[.int .u64 x, .int .i64 lo, .int .i64 n] w fun e w' => e = .returned (.tuple #[.int .u64 ((WM.take x lo n : Nat) : Int), .int .i64 0]) ∧ Below w.heap.size w w' := by
  go_enter Tryd.func60, Tryd.ntmps60
  go_wp2_with (first | (go_at_call 48; refine (demand_valid_yes lo n h _).mono ?_; rintro e w1 ⟨rfl, hb⟩; obtain ⟨hc, hf⟩ := bcell hb) | (go_at_call 71; refine (mask_yes lo n h _).mono ?_; rintro e w2 ⟨rfl, hb2⟩))
  go_ret2
  have ht : Hid (bits BinOp.and IntKind.u64 (x : Int) ((WM.mask lo n : Nat) : Int) / 2 ^ lo = ((WM.take x lo n : Nat) : Int)) := by
    have hm := WM.mask_lt lo n h
    show _ = _
    rw [u64_and_nat _ _ hx (by simpa using hm), ← WM.take_and]
    simp
  exact ⟨by rw [ht.out]; rfl, (((Below.refl _ _).alloc (Nat.le_refl _) _).trans (hb.mono (by simp))).trans (hb2.mono (by have := hb.size; simp at this; omega))⟩

set_option maxRecDepth 100000 in
set_option maxHeartbeats 400000 in
theorem take_no (x : Int) (lo n : Int) (hlo : -9223372036854775808 ≤ lo ∧ lo ≤ 9223372036854775807) (h : ¬ (0 ≤ lo ∧ 0 ≤ n ∧ n ≤ 64 - lo)) (w : World) :
    Calls Tryd.prog 60 #[.int .u64 x, .int .i64 lo, .int .i64 n] w fun e w' => e = .returned (.tuple #[.int .u64 0, .int .i64 2]) ∧ Below w.heap.size w w' := by
  have c := fun w => demand_valid_no lo n hlo h w
  clear h
  go_enter Tryd.func60, Tryd.ntmps60
  go_wp2_with (first | (go_at_call 48; refine (c _).mono ?_; rintro e w1 ⟨rfl, hb⟩; obtain ⟨hc, hf⟩ := bcell hb))
  go_ret2
  exact ⟨rfl, (((Below.refl _ _).alloc (Nat.le_refl _) _).trans (hb.mono (by simp)))⟩

set_option maxRecDepth 100000 in
set_option maxHeartbeats 400000 in
theorem put_no (x lo n v : Int) (hlo : -9223372036854775808 ≤ lo ∧ lo ≤ 9223372036854775807) (h : ¬ (0 ≤ lo ∧ 0 ≤ n ∧ n ≤ 64 - lo)) (w : World) :
    Calls Tryd.prog 61 #[.int .u64 x, .int .i64 lo, .int .i64 n, .int .u64 v] w fun e w' => e = .returned (.tuple #[.int .u64 0, .int .i64 2]) ∧ Below w.heap.size w w' := by
  have c := fun w => demand_valid_no lo n hlo h w
  clear h
  go_enter Tryd.func61, Tryd.ntmps61
  go_wp2_with (first | (go_at_call 48; refine (c _).mono ?_; rintro e w1 ⟨rfl, hb⟩; obtain ⟨hc, hf⟩ := bcell hb))
  go_ret2
  exact ⟨rfl, (((Below.refl _ _).alloc (Nat.le_refl _) _).trans (hb.mono (by simp)))⟩

theorem div_pow_ne (v n : Nat) (h : 2 ^ n ≤ v) : (((v : Int) / 2 ^ n) != 0) = true := by
  have e : ((v : Int) / 2 ^ n) = ((v / 2 ^ n : Nat) : Int) := by simp
  have : 0 < v / 2 ^ n := Nat.div_pos h (Nat.two_pow_pos n)
  rw [e]; simp; omega
theorem div_pow_eq (v n : Nat) (h : v < 2 ^ n) : (((v : Int) / 2 ^ n) != 0) = false := by
  have e : ((v : Int) / 2 ^ n) = ((v / 2 ^ n : Nat) : Int) := by simp
  rw [e, Nat.div_eq_of_lt h]; rfl

set_option maxRecDepth 100000 in
set_option maxHeartbeats 400000 in
theorem put_high (x : Int) (lo n v : Nat) (h : lo + n ≤ 64) (hv : 2 ^ n ≤ v) (w : World) :
    Calls Tryd.prog 61 #[.int .u64 x, .int .i64 lo, .int .i64 n, .int .u64 v] w fun e w' => e = .returned (.tuple #[.int .u64 0, .int .i64 2]) ∧ Below w.heap.size w w' := by
  have hq := div_pow_ne v n hv
  clear hv
  go_enter Tryd.func61, Tryd.ntmps61
  go_wp2_with (first | (go_at_call 48; refine (demand_valid_yes lo n h _).mono ?_; rintro e w1 ⟨rfl, hb⟩; obtain ⟨hc, hf⟩ := bcell hb))
  go_ret2
  exact ⟨rfl, (((Below.refl _ _).alloc (Nat.le_refl _) _).trans (hb.mono (by simp)))⟩

theorem put_spell (x lo n v : Nat) (hx : x < 18446744073709551616) (h : lo + n ≤ 64) (hv : v < 2 ^ n) :
    bits BinOp.or IntKind.u64 (bits BinOp.andNot IntKind.u64 (x : Int) ((WM.mask lo n : Nat) : Int)) (IntKind.u64.wrap ((v : Int) * 2 ^ lo)) = ((WM.put x lo n v : Nat) : Int) := by
  have hm := WM.mask_lt lo n h
  have e2 : ∀ k : Nat, ((2 : Int) ^ k) = ((2 ^ k : Nat) : Int) := by intro k; simp
  have h3 : v * 2 ^ lo < 2 ^ 64 := by
    calc v * 2 ^ lo < 2 ^ n * 2 ^ lo := Nat.mul_lt_mul_of_pos_right hv (Nat.two_pow_pos lo)
      _ = 2 ^ (n + lo) := (Nat.pow_add 2 n lo).symm
      _ ≤ 2 ^ 64 := Nat.pow_le_pow_right (by decide) (by omega)
  rw [u64_andNot_nat _ _ hx (by simpa using hm), e2, ← Int.natCast_mul, wrap_in _ (by simpa using h3)]
  exact u64_or_nat _ _ (Nat.lt_of_le_of_lt Nat.and_le_left hx) (by simpa using h3)

set_option maxRecDepth 100000 in
set_option maxHeartbeats 400000 in
theorem put_yes (x lo n v : Nat) (hx : x < 18446744073709551616) (h : lo + n ≤ 64) (hv : v < 2 ^ n) (w : World) :
    Calls Tryd.prog 61 #[.int .u64 x, .int .i64 lo, .int .i64 n, .int .u64 v] w fun e w' => e = .returned (.tuple #[.int .u64 ((WM.put x lo n v : Nat) : Int), .int .i64 0]) ∧ Below w.heap.size w w' := by
  have hq := div_pow_eq v n hv
  have hv' := W_hid hv
  clear hv
  go_enter Tryd.func61, Tryd.ntmps61
  go_wp2_with (first | (go_at_call 48; refine (demand_valid_yes lo n h _).mono ?_; rintro e w1 ⟨rfl, hb⟩; obtain ⟨hc, hf⟩ := bcell hb))
  go_region_with (go_at_call 71; refine (mask_yes lo n h _).mono ?_; rintro e w2 ⟨rfl, hb2⟩; obtain ⟨hc2, hf2⟩ := bcell hb2)
  all_goals
    go_wp2
    go_ret2
    have ht : Hid (bits BinOp.or IntKind.u64 (bits BinOp.andNot IntKind.u64 (x : Int) ((WM.mask lo n : Nat) : Int)) (IntKind.u64.wrap ((v : Int) * 2 ^ lo)) = ((WM.put x lo n v : Nat) : Int)) := put_spell x lo n v hx h hv'.out
    exact ⟨by rw [ht.out]; rfl, (((Below.refl _ _).alloc (Nat.le_refl _) _).trans (hb.mono (by simp))).trans (Below.drew (Below.refl _ _) |>.trans (hb2.mono (by have := hb.size; simp at this; show w.heap.size ≤ w1.heap.size; omega)))⟩

/-! ### Rounding -/
set_option maxRecDepth 100000 in
set_option maxHeartbeats 400000 in
theorem power_yes (x : Nat) (hx : x < 18446744073709551616) (h : WM.ones x 64 = 1) (w : World) :
    Calls Tryd.prog 49 #[.int .u64 x] w fun e w' => e = .returned (.bool true) ∧ w = w' := by
  have hh : (((WM.ones x 64 : Nat) : Int) == 1) = true := by rw [h]; rfl
  clear h
  go_enter Tryd.func49, Tryd.ntmps49
  go_wp2_with (go_at_call 57; refine (ones_any x hx _).mono ?_; rintro e w' ⟨rfl, rfl⟩)
  go_ret
  exact ⟨rfl, rfl⟩

set_option maxRecDepth 100000 in
set_option maxHeartbeats 400000 in
theorem power_no (x : Nat) (hx : x < 18446744073709551616) (h : WM.ones x 64 ≠ 1) (w : World) :
    Calls Tryd.prog 49 #[.int .u64 x] w fun e w' => e = .returned (.bool false) ∧ w = w' := by
  have hh : (((WM.ones x 64 : Nat) : Int) == 1) = false := by simp; omega
  clear h
  go_enter Tryd.func49, Tryd.ntmps49
  go_wp2_with (go_at_call 57; refine (ones_any x hx _).mono ?_; rintro e w' ⟨rfl, rfl⟩)
  go_ret
  exact ⟨rfl, rfl⟩

set_option maxRecDepth 100000 in
set_option maxHeartbeats 400000 in
theorem demand_power_yes (x : Nat) (hx : x < 18446744073709551616) (h : WM.ones x 64 = 1) (w : World) :
    Calls Tryd.prog 48 #[.func (Fn.func 49) #[.int .u64 x] #[]] w fun e w' => e = .returned (.int .i64 0) ∧ w = w' := by
  have hh := W_hid h
  clear h
  go_enter Tryd.func48, Tryd.ntmps48
  go_wp2_with (go_at_call 49; refine (power_yes x hx hh.out _).mono ?_; rintro e w' ⟨rfl, rfl⟩)
  go_ret
  exact ⟨rfl, rfl⟩

set_option maxRecDepth 100000 in
set_option maxHeartbeats 400000 in
theorem demand_power_no (x : Nat) (hx : x < 18446744073709551616) (h : WM.ones x 64 ≠ 1) (w : World) :
    Calls Tryd.prog 48 #[.func (Fn.func 49) #[.int .u64 x] #[]] w fun e w' => e = .returned (.int .i64 2) ∧ w = w' := by
  have hh := W_hid h
  clear h
  go_enter Tryd.func48, Tryd.ntmps48
  go_wp2_with (go_at_call 49; refine (power_no x hx hh.out _).mono ?_; rintro e w' ⟨rfl, rfl⟩)
  go_ret
  exact ⟨rfl, rfl⟩

theorem andNot_spell (x to : Nat) (hx : x < 18446744073709551616) (ht : to < 18446744073709551616) (h : WM.ones to 64 = 1) :
    bits BinOp.andNot IntKind.u64 (x : Int) (IntKind.u64.wrap ((to : Int) - 1)) = ((WM.down x to : Nat) : Int) := by
  have hp := WM.pos to ht h
  have e : ((to : Int) - 1) = ((to - 1 : Nat) : Int) := by omega
  rw [e, wrap_in _ (by omega), u64_andNot_nat _ _ hx (by omega), WM.down_clear x to hx ht h]

set_option maxRecDepth 100000 in
set_option maxHeartbeats 400000 in
theorem down_yes (x to : Nat) (hx : x < 18446744073709551616) (ht : to < 18446744073709551616) (h : WM.ones to 64 = 1) (w : World) :
    Calls Tryd.prog 26 #[.int .u64 x, .int .u64 to] w fun e w' => e = .returned (.tuple #[.int .u64 ((WM.down x to : Nat) : Int), .int .i64 0]) ∧ w = w' := by
  have hs := W_hid (andNot_spell x to hx ht h)
  have hh := W_hid h
  clear h
  go_enter Tryd.func26, Tryd.ntmps26
  go_wp2_with (go_at_call 48; refine (demand_power_yes to ht hh.out _).mono ?_; rintro e w' ⟨rfl, rfl⟩)
  go_ret2
  exact ⟨by rw [hs.out]; rfl, rfl⟩

set_option maxRecDepth 100000 in
set_option maxHeartbeats 400000 in
theorem down_no (x : Int) (to : Nat) (ht : to < 18446744073709551616) (h : WM.ones to 64 ≠ 1) (w : World) :
    Calls Tryd.prog 26 #[.int .u64 x, .int .u64 to] w fun e w' => e = .returned (.tuple #[.int .u64 0, .int .i64 2]) ∧ w = w' := by
  have hh := W_hid h
  clear h
  go_enter Tryd.func26, Tryd.ntmps26
  go_wp2_with (go_at_call 48; refine (demand_power_no to ht hh.out _).mono ?_; rintro e w' ⟨rfl, rfl⟩)
  go_ret2
  exact ⟨rfl, rfl⟩

set_option maxRecDepth 100000 in
set_option maxHeartbeats 400000 in
theorem up_no (x : Int) (to : Nat) (ht : to < 18446744073709551616) (h : WM.ones to 64 ≠ 1) (w : World) :
    Calls Tryd.prog 69 #[.int .u64 x, .int .u64 to] w fun e w' => e = .returned (.tuple #[.int .u64 0, .int .i64 2]) ∧ w = w' := by
  have hh := W_hid h
  clear h
  go_enter Tryd.func69, Tryd.ntmps69
  go_wp2_with (go_at_call 26; refine (down_no x to ht hh.out _).mono ?_; rintro e w' ⟨rfl, rfl⟩)
  go_ret2
  exact ⟨rfl, rfl⟩

set_option maxRecDepth 100000 in
set_option maxHeartbeats 400000 in
theorem up_same (x to : Nat) (hx : x < 18446744073709551616) (ht : to < 18446744073709551616) (h : WM.ones to 64 = 1) (h0 : x % to = 0) (w : World) :
    Calls Tryd.prog 69 #[.int .u64 x, .int .u64 to] w fun e w' => e = .returned (.tuple #[.int .u64 x, .int .i64 0]) ∧ w = w' := by
  have hh := W_hid h
  have hq := W_hid (WM.down_self x to h0)
  have he : (((WM.down x to : Nat) : Int) == (x : Int)) = true := by rw [hq.out]; simp
  clear h h0
  go_enter Tryd.func69, Tryd.ntmps69
  go_wp2_with (go_at_call 26; refine (down_yes x to hx ht hh.out _).mono ?_; rintro e w' ⟨rfl, rfl⟩)
  go_ret2
  exact ⟨by rw [hq.out]; rfl, rfl⟩

set_option maxRecDepth 100000 in
set_option maxHeartbeats 400000 in
theorem up_next (x to : Nat) (hx : x < 18446744073709551616) (ht : to < 18446744073709551616) (h : WM.ones to 64 = 1) (h0 : x % to ≠ 0) (hm : WM.down x to + to < 18446744073709551616) (w : World) :
    Calls Tryd.prog 69 #[.int .u64 x, .int .u64 to] w fun e w' => e = .returned (.tuple #[.int .u64 ((WM.down x to + to : Nat) : Int), .int .i64 0]) ∧ w = w' := by
  have hh := W_hid h
  have hp := WM.pos to ht h
  have hq := WM.down_ne x to h0
  have he : (((WM.down x to : Nat) : Int) == (x : Int)) = false := by simp; omega
  have hw' : Hid (IntKind.u64.wrap (((WM.down x to : Nat) : Int) + (to : Int)) = ((WM.down x to + to : Nat) : Int)) := by
    show _ = _
    rw [← Int.natCast_add, wrap_in _ hm]
  have hz : (IntKind.u64.wrap (((WM.down x to : Nat) : Int) + (to : Int)) == 0) = false := by rw [hw'.out]; simp; omega
  clear h h0 hq hm
  go_enter Tryd.func69, Tryd.ntmps69
  go_wp2_with (go_at_call 26; refine (down_yes x to hx ht hh.out _).mono ?_; rintro e w' ⟨rfl, rfl⟩)
  go_ret2
  exact ⟨by rw [hw'.out]; rfl, rfl⟩

set_option maxRecDepth 100000 in
set_option maxHeartbeats 400000 in
theorem up_over (x to : Nat) (hx : x < 18446744073709551616) (ht : to < 18446744073709551616) (h : WM.ones to 64 = 1) (h0 : x % to ≠ 0) (hm : ¬ WM.down x to + to < 18446744073709551616) (w : World) :
    Calls Tryd.prog 69 #[.int .u64 x, .int .u64 to] w fun e w' => e = .returned (.tuple #[.int .u64 0, .int .i64 2]) ∧ w = w' := by
  have hh := W_hid h
  have hp := WM.pos to ht h
  have hq := WM.down_ne x to h0
  have he : (((WM.down x to : Nat) : Int) == (x : Int)) = false := by simp; omega
  have hn := WM.down_next x to ht h hx
  have hz : (IntKind.u64.wrap (((WM.down x to : Nat) : Int) + (to : Int)) == 0) = true := by
    have e : WM.down x to + to = 18446744073709551616 := by omega
    rw [← Int.natCast_add, e]; rfl
  clear h h0 hq hm hn
  go_enter Tryd.func69, Tryd.ntmps69
  go_wp2_with (go_at_call 26; refine (down_yes x to hx ht hh.out _).mono ?_; rintro e w' ⟨rfl, rfl⟩)
  go_ret2
  exact ⟨rfl, rfl⟩

end Go.Proofs.YthiojnbnhagcgaaDoor

/- Contracts of the functions of package haywardref01 (the document's own answers for words): what each returns, for all arguments; the world is left as it was. -/
import Derived.Test.YtjnpekhmagamhaaWord
namespace Go.Proofs.Ytjnpekhmagamhaa
open Go.ChangeShapes Go.WideShapes Go.ChangeAt Go.RowKit
set_option linter.unusedVariables false

set_option maxHeartbeats 400000 in
theorem rbit_any (x i : Nat) (hx : x < 18446744073709551616) (hi : i < 64) (w : World) :
    Calls Try.prog 27 #[.int .u64 x, .int .i64 i] w fun e w' => e = .returned (.int .u64 ((WM.bit x i : Nat) : Int)) ∧ w = w' := by
  have hs := W_hid (and_one x i hx)
  go_enter Try.func27, Try.ntmps27
  go_wp2
  go_ret
  exact ⟨ret_u64 hs.out, rfl⟩

set_option maxHeartbeats 400000 in
theorem rones_any (x : Nat) (hx : x < 18446744073709551616) (w : World) :
    Calls Try.prog 21 #[.int .u64 x] w fun e w' => e = .returned (.int .i64 ((WM.ones x 64 : Nat) : Int)) ∧ w = w' := by
  go_enter Try.func21, Try.ntmps21
  go_wp2
  go_loop [3, 4] (fun o i => ∃ k : Nat, k ≤ 64 ∧ i = .int .i64 k ∧ o = .int .i64 ((WM.ones x k : Nat) : Int)) (fun _ i => (64 - intOf i).toNat)
  case atStart => exact ⟨0, by omega, rfl, rfl⟩
  case round =>
    obtain ⟨k, hk, rfl, rfl⟩ := hrel
    have hl := WM.ones_le x k
    by_cases hlt : k < 64
    · have hs : Hid (WM.ones x (k + 1) = WM.ones x k + WM.bit x k) := rfl
      have hb := WM.bit_lt x k
      go_wp2_with (go_at_call 27; refine (rbit_any x k hx hlt _).mono ?_; rintro e w' ⟨rfl, rfl⟩)
      go_round
      case rel => exact ⟨k + 1, by omega, by go_num, by rw [hs.out]; go_num⟩
      case measure => simp [intOf]; omega
    · have h64 : Hid (k = 64) := (by omega : k = 64)
      go_wp2
      go_ret
      exact ⟨ret_i64 (by rw [h64.out]), rfl⟩

set_option maxHeartbeats 400000 in
theorem rfirst_any (x : Nat) (hx : x < 18446744073709551616) (w : World) :
    Calls Try.prog 22 #[.int .u64 x] w fun e w' => e = .returned (.int .i64 ((WM.first x : Nat) : Int)) ∧ w = w' := by
  go_enter Try.func22, Try.ntmps22
  go_wp2
  go_loop [3] (fun i => ∃ k : Nat, k ≤ 64 ∧ i = .int .i64 k ∧ Hid (WM.first x = WM.firstFrom x (64 - k) k)) (fun i => (64 - intOf i).toNat)
  case atStart => exact ⟨0, by omega, rfl, rfl⟩
  case round =>
    obtain ⟨k, hk, rfl, hf⟩ := hrel
    by_cases hlt : k < 64
    · have hu : Hid (WM.firstFrom x (64 - k) k = if WM.bit x k = 0 then k else WM.firstFrom x (64 - (k + 1)) (k + 1)) := by
        obtain ⟨f, hf⟩ : ∃ f, 64 - k = f + 1 := ⟨63 - k, by omega⟩
        rw [hf, show 64 - (k + 1) = f by omega]; rfl
      rcases WM.bit_01 x k with h01 | h01
      · have hb : (((WM.bit x k : Nat) : Int) == 0) = true := by rw [h01]; rfl
        have hs : Hid (WM.first x = k) := by rw [hf.out, hu.out, if_pos h01]; exact rfl
        clear h01 hu hf
        go_wp2_with (go_at_call 27; refine (rbit_any x k hx hlt _).mono ?_; rintro e w' ⟨rfl, rfl⟩)
        go_ret
        exact ⟨ret_i64 (by rw [hs.out]), rfl⟩
      · have hb : (((WM.bit x k : Nat) : Int) == 0) = false := by rw [h01]; rfl
        have hs : Hid (WM.first x = WM.firstFrom x (64 - (k + 1)) (k + 1)) := by rw [hf.out, hu.out, if_neg (by omega)]; exact rfl
        clear h01 hu hf
        go_wp2_with (go_at_call 27; refine (rbit_any x k hx hlt _).mono ?_; rintro e w' ⟨rfl, rfl⟩)
        go_round
        case rel => exact ⟨k + 1, by omega, by go_num, hs⟩
        case measure => simp [intOf]; omega
    · have h64 : Hid (WM.first x = 64) := by rw [hf.out, show k = 64 by omega]; exact rfl
      go_wp2
      go_ret
      exact ⟨ret_i64 (by rw [h64.out]; rfl), rfl⟩

set_option maxHeartbeats 400000 in
theorem right_yes (lo n : Nat) (h : lo + n ≤ 64) (w : World) :
    Calls Try.prog 26 #[.int .i64 lo, .int .i64 n] w fun e w' => e = .returned (.bool true) ∧ w = w' := by
  have h1 : (0 : Int) ≤ (lo : Int) := by omega
  have h2 : (0 : Int) ≤ (n : Int) := by omega
  have h4 : decide ((lo : Int) ≤ 64) = true := by simp; omega
  have h3 : decide ((n : Int) ≤ 64 - (lo : Int)) = true := by simp; omega
  go_enter Try.func26, Try.ntmps26
  go_wp2
  go_ret
  exact ⟨rfl, rfl⟩

set_option maxHeartbeats 400000 in
theorem right_no (lo n : Int) (h : ¬ (0 ≤ lo ∧ 0 ≤ n ∧ n ≤ 64 - lo)) (w : World) :
    Calls Try.prog 26 #[.int .i64 lo, .int .i64 n] w fun e w' => e = .returned (.bool false) ∧ w = w' := by
  by_cases c1 : 0 ≤ lo
  · by_cases c2 : 0 ≤ n
    · by_cases c5 : lo ≤ 64
      · have c3 : decide (n ≤ 64 - lo) = false := by simp; omega
        clear h
        go_enter Try.func26, Try.ntmps26
        go_wp2
        go_ret
        exact ⟨rfl, rfl⟩
      · have c3 : decide (lo ≤ 64) = false := by simp; omega
        clear h c5
        go_enter Try.func26, Try.ntmps26
        go_wp2
        go_ret
        exact ⟨rfl, rfl⟩
    · have c4 : decide (0 ≤ n) = false := by simp; omega
      clear h c2
      go_enter Try.func26, Try.ntmps26
      go_wp2
      go_ret
      exact ⟨rfl, rfl⟩
  · have c4 : decide (0 ≤ lo) = false := by simp; omega
    clear h c1
    go_enter Try.func26, Try.ntmps26
    go_wp2
    go_ret
    exact ⟨rfl, rfl⟩

set_option maxHeartbeats 400000 in
theorem rtake_no (x lo n : Int) (h : ¬ (0 ≤ lo ∧ 0 ≤ n ∧ n ≤ 64 - lo)) (w : World) :
    Calls Try.prog 12 #[.int .u64 x, .int .i64 lo, .int .i64 n] w fun e w' => e = .returned (.tuple #[.int .u64 0, .int .i64 2]) ∧ w = w' := by
  have hh := W_hid h
  clear h
  go_enter Try.func12, Try.ntmps12
  go_wp2_with (go_at_call 26; refine (right_no lo n hh.out _).mono ?_; rintro e w' ⟨rfl, rfl⟩)
  go_ret2
  exact ⟨rfl, rfl⟩

theorem rtake_step (x lo k : Nat) (h : lo + k < 64) :
    IntKind.u64.wrap (((WM.take x lo k : Nat) : Int) + IntKind.u64.wrap (((WM.bit x (lo + k) : Nat) : Int) * 2 ^ k)) = ((WM.take x lo (k + 1) : Nat) : Int) := by
  have e2 : ∀ k : Nat, ((2 : Int) ^ k) = ((2 ^ k : Nat) : Int) := by intro k; simp
  have h1 : WM.take x lo (k + 1) = WM.take x lo k + WM.bit x (lo + k) * 2 ^ k := by
    unfold WM.take; rw [WM.mod_succ, WM.bit_add]
  have h2 := WM.take_lt x lo (k + 1)
  have h3 : 2 ^ (k + 1) ≤ 2 ^ 64 := Nat.pow_le_pow_right (by decide) (by omega)
  rw [e2, ← Int.natCast_mul, wrap_in _ (by simp at h3; omega), ← Int.natCast_add, wrap_in _ (by simp at h3; omega), h1]

set_option maxHeartbeats 400000 in
theorem rtake_yes (x lo n : Nat) (hx : x < 18446744073709551616) (h : lo + n ≤ 64) (w : World) :
    Calls Try.prog 12 #[.int .u64 x, .int .i64 lo, .int .i64 n] w fun e w' => e = .returned (.tuple #[.int .u64 ((WM.take x lo n : Nat) : Int), .int .i64 0]) ∧ w = w' := by
  go_enter Try.func12, Try.ntmps12
  go_wp2_with (go_at_call 26; refine (right_yes lo n h _).mono ?_; rintro e w' ⟨rfl, rfl⟩)
  go_loop [9, 10] (fun o i => ∃ k : Nat, k ≤ n ∧ i = .int .i64 k ∧ o = .int .u64 ((WM.take x lo k : Nat) : Int)) (fun _ i => (n - intOf i).toNat)
  case atStart => exact ⟨0, by omega, rfl, by unfold WM.take; simp [Nat.mod_one]⟩
  case round =>
    obtain ⟨k, hk, rfl, rfl⟩ := hrel
    by_cases hlt : k < n
    · have hs := W_hid (rtake_step x lo k (by omega))
      go_wp2_with (go_at_call 27; refine (rbit_any x (lo + k) hx (by omega) _).mono ?_; rintro e w' ⟨rfl, rfl⟩)
      go_round
      case rel => exact ⟨k + 1, by omega, by go_num, by rw [hs.out]⟩
      case measure => simp [intOf]; omega
    · have h64 : Hid (k = n) := (by omega : k = n)
      go_wp2
      go_ret2
      exact ⟨by rw [h64.out]; rfl, rfl⟩

set_option maxHeartbeats 400000 in
theorem rput_no (x lo n v : Int) (h : ¬ (0 ≤ lo ∧ 0 ≤ n ∧ n ≤ 64 - lo)) (w : World) :
    Calls Try.prog 14 #[.int .u64 x, .int .i64 lo, .int .i64 n, .int .u64 v] w fun e w' => e = .returned (.tuple #[.int .u64 0, .int .i64 2]) ∧ w = w' := by
  have hh := W_hid h
  clear h
  go_enter Try.func14, Try.ntmps14
  go_wp2_with (go_at_call 26; refine (right_no lo n hh.out _).mono ?_; rintro e w' ⟨rfl, rfl⟩)
  go_ret2
  exact ⟨rfl, rfl⟩

theorem rput_step (x lo n v k : Nat) (h : k < 64) :
    IntKind.u64.wrap (((WM.sum (WM.putBit x lo n v) k : Nat) : Int) + IntKind.u64.wrap (((WM.putBit x lo n v k : Nat) : Int) * 2 ^ k)) = ((WM.sum (WM.putBit x lo n v) (k + 1) : Nat) : Int) := by
  have e2 : ∀ k : Nat, ((2 : Int) ^ k) = ((2 ^ k : Nat) : Int) := by intro k; simp
  have h1 : WM.sum (WM.putBit x lo n v) (k + 1) = WM.sum (WM.putBit x lo n v) k + WM.putBit x lo n v k * 2 ^ k := rfl
  have h2 := WM.sum_lt (WM.putBit x lo n v) (WM.putBit_lt x lo n v) (k + 1)
  have h3 : 2 ^ (k + 1) ≤ 2 ^ 64 := Nat.pow_le_pow_right (by decide) (by omega)
  rw [e2, ← Int.natCast_mul, wrap_in _ (by simp at h3; omega), ← Int.natCast_add, wrap_in _ (by simp at h3; omega), h1]

/-- The bits of v from n on, from k on, are clear. -/
def Clear (v n k : Nat) : Prop := ∀ i, n ≤ i → i < k → WM.bit v i = 0

/-- What the two roads of the first loop come to. -/
def PutEnds (x lo n v : Nat) (e : Ending) : Prop :=
  (v < 2 ^ n → e = .returned (.tuple #[.int .u64 ((WM.put x lo n v : Nat) : Int), .int .i64 0])) ∧ (¬ v < 2 ^ n → e = .returned (.tuple #[.int .u64 0, .int .i64 2]))

theorem put_ends_high {x lo n v i : Nat} (h1 : n ≤ i) (h2 : WM.bit v i = 1) : PutEnds x lo n v (.returned (.tuple #[.int .u64 0, .int .i64 2])) :=
  ⟨fun h => by have := WM.high_bit v n i h h1; omega, fun _ => rfl⟩

set_option maxHeartbeats 1000000 in
theorem rput_yes (x lo n v : Nat) (hx : x < 18446744073709551616) (hv : v < 18446744073709551616) (h : lo + n ≤ 64) (w : World) :
    Calls Try.prog 14 #[.int .u64 x, .int .i64 lo, .int .i64 n, .int .u64 v] w fun e w' => PutEnds x lo n v e ∧ w = w' := by
  go_enter Try.func14, Try.ntmps14
  go_wp2_with (go_at_call 26; refine (right_yes lo n h _).mono ?_; rintro e w' ⟨rfl, rfl⟩)
  go_loop [11] (fun i => ∃ k : Nat, k ≤ 64 ∧ n ≤ k ∧ i = .int .i64 k ∧ Clear v n k) (fun i => (64 - intOf i).toNat)
  case atStart => exact ⟨n, by omega, by omega, rfl, fun i h1 h2 => by omega⟩
  case round =>
    obtain ⟨k, hk, hnk, rfl, hcl⟩ := hrel
    by_cases hlt : k < 64
    · rcases WM.bit_01 v k with h01 | h01
      · have hb : (((WM.bit v k : Nat) : Int) == 1) = false := by rw [h01]; rfl
        have hs : Clear v n (k + 1) := fun i h1 h2 => by
          by_cases e : i = k
          · rw [e]; exact h01
          · exact hcl i h1 (by omega)
        clear h01
        go_wp2_with (go_at_call 27; refine (rbit_any v k hv hlt _).mono ?_; rintro e w' ⟨rfl, rfl⟩)
        go_round
        case rel => exact ⟨k + 1, by omega, by omega, by go_num, hs⟩
        case measure => simp [intOf]; omega
      · have hb : (((WM.bit v k : Nat) : Int) == 1) = true := by rw [h01]; rfl
        have h1 := W_hid h01
        clear h01
        go_wp2_with (go_at_call 27; refine (rbit_any v k hv hlt _).mono ?_; rintro e w' ⟨rfl, rfl⟩)
        go_ret2
        exact ⟨put_ends_high hnk h1.out, rfl⟩
    · have h64 := W_hid (WM.high_clear v n hv (fun i h1 h2 => hcl i h1 (by omega)))
      clear hcl
      go_wp2
      go_loop [12, 13] (fun o i => ∃ k : Nat, k ≤ 64 ∧ i = .int .i64 k ∧ o = .int .u64 ((WM.sum (WM.putBit x lo n v) k : Nat) : Int)) (fun _ i => (64 - intOf i).toNat)
      case atStart => exact ⟨0, by omega, rfl, rfl⟩
      case round =>
        obtain ⟨k2, hk2, rfl, rfl⟩ := hrel
        by_cases hlt2 : k2 < 64
        · have hs := W_hid (rput_step x lo n v k2 hlt2)
          by_cases c1 : lo ≤ k2
          · have d1 : decide ((lo : Int) ≤ (k2 : Int)) = true := by simp; omega
            by_cases c2 : k2 < lo + n
            · have d2 : decide ((k2 : Int) < (lo : Int) + (n : Int)) = true := by simp; omega
              have hpb : Hid (WM.putBit x lo n v k2 = WM.bit v (k2 - lo)) := by show _ = _; unfold WM.putBit; rw [if_pos ⟨c1, c2⟩]
              have hsub : Hid ((k2 : Int) - (lo : Int) = ((k2 - lo : Nat) : Int)) := by show _ = _; omega
              go_wp2_with fail
              refine (rbit_any x k2 hx hlt2 _).mono ?_
              rintro e w' ⟨rfl, rfl⟩
              go_wp2_with fail
              rw [hsub.out]
              refine (rbit_any v (k2 - lo) hv (by omega) _).mono ?_
              rintro e w' ⟨rfl, rfl⟩
              go_wp2_with fail
              go_round
              case rel => exact ⟨k2 + 1, by omega, by go_num, by rw [← hs.out, hpb.out]⟩
              case measure => simp [intOf]; omega
            · have d2 : decide ((k2 : Int) < (lo : Int) + (n : Int)) = false := by simp; omega
              have hpb : Hid (WM.putBit x lo n v k2 = WM.bit x k2) := by show _ = _; unfold WM.putBit; rw [if_neg (fun h => c2 h.2)]
              clear c2
              go_wp2_with fail
              refine (rbit_any x k2 hx hlt2 _).mono ?_
              rintro e w' ⟨rfl, rfl⟩
              go_wp2_with fail
              go_round
              case rel => exact ⟨k2 + 1, by omega, by go_num, by rw [← hs.out, hpb.out]⟩
              case measure => simp [intOf]; omega
          · have d1 : decide (lo ≤ k2) = false := by simp; omega
            have hpb : Hid (WM.putBit x lo n v k2 = WM.bit x k2) := by show _ = _; unfold WM.putBit; rw [if_neg (fun h => c1 h.1)]
            clear c1
            go_wp2_with fail
            refine (rbit_any x k2 hx hlt2 _).mono ?_
            rintro e w' ⟨rfl, rfl⟩
            go_wp2_with fail
            go_round
            case rel => exact ⟨k2 + 1, by omega, by go_num, by rw [← hs.out, hpb.out]⟩
            case measure => simp [intOf]; omega
        · have hk64 : Hid (((WM.sum (WM.putBit x lo n v) k2 : Nat) : Int) = ((WM.put x lo n v : Nat) : Int)) := by show _ = _; rw [show k2 = 64 by omega, WM.put_sum x lo n v hx h h64.out]
          go_wp2
          go_ret2
          exact ⟨⟨fun _ => by rw [hk64.out]; rfl, fun h => absurd h64.out h⟩, rfl⟩

set_option maxHeartbeats 400000 in
theorem rdown_yes (x to : Nat) (hx : x < 18446744073709551616) (ht : to < 18446744073709551616) (h : WM.ones to 64 = 1) (w : World) :
    Calls Try.prog 16 #[.int .u64 x, .int .u64 to] w fun e w' => e = .returned (.tuple #[.int .u64 ((WM.down x to : Nat) : Int), .int .i64 0]) ∧ w = w' := by
  have hp := WM.pos to ht h
  have hh : (((WM.ones to 64 : Nat) : Int) != 1) = false := by rw [h]; rfl
  have hm := Nat.mod_le x to
  clear h
  go_enter Try.func16, Try.ntmps16
  go_wp2_with (go_at_call 21; refine (rones_any to ht _).mono ?_; rintro e w' ⟨rfl, rfl⟩)
  go_ret2
  exact ⟨by unfold WM.down; rw [Int.natCast_sub hm]; rfl, rfl⟩

set_option maxHeartbeats 400000 in
theorem rdown_no (x : Int) (to : Nat) (ht : to < 18446744073709551616) (h : WM.ones to 64 ≠ 1) (w : World) :
    Calls Try.prog 16 #[.int .u64 x, .int .u64 to] w fun e w' => e = .returned (.tuple #[.int .u64 0, .int .i64 2]) ∧ w = w' := by
  have hh : (((WM.ones to 64 : Nat) : Int) != 1) = true := by simp; omega
  clear h
  go_enter Try.func16, Try.ntmps16
  go_wp2_with (go_at_call 21; refine (rones_any to ht _).mono ?_; rintro e w' ⟨rfl, rfl⟩)
  go_ret2
  exact ⟨rfl, rfl⟩

set_option maxHeartbeats 400000 in
theorem rup_no (x : Int) (to : Nat) (ht : to < 18446744073709551616) (h : WM.ones to 64 ≠ 1) (w : World) :
    Calls Try.prog 18 #[.int .u64 x, .int .u64 to] w fun e w' => e = .returned (.tuple #[.int .u64 0, .int .i64 2]) ∧ w = w' := by
  have hh : (((WM.ones to 64 : Nat) : Int) != 1) = true := by simp; omega
  clear h
  go_enter Try.func18, Try.ntmps18
  go_wp2_with (go_at_call 21; refine (rones_any to ht _).mono ?_; rintro e w' ⟨rfl, rfl⟩)
  go_ret2
  exact ⟨rfl, rfl⟩

set_option maxHeartbeats 400000 in
theorem rup_same (x to : Nat) (hx : x < 18446744073709551616) (ht : to < 18446744073709551616) (h : WM.ones to 64 = 1) (h0 : x % to = 0) (w : World) :
    Calls Try.prog 18 #[.int .u64 x, .int .u64 to] w fun e w' => e = .returned (.tuple #[.int .u64 x, .int .i64 0]) ∧ w = w' := by
  have hp := WM.pos to ht h
  have hh : (((WM.ones to 64 : Nat) : Int) != 1) = false := by rw [h]; rfl
  have he : (((x : Int) % (to : Int)) == 0) = true := by simp; omega
  clear h h0
  go_enter Try.func18, Try.ntmps18
  go_wp2_with (go_at_call 21; refine (rones_any to ht _).mono ?_; rintro e w' ⟨rfl, rfl⟩)
  go_ret2
  exact ⟨rfl, rfl⟩

set_option maxRecDepth 100000 in
set_option maxHeartbeats 400000 in
theorem rup_next (x to : Nat) (hx : x < 18446744073709551616) (ht : to < 18446744073709551616) (h : WM.ones to 64 = 1) (h0 : x % to ≠ 0) (hm : WM.down x to + to < 18446744073709551616) (w : World) :
    Calls Try.prog 18 #[.int .u64 x, .int .u64 to] w fun e w' => e = .returned (.tuple #[.int .u64 ((WM.down x to + to : Nat) : Int), .int .i64 0]) ∧ w = w' := by
  have hp := WM.pos to ht h
  have hh : (((WM.ones to 64 : Nat) : Int) != 1) = false := by rw [h]; rfl
  have he : (((x : Int) % (to : Int)) == 0) = false := by simp; omega
  have hq := Nat.mod_lt x hp
  have hq' : ((x : Int) % (to : Int)) = ((x % to : Nat) : Int) := by simp
  have hq2 := Nat.mod_le x to
  have hd : WM.down x to = x - x % to := rfl
  have hw1 : Hid (IntKind.u64.wrap ((to : Int) - (x : Int) % (to : Int)) = (to : Int) - (x : Int) % (to : Int)) := by show _ = _; rw [IntKind.wrap_u64]; omega
  have HQ := W_hid hq'
  have HD := W_hid hd
  clear h h0 hq' hd
  go_enter Try.func18, Try.ntmps18
  go_wp2_with (go_at_call 21; refine (rones_any to ht _).mono ?_; rintro e w' ⟨rfl, rfl⟩)
  · exfalso
    have h1 := HQ.out
    have h2 := HD.out
    omega
  · have h1 := HQ.out
    have h2 := HD.out
    have h3 : Hid ((x : Int) + ((to : Int) - (x : Int) % (to : Int)) = ((WM.down x to + to : Nat) : Int)) := by show _ = _; omega
    clear h1 h2
    go_ret2
    exact ⟨by rw [h3.out]; rfl, rfl⟩

set_option maxRecDepth 100000 in
set_option maxHeartbeats 400000 in
theorem rup_over (x to : Nat) (hx : x < 18446744073709551616) (ht : to < 18446744073709551616) (h : WM.ones to 64 = 1) (h0 : x % to ≠ 0) (hm : ¬ WM.down x to + to < 18446744073709551616) (w : World) :
    Calls Try.prog 18 #[.int .u64 x, .int .u64 to] w fun e w' => e = .returned (.tuple #[.int .u64 0, .int .i64 2]) ∧ w = w' := by
  have hp := WM.pos to ht h
  have hh : (((WM.ones to 64 : Nat) : Int) != 1) = false := by rw [h]; rfl
  have he : (((x : Int) % (to : Int)) == 0) = false := by simp; omega
  have hq := Nat.mod_lt x hp
  have hq' : ((x : Int) % (to : Int)) = ((x % to : Nat) : Int) := by simp
  have hq2 := Nat.mod_le x to
  have hd : WM.down x to = x - x % to := rfl
  have HQ := W_hid hq'
  have HD := W_hid hd
  clear h h0 hq' hd
  go_enter Try.func18, Try.ntmps18
  go_wp2_with (go_at_call 21; refine (rones_any to ht _).mono ?_; rintro e w' ⟨rfl, rfl⟩)
  · go_ret2
    exact ⟨rfl, rfl⟩
  · exfalso
    have h1 := HQ.out
    have h2 := HD.out
    omega
end Go.Proofs.Ytjnpekhmagamhaa

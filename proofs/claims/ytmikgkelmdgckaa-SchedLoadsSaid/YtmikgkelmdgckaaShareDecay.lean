/- Contracts of averages and weights, the program's and the document's own: what each returns, for all arguments. -/
import Derived.Test.YtmikgkelmdgckaaShareRef
namespace Go.Proofs.Ytmikgkelmdgckaa
open Go.ChangeShapes Go.WideShapes Go.ChangeAt Go.RowKit
open FM
set_option linter.unusedVariables false

/-- An average that comes nearer once, and k times, as values. -/
def near (a x : Option Nat) : Option Nat := vop .add (vop .mul a (val 4602678819172646912)) (vop .mul x (val 4602678819172646912))
def dec : Nat → Option Nat → Option Nat → Option Nat
  | 0, a, _ => a
  | k + 1, a, x => near (dec k a x) x

theorem dec_add (n m : Nat) (a x : Option Nat) : dec m (dec n a x) x = dec (n + m) a x := by
  induction m with
  | zero => rfl
  | succ m ih => show near (dec m (dec n a x) x) x = near (dec (n + m) a x) x; rw [ih]

theorem decay_no (a x : Nat) (n : Int) (hn : n < 0 ∨ 64 < n) (w : World) :
    Calls Try.prog 50 #[fl a, fl x, .int .i64 n] w fun e w' => e = .returned (.tuple #[fl 0, .int .i64 2]) ∧ w = w' := by
  rcases (by omega : n < 0 ∨ (¬ n < 0 ∧ 64 < n)) with h | ⟨h, h'⟩
  all_goals
    go_enter Try.func50, Try.ntmps50
    go_wp2
    go_ret2
    exact ⟨rfl, rfl⟩

set_option maxRecDepth 100000 in
set_option maxHeartbeats 1000000 in
theorem decay_yes (a x : Nat) (n : Nat) (hn : n ≤ 64) (ha : a < 18446744073709551616) (w : World) :
    Calls Try.prog 50 #[fl a, fl x, .int .i64 n] w fun e w' => ∃ r, e = .returned (.tuple #[fl r, .int .i64 0]) ∧ r < 18446744073709551616 ∧ val r = dec n (val a) (val x) ∧ Below w.heap.size w w' := by
  go_enter Try.func50, Try.ntmps50
  go_wp2
  go_loopw [0, 15] (fun v i wr => ∃ (k r : Nat), k ≤ n ∧ i = .int .i64 k ∧ v = fl r ∧ r < 18446744073709551616 ∧ Hid (val r = dec k (val a) (val x)) ∧ Below w.heap.size w wr) (fun _ i _ => n - (intOf i).toNat)
  case atStart => exact ⟨0, a, Nat.zero_le _, rfl, rfl, ha, rfl, Below.refl _ _⟩
  case round =>
    obtain ⟨k, r, hk, rfl, rfl, hr, hv, bel⟩ := hrel
    by_cases hlt : k < n
    · go_wp2_with (first
        | (with_reducible show wpList _ _ _ _ _ _; refine wpList_float (x := .tmp 17) rfl rfl (.inr (.inl rfl)) rfl rfl ?_; intro r1 n1 hr1 hv1)
        | (with_reducible show wpList _ _ _ _ _ _; refine wpList_float (x := .tmp 19) rfl rfl (.inr (.inl rfl)) rfl rfl ?_; intro r2 n2 hr2 hv2)
        | (with_reducible show wpList _ _ _ _ _ _; refine wpList_float (x := .tmp 18) rfl rfl (.inl rfl) rfl rfl ?_; intro r3 n3 hr3 hv3))
      have hv' : Hid (val r3 = dec (k + 1) (val a) (val x)) := by
        show val r3 = near (dec k (val a) (val x)) (val x)
        rw [hv3, hv1, hv2, hv.out]; rfl
      clear hv hv1 hv2 hv3
      go_roundw
      case rel => exact ⟨k + 1, r3, by omega, by go_num, rfl, hr3, hv', below_drewN bel _⟩
      case measure => simp [intOf]; omega
    · have hkn : k = n := by omega
      subst hkn
      go_wp2
      go_ret2
      exact ⟨r, rfl, hr, hv.out, bel⟩

theorem rdecay_no (a x : Nat) (n : Int) (hn : n < 0 ∨ 64 < n) (w : World) :
    Calls Try.prog 74 #[fl a, fl x, .int .i64 n] w fun e w' => e = .returned (.tuple #[fl 0, .int .i64 2]) ∧ w = w' := by
  rcases (by omega : n < 0 ∨ (¬ n < 0 ∧ 64 < n)) with h | ⟨h, h'⟩
  all_goals
    go_enter Try.func74, Try.ntmps74
    go_wp2
    go_ret2
    exact ⟨rfl, rfl⟩

set_option maxRecDepth 100000 in
set_option maxHeartbeats 1000000 in
theorem rdecay_yes (a x : Nat) (n : Nat) (hn : n ≤ 64) (ha : a < 18446744073709551616) (w : World) :
    Calls Try.prog 74 #[fl a, fl x, .int .i64 n] w fun e w' => ∃ r, e = .returned (.tuple #[fl r, .int .i64 0]) ∧ r < 18446744073709551616 ∧ val r = dec n (val a) (val x) ∧ Below w.heap.size w w' := by
  go_enter Try.func74, Try.ntmps74
  go_wp2
  go_loopw [0, 8] (fun v i wr => ∃ (k r : Nat), k ≤ n ∧ i = .int .i64 k ∧ v = fl r ∧ r < 18446744073709551616 ∧ Hid (val r = dec k (val a) (val x)) ∧ Below w.heap.size w wr) (fun _ i _ => n - (intOf i).toNat)
  case atStart => exact ⟨0, a, Nat.zero_le _, rfl, rfl, ha, rfl, Below.refl _ _⟩
  case round =>
    obtain ⟨k, r, hk, rfl, rfl, hr, hv, bel⟩ := hrel
    by_cases hlt : k < n
    · go_wp2_with (first
        | (with_reducible show wpList _ _ _ _ _ _; refine wpList_float (x := .tmp 22) rfl rfl (.inr (.inl rfl)) rfl rfl ?_; intro r1 n1 hr1 hv1)
        | (with_reducible show wpList _ _ _ _ _ _; refine wpList_float (x := .tmp 24) rfl rfl (.inr (.inl rfl)) rfl rfl ?_; intro r2 n2 hr2 hv2)
        | (with_reducible show wpList _ _ _ _ _ _; refine wpList_float (x := .tmp 26) rfl rfl (.inl rfl) rfl rfl ?_; intro r3 n3 hr3 hv3))
      have hv' : Hid (val r3 = dec (k + 1) (val a) (val x)) := by
        show val r3 = near (dec k (val a) (val x)) (val x)
        rw [hv3, hv1, hv2, hv.out]; rfl
      clear hv hv1 hv2 hv3
      go_roundw
      case rel => exact ⟨k + 1, r3, by omega, by go_num, rfl, hr3, hv', below_drewN bel _⟩
      case measure => simp [intOf]; omega
    · have hkn : k = n := by omega
      subst hkn
      go_wp2
      go_ret2
      exact ⟨r, rfl, hr, hv.out, bel⟩

/-! Weights of nice values. -/
def wdn : Nat → Nat
  | 0 => 4652218415073722368
  | k + 1 => (D.div (wdn k) 4608308318706860032).getD 0
def wup : Nat → Nat
  | 0 => 4652218415073722368
  | k + 1 => (D.mul (wup k) 4608308318706860032).getD 0
def wt (nice : Int) : Nat := if 0 ≤ nice then wdn nice.toNat else wup (-nice).toNat

theorem wdn_step : ∀ k, k < 20 → D.div (wdn k) 4608308318706860032 = some (wdn (k + 1)) := by decide +kernel
theorem wup_step : ∀ k, k < 20 → D.mul (wup k) 4608308318706860032 = some (wup (k + 1)) := by decide +kernel

theorem weight_no (nice : Int) (hn : nice < -20 ∨ 19 < nice) (w : World) :
    Calls Try.prog 44 #[.int .i64 nice] w fun e w' => e = .returned (.tuple #[fl 0, .int .i64 2]) ∧ w = w' := by
  rcases (by omega : nice < -20 ∨ (¬ nice < -20 ∧ 19 < nice)) with h | ⟨h, h'⟩
  all_goals
    go_enter Try.func44, Try.ntmps44
    go_wp2
    go_ret2
    exact ⟨rfl, rfl⟩

set_option maxRecDepth 100000 in
set_option maxHeartbeats 1000000 in
theorem weight_dn (n : Nat) (hn : n ≤ 19) (w : World) :
    Calls Try.prog 44 #[.int .i64 n] w fun e w' => e = .returned (.tuple #[fl (wdn n), .int .i64 0]) ∧ w = w' := by
  go_enter Try.func44, Try.ntmps44
  go_wp2
  go_loop [4, 12] (fun v i => ∃ k : Nat, k ≤ n ∧ i = .int .i64 k ∧ v = fl (wdn k)) (fun _ i => n - (intOf i).toNat)
  case atStart => exact ⟨0, Nat.zero_le _, rfl, rfl⟩
  case round =>
    obtain ⟨k, hk, rfl, rfl⟩ := hrel
    by_cases hlt : k < n
    · have hs : floatBits .quo .f64 (wdn k) 4608308318706860032 = some (wdn (k + 1)) := wdn_step k (by omega)
      generalize wdn k = a at *
      generalize hb : wdn (k + 1) = b at *
      have hb := W_hid hb
      go_wp2_with (with_reducible show wpList _ _ _ _ _ _; refine wpList_float_some rfl rfl (.inr (.inr rfl)) rfl rfl hs ?_)
      go_round
      case rel => exact ⟨k + 1, by omega, by go_num, by rw [hb.out]⟩
      case measure => simp [intOf]; omega
    · have hkn : k = n := by omega
      subst hkn
      go_wp2
      go_loop [4, 19] (fun v j => v = fl (wdn k) ∧ j = .int .i64 0) (fun _ j => 0)
      case atStart => exact ⟨rfl, rfl⟩
      case round =>
        obtain ⟨rfl, rfl⟩ := hrel
        go_wp2
        go_ret2
        exact ⟨rfl, rfl⟩

set_option maxRecDepth 100000 in
set_option maxHeartbeats 1000000 in
theorem weight_up (n : Nat) (hn : n ≤ 20) (m : Int) (hm : m = -(n : Int)) (w : World) :
    Calls Try.prog 44 #[.int .i64 m] w fun e w' => e = .returned (.tuple #[fl (wup n), .int .i64 0]) ∧ w = w' := by
  go_enter Try.func44, Try.ntmps44
  go_wp2
  go_loop [4, 12] (fun v j => v = fl 4652218415073722368 ∧ j = .int .i64 0) (fun _ j => 0)
  case atStart => exact ⟨rfl, rfl⟩
  case round =>
    obtain ⟨rfl, rfl⟩ := hrel
    go_wp2
    go_loop [4, 19] (fun v i => ∃ k : Nat, k ≤ n ∧ i = .int .i64 k ∧ v = fl (wup k)) (fun _ i => n - (intOf i).toNat)
    case atStart => exact ⟨0, Nat.zero_le _, rfl, rfl⟩
    case round =>
      obtain ⟨k, hk, rfl, rfl⟩ := hrel
      by_cases hlt : k < n
      · have hs : floatBits .mul .f64 (wup k) 4608308318706860032 = some (wup (k + 1)) := wup_step k (by omega)
        generalize wup k = a at *
        generalize hb : wup (k + 1) = b at *
        have hb := W_hid hb
        go_wp2_with (with_reducible show wpList _ _ _ _ _ _; refine wpList_float_some rfl rfl (.inr (.inl rfl)) rfl rfl hs ?_)
        go_round
        case rel => exact ⟨k + 1, by omega, by go_num, by rw [hb.out]⟩
        case measure => simp [intOf]; omega
      · have hkn : k = n := by omega
        subst hkn
        go_wp2
        go_ret2
        exact ⟨rfl, rfl⟩

theorem rweight_no (nice : Int) (hn : nice < -20 ∨ 19 < nice) (w : World) :
    Calls Try.prog 75 #[.int .i64 nice] w fun e w' => e = .returned (.tuple #[fl 0, .int .i64 2]) ∧ w = w' := by
  rcases (by omega : nice < -20 ∨ (¬ nice < -20 ∧ 19 < nice)) with h | ⟨h, h'⟩
  all_goals
    go_enter Try.func75, Try.ntmps75
    go_wp2
    go_ret2
    exact ⟨rfl, rfl⟩

set_option maxRecDepth 100000 in
set_option maxHeartbeats 1000000 in
theorem rweight_dn (n : Nat) (hn : n ≤ 19) (w : World) :
    Calls Try.prog 75 #[.int .i64 n] w fun e w' => e = .returned (.tuple #[fl (wdn n), .int .i64 0]) ∧ w = w' := by
  go_enter Try.func75, Try.ntmps75
  go_wp2
  go_loop [4, 5] (fun v i => ∃ k : Nat, k ≤ n ∧ i = .int .i64 k ∧ v = fl (wdn k)) (fun _ i => n - (intOf i).toNat)
  case atStart => exact ⟨0, Nat.zero_le _, rfl, rfl⟩
  case round =>
    obtain ⟨k, hk, rfl, rfl⟩ := hrel
    by_cases hlt : k < n
    · have hs : floatBits .quo .f64 (wdn k) 4608308318706860032 = some (wdn (k + 1)) := wdn_step k (by omega)
      generalize wdn k = a at *
      generalize hb : wdn (k + 1) = b at *
      have hb := W_hid hb
      go_wp2_with (with_reducible show wpList _ _ _ _ _ _; refine wpList_float_some rfl rfl (.inr (.inr rfl)) rfl rfl hs ?_)
      go_round
      case rel => exact ⟨k + 1, by omega, by go_num, by rw [hb.out]⟩
      case measure => simp [intOf]; omega
    · have hkn : k = n := by omega
      subst hkn
      go_wp2
      go_loop [4, 6] (fun v j => v = fl (wdn k) ∧ j = .int .i64 0) (fun _ j => 0)
      case atStart => exact ⟨rfl, rfl⟩
      case round =>
        obtain ⟨rfl, rfl⟩ := hrel
        go_wp2
        go_ret2
        exact ⟨rfl, rfl⟩

set_option maxRecDepth 100000 in
set_option maxHeartbeats 1000000 in
theorem rweight_up (n : Nat) (hn : n ≤ 20) (m : Int) (hm : m = -(n : Int)) (w : World) :
    Calls Try.prog 75 #[.int .i64 m] w fun e w' => e = .returned (.tuple #[fl (wup n), .int .i64 0]) ∧ w = w' := by
  go_enter Try.func75, Try.ntmps75
  go_wp2
  go_loop [4, 5] (fun v j => v = fl 4652218415073722368 ∧ j = .int .i64 0) (fun _ j => 0)
  case atStart => exact ⟨rfl, rfl⟩
  case round =>
    obtain ⟨rfl, rfl⟩ := hrel
    go_wp2
    go_loop [4, 6] (fun v i => ∃ k : Nat, k ≤ n ∧ i = .int .i64 (-(k : Int)) ∧ v = fl (wup k)) (fun _ i => n - (-(intOf i)).toNat)
    case atStart => exact ⟨0, Nat.zero_le _, rfl, rfl⟩
    case round =>
      obtain ⟨k, hk, rfl, rfl⟩ := hrel
      by_cases hlt : k < n
      · have hs : floatBits .mul .f64 (wup k) 4608308318706860032 = some (wup (k + 1)) := wup_step k (by omega)
        generalize wup k = a at *
        generalize hb : wup (k + 1) = b at *
        have hb := W_hid hb
        go_wp2_with (with_reducible show wpList _ _ _ _ _ _; refine wpList_float_some rfl rfl (.inr (.inl rfl)) rfl rfl hs ?_)
        go_round
        case rel => exact ⟨k + 1, by omega, by go_num, by rw [hb.out]⟩
        case measure => simp [intOf]; omega
      · have hkn : k = n := by omega
        subst hkn
        go_wp2
        go_ret2
        exact ⟨rfl, rfl⟩

end Go.Proofs.Ytmikgkelmdgckaa

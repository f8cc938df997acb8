/- The laws of layer 3, continued: ShareOrders: for every input it returns true, and its arguments read as before. No further condition. -/
import Derived.Test.YtpeidcjpkgcajaaLaws03
namespace Go.Proofs.Ytpeidcjpkgcajaa
open Go.ChangeShapes Go.WideShapes Go.ChangeAt Go.RowKit
open Go.ChangeMaps (open_string shut_string)
open FM
set_option linter.unusedVariables false

theorem cmp_flip (a b : Nat) : (cmp a b = 1 ∧ cmp b a = -1) ∨ (cmp a b = 0 ∧ cmp b a = 0) ∨ (cmp a b = -1 ∧ cmp b a = 1) := by
  unfold cmp
  rcases Int.lt_trichotomy (rank a) (rank b) with h | h | h
  · simp [h]; omega
  · simp [h]
  · simp [h]; omega
theorem cmp_trans (a b c : Nat) (h1 : cmp a b ≤ 0) (h2 : cmp b c ≤ 0) : cmp a c ≤ 0 := by
  unfold cmp at *
  (repeat' split at h1) <;> (repeat' split at h2) <;> (repeat' split) <;> omega
theorem cmp_self (a : Nat) : cmp a a = 0 := by simp [cmp]

/-- What clamping gives is clamped. -/
theorem clamp_again (x lo hi : Nat) (hlo : lo < 18446744073709551616) (hhi : hi < 18446744073709551616) : (clamp x lo hi = (0, 2) ∧ clamp 0 lo hi = (0, 2)) ∨
    ∃ v, clamp x lo hi = (v, 0) ∧ clamp v lo hi = (v, 0) ∧ 0 ≤ cmp v lo ∧ cmp v hi ≤ 0 ∧ (v = x ∨ v = lo ∨ v = hi) := by
  by_cases h : 9218868437227405312 < rank lo ∨ 9218868437227405312 < rank hi ∨ rank hi < rank lo
  · exact .inl ⟨by simp only [clamp, if_pos h], by simp only [clamp, if_pos h]⟩
  · refine .inr ?_
    have hh : ∀ v, clamp v lo hi = if 9218868437227405312 < rank v ∨ rank v < rank lo then (lo, 0) else if rank hi < rank v then (hi, 0) else (v, 0) := fun v => by simp only [clamp, if_neg h]
    have key : ∀ v, ¬ (9218868437227405312 < rank v ∨ rank v < rank lo) → ¬ rank hi < rank v → clamp v lo hi = (v, 0) ∧ 0 ≤ cmp v lo ∧ cmp v hi ≤ 0 := fun v g1 g2 => by
      refine ⟨by rw [hh, if_neg g1, if_neg g2], ?_, ?_⟩
      · unfold cmp; (repeat' split) <;> omega
      · unfold cmp; (repeat' split) <;> omega
    by_cases h1 : 9218868437227405312 < rank x ∨ rank x < rank lo
    · have k := key lo (by omega) (by omega)
      exact ⟨lo, by rw [hh, if_pos h1], k.1, k.2.1, k.2.2, .inr (.inl rfl)⟩
    · by_cases h2 : rank hi < rank x
      · have k := key hi (by omega) (by omega)
        exact ⟨hi, by rw [hh, if_neg h1, if_pos h2], k.1, k.2.1, k.2.2, .inr (.inr rfl)⟩
      · have k := key x h1 h2
        exact ⟨x, by rw [hh, if_neg h1, if_neg h2], k.1, k.2.1, k.2.2, .inl rfl⟩

set_option maxHeartbeats 1000000 in
theorem orders_00 (x y z : Nat) (hx : x < 18446744073709551616) (hy : y < 18446744073709551616) (hz : z < 18446744073709551616) (hp : cmp x y = 1) (hp' : cmp y x = -1) (v : Nat) (hv : v < 18446744073709551616) (hc1 : clamp x y z = (v, 0)) (hc2 : clamp v y z = (v, 0)) (hg : 0 ≤ cmp v y) (hl : cmp v z ≤ 0) (w : World) :
    Calls Try.prog 9 #[.int .u64 x, .int .u64 y, .int .u64 z] w fun e w' => e = .returned (.bool true) ∧ Below w.heap.size w w' := by
  have f1 := run_frombits x
  have f2 := run_frombits y
  have f3 := run_frombits z
  have i0 := compare_any 0 4607182418800017408 (by decide) (by decide)
  rw [show cmp 0 4607182418800017408 = -1 by decide] at i0
  have h1 := compare_any x y hx hy
  have h2 := compare_any y z hy hz
  have h3 := compare_any x z hx hz
  have h4 := compare_any y x hy hx
  have k1 := clamp_any x y z hx hy hz
  have k2 := clamp_any v y z hv hy hz
  rw [hp] at h1; rw [hp'] at h4; rw [hc1] at k1; rw [hc2] at k2
  clear hp hp' hc1 hc2
  have j1 := compare_any v v hv hv
  rw [cmp_self] at j1
  have j2 := compare_any v y hv hy
  have j3 := compare_any v z hv hz
  generalize cmp v y = u1 at *
  generalize cmp v z = u2 at *
  generalize cmp y z = q at *
  generalize cmp x z = r at *
  go_enter Try.func9, Try.ntmps9
  go_wp2_with fail
  refine (h1 _).mono ?_
  rintro e w' ⟨rfl, rfl⟩
  go_wp2_with fail
  refine (h2 _).mono ?_
  rintro e w' ⟨rfl, rfl⟩
  go_wp2_with fail
  refine (h3 _).mono ?_
  rintro e w' ⟨rfl, rfl⟩
  go_wp2_with fail
  refine (k1 _).mono ?_
  rintro e w' ⟨rfl, rfl⟩
  go_wp2_with fail
  refine (k2 _).mono ?_
  rintro e w' ⟨rfl, rfl⟩
  go_wp2_with fail
  refine (i0 _).mono ?_
  rintro e w' ⟨rfl, rfl⟩
  go_wp2_with fail
  refine (h4 _).mono ?_
  rintro e w' ⟨rfl, rfl⟩
  go_wp2_with fail
  refine (j1 _).mono ?_
  rintro e w' ⟨rfl, rfl⟩
  go_wp2_with fail
  refine (j2 _).mono ?_
  rintro e w' ⟨rfl, rfl⟩
  go_wp2_with fail
  refine (j3 _).mono ?_
  rintro e w' ⟨rfl, rfl⟩
  go_wp2_with fail
  go_ret
  exact ⟨rfl, Below.refl _ _⟩

set_option maxHeartbeats 1000000 in
theorem orders_02 (x y z : Nat) (hx : x < 18446744073709551616) (hy : y < 18446744073709551616) (hz : z < 18446744073709551616) (hp : cmp x y = 1) (hp' : cmp y x = -1) (hc1 : clamp x y z = (0, 2)) (hc2 : clamp 0 y z = (0, 2)) (w : World) :
    Calls Try.prog 9 #[.int .u64 x, .int .u64 y, .int .u64 z] w fun e w' => e = .returned (.bool true) ∧ Below w.heap.size w w' := by
  have f1 := run_frombits x
  have f2 := run_frombits y
  have f3 := run_frombits z
  have i0 := compare_any 0 4607182418800017408 (by decide) (by decide)
  rw [show cmp 0 4607182418800017408 = -1 by decide] at i0
  have h1 := compare_any x y hx hy
  have h2 := compare_any y z hy hz
  have h3 := compare_any x z hx hz
  have h4 := compare_any y x hy hx
  have k1 := clamp_any x y z hx hy hz
  have k2 := clamp_any 0 y z (by decide) hy hz
  rw [hp] at h1; rw [hp'] at h4; rw [hc1] at k1; rw [hc2] at k2
  clear hp hp' hc1 hc2
  generalize cmp y z = q at *
  generalize cmp x z = r at *
  go_enter Try.func9, Try.ntmps9
  go_wp2_with fail
  refine (h1 _).mono ?_
  rintro e w' ⟨rfl, rfl⟩
  go_wp2_with fail
  refine (h2 _).mono ?_
  rintro e w' ⟨rfl, rfl⟩
  go_wp2_with fail
  refine (h3 _).mono ?_
  rintro e w' ⟨rfl, rfl⟩
  go_wp2_with fail
  refine (k1 _).mono ?_
  rintro e w' ⟨rfl, rfl⟩
  go_wp2_with fail
  refine (k2 _).mono ?_
  rintro e w' ⟨rfl, rfl⟩
  go_wp2_with fail
  refine (i0 _).mono ?_
  rintro e w' ⟨rfl, rfl⟩
  go_wp2_with fail
  refine (h4 _).mono ?_
  rintro e w' ⟨rfl, rfl⟩
  go_wp2_with fail
  go_ret
  exact ⟨rfl, Below.refl _ _⟩

set_option maxHeartbeats 1000000 in
theorem orders_10 (x y z : Nat) (hx : x < 18446744073709551616) (hy : y < 18446744073709551616) (hz : z < 18446744073709551616) (hp : cmp x y = 0) (hp' : cmp y x = 0) (hq : 0 < cmp y z) (v : Nat) (hv : v < 18446744073709551616) (hc1 : clamp x y z = (v, 0)) (hc2 : clamp v y z = (v, 0)) (hg : 0 ≤ cmp v y) (hl : cmp v z ≤ 0) (w : World) :
    Calls Try.prog 9 #[.int .u64 x, .int .u64 y, .int .u64 z] w fun e w' => e = .returned (.bool true) ∧ Below w.heap.size w w' := by
  have f1 := run_frombits x
  have f2 := run_frombits y
  have f3 := run_frombits z
  have i0 := compare_any 0 4607182418800017408 (by decide) (by decide)
  rw [show cmp 0 4607182418800017408 = -1 by decide] at i0
  have h1 := compare_any x y hx hy
  have h2 := compare_any y z hy hz
  have h3 := compare_any x z hx hz
  have h4 := compare_any y x hy hx
  have k1 := clamp_any x y z hx hy hz
  have k2 := clamp_any v y z hv hy hz
  rw [hp] at h1; rw [hp'] at h4; rw [hc1] at k1; rw [hc2] at k2
  clear hp hp' hc1 hc2
  have j1 := compare_any v v hv hv
  rw [cmp_self] at j1
  have j2 := compare_any v y hv hy
  have j3 := compare_any v z hv hz
  generalize cmp v y = u1 at *
  generalize cmp v z = u2 at *
  generalize cmp y z = q at *
  generalize cmp x z = r at *
  go_enter Try.func9, Try.ntmps9
  go_wp2_with fail
  refine (h1 _).mono ?_
  rintro e w' ⟨rfl, rfl⟩
  go_wp2_with fail
  refine (h2 _).mono ?_
  rintro e w' ⟨rfl, rfl⟩
  go_wp2_with fail
  refine (h3 _).mono ?_
  rintro e w' ⟨rfl, rfl⟩
  go_wp2_with fail
  refine (k1 _).mono ?_
  rintro e w' ⟨rfl, rfl⟩
  go_wp2_with fail
  refine (k2 _).mono ?_
  rintro e w' ⟨rfl, rfl⟩
  go_wp2_with fail
  refine (i0 _).mono ?_
  rintro e w' ⟨rfl, rfl⟩
  go_wp2_with fail
  refine (h4 _).mono ?_
  rintro e w' ⟨rfl, rfl⟩
  go_wp2_with fail
  refine (j1 _).mono ?_
  rintro e w' ⟨rfl, rfl⟩
  go_wp2_with fail
  refine (j2 _).mono ?_
  rintro e w' ⟨rfl, rfl⟩
  go_wp2_with fail
  refine (j3 _).mono ?_
  rintro e w' ⟨rfl, rfl⟩
  go_wp2_with fail
  go_ret
  exact ⟨rfl, Below.refl _ _⟩

set_option maxHeartbeats 1000000 in
theorem orders_12 (x y z : Nat) (hx : x < 18446744073709551616) (hy : y < 18446744073709551616) (hz : z < 18446744073709551616) (hp : cmp x y = 0) (hp' : cmp y x = 0) (hq : 0 < cmp y z) (hc1 : clamp x y z = (0, 2)) (hc2 : clamp 0 y z = (0, 2)) (w : World) :
    Calls Try.prog 9 #[.int .u64 x, .int .u64 y, .int .u64 z] w fun e w' => e = .returned (.bool true) ∧ Below w.heap.size w w' := by
  have f1 := run_frombits x
  have f2 := run_frombits y
  have f3 := run_frombits z
  have i0 := compare_any 0 4607182418800017408 (by decide) (by decide)
  rw [show cmp 0 4607182418800017408 = -1 by decide] at i0
  have h1 := compare_any x y hx hy
  have h2 := compare_any y z hy hz
  have h3 := compare_any x z hx hz
  have h4 := compare_any y x hy hx
  have k1 := clamp_any x y z hx hy hz
  have k2 := clamp_any 0 y z (by decide) hy hz
  rw [hp] at h1; rw [hp'] at h4; rw [hc1] at k1; rw [hc2] at k2
  clear hp hp' hc1 hc2
  generalize cmp y z = q at *
  generalize cmp x z = r at *
  go_enter Try.func9, Try.ntmps9
  go_wp2_with fail
  refine (h1 _).mono ?_
  rintro e w' ⟨rfl, rfl⟩
  go_wp2_with fail
  refine (h2 _).mono ?_
  rintro e w' ⟨rfl, rfl⟩
  go_wp2_with fail
  refine (h3 _).mono ?_
  rintro e w' ⟨rfl, rfl⟩
  go_wp2_with fail
  refine (k1 _).mono ?_
  rintro e w' ⟨rfl, rfl⟩
  go_wp2_with fail
  refine (k2 _).mono ?_
  rintro e w' ⟨rfl, rfl⟩
  go_wp2_with fail
  refine (i0 _).mono ?_
  rintro e w' ⟨rfl, rfl⟩
  go_wp2_with fail
  refine (h4 _).mono ?_
  rintro e w' ⟨rfl, rfl⟩
  go_wp2_with fail
  go_ret
  exact ⟨rfl, Below.refl _ _⟩

set_option maxHeartbeats 1000000 in
theorem orders_20 (x y z : Nat) (hx : x < 18446744073709551616) (hy : y < 18446744073709551616) (hz : z < 18446744073709551616) (hp : cmp x y = -1) (hp' : cmp y x = 1) (hq : 0 < cmp y z) (v : Nat) (hv : v < 18446744073709551616) (hc1 : clamp x y z = (v, 0)) (hc2 : clamp v y z = (v, 0)) (hg : 0 ≤ cmp v y) (hl : cmp v z ≤ 0) (w : World) :
    Calls Try.prog 9 #[.int .u64 x, .int .u64 y, .int .u64 z] w fun e w' => e = .returned (.bool true) ∧ Below w.heap.size w w' := by
  have f1 := run_frombits x
  have f2 := run_frombits y
  have f3 := run_frombits z
  have i0 := compare_any 0 4607182418800017408 (by decide) (by decide)
  rw [show cmp 0 4607182418800017408 = -1 by decide] at i0
  have h1 := compare_any x y hx hy
  have h2 := compare_any y z hy hz
  have h3 := compare_any x z hx hz
  have h4 := compare_any y x hy hx
  have k1 := clamp_any x y z hx hy hz
  have k2 := clamp_any v y z hv hy hz
  rw [hp] at h1; rw [hp'] at h4; rw [hc1] at k1; rw [hc2] at k2
  clear hp hp' hc1 hc2
  have j1 := compare_any v v hv hv
  rw [cmp_self] at j1
  have j2 := compare_any v y hv hy
  have j3 := compare_any v z hv hz
  generalize cmp v y = u1 at *
  generalize cmp v z = u2 at *
  generalize cmp y z = q at *
  generalize cmp x z = r at *
  go_enter Try.func9, Try.ntmps9
  go_wp2_with fail
  refine (h1 _).mono ?_
  rintro e w' ⟨rfl, rfl⟩
  go_wp2_with fail
  refine (h2 _).mono ?_
  rintro e w' ⟨rfl, rfl⟩
  go_wp2_with fail
  refine (h3 _).mono ?_
  rintro e w' ⟨rfl, rfl⟩
  go_wp2_with fail
  refine (k1 _).mono ?_
  rintro e w' ⟨rfl, rfl⟩
  go_wp2_with fail
  refine (k2 _).mono ?_
  rintro e w' ⟨rfl, rfl⟩
  go_wp2_with fail
  refine (i0 _).mono ?_
  rintro e w' ⟨rfl, rfl⟩
  go_wp2_with fail
  refine (h4 _).mono ?_
  rintro e w' ⟨rfl, rfl⟩
  go_wp2_with fail
  refine (j1 _).mono ?_
  rintro e w' ⟨rfl, rfl⟩
  go_wp2_with fail
  refine (j2 _).mono ?_
  rintro e w' ⟨rfl, rfl⟩
  go_wp2_with fail
  refine (j3 _).mono ?_
  rintro e w' ⟨rfl, rfl⟩
  go_wp2_with fail
  go_ret
  exact ⟨rfl, Below.refl _ _⟩

set_option maxHeartbeats 1000000 in
theorem orders_22 (x y z : Nat) (hx : x < 18446744073709551616) (hy : y < 18446744073709551616) (hz : z < 18446744073709551616) (hp : cmp x y = -1) (hp' : cmp y x = 1) (hq : 0 < cmp y z) (hc1 : clamp x y z = (0, 2)) (hc2 : clamp 0 y z = (0, 2)) (w : World) :
    Calls Try.prog 9 #[.int .u64 x, .int .u64 y, .int .u64 z] w fun e w' => e = .returned (.bool true) ∧ Below w.heap.size w w' := by
  have f1 := run_frombits x
  have f2 := run_frombits y
  have f3 := run_frombits z
  have i0 := compare_any 0 4607182418800017408 (by decide) (by decide)
  rw [show cmp 0 4607182418800017408 = -1 by decide] at i0
  have h1 := compare_any x y hx hy
  have h2 := compare_any y z hy hz
  have h3 := compare_any x z hx hz
  have h4 := compare_any y x hy hx
  have k1 := clamp_any x y z hx hy hz
  have k2 := clamp_any 0 y z (by decide) hy hz
  rw [hp] at h1; rw [hp'] at h4; rw [hc1] at k1; rw [hc2] at k2
  clear hp hp' hc1 hc2
  generalize cmp y z = q at *
  generalize cmp x z = r at *
  go_enter Try.func9, Try.ntmps9
  go_wp2_with fail
  refine (h1 _).mono ?_
  rintro e w' ⟨rfl, rfl⟩
  go_wp2_with fail
  refine (h2 _).mono ?_
  rintro e w' ⟨rfl, rfl⟩
  go_wp2_with fail
  refine (h3 _).mono ?_
  rintro e w' ⟨rfl, rfl⟩
  go_wp2_with fail
  refine (k1 _).mono ?_
  rintro e w' ⟨rfl, rfl⟩
  go_wp2_with fail
  refine (k2 _).mono ?_
  rintro e w' ⟨rfl, rfl⟩
  go_wp2_with fail
  refine (i0 _).mono ?_
  rintro e w' ⟨rfl, rfl⟩
  go_wp2_with fail
  refine (h4 _).mono ?_
  rintro e w' ⟨rfl, rfl⟩
  go_wp2_with fail
  go_ret
  exact ⟨rfl, Below.refl _ _⟩

set_option maxHeartbeats 1000000 in
theorem orders_30 (x y z : Nat) (hx : x < 18446744073709551616) (hy : y < 18446744073709551616) (hz : z < 18446744073709551616) (hp : cmp x y = 0) (hp' : cmp y x = 0) (hq : cmp y z ≤ 0) (hr : cmp x z ≤ 0) (v : Nat) (hv : v < 18446744073709551616) (hc1 : clamp x y z = (v, 0)) (hc2 : clamp v y z = (v, 0)) (hg : 0 ≤ cmp v y) (hl : cmp v z ≤ 0) (w : World) :
    Calls Try.prog 9 #[.int .u64 x, .int .u64 y, .int .u64 z] w fun e w' => e = .returned (.bool true) ∧ Below w.heap.size w w' := by
  have f1 := run_frombits x
  have f2 := run_frombits y
  have f3 := run_frombits z
  have i0 := compare_any 0 4607182418800017408 (by decide) (by decide)
  rw [show cmp 0 4607182418800017408 = -1 by decide] at i0
  have h1 := compare_any x y hx hy
  have h2 := compare_any y z hy hz
  have h3 := compare_any x z hx hz
  have h4 := compare_any y x hy hx
  have k1 := clamp_any x y z hx hy hz
  have k2 := clamp_any v y z hv hy hz
  rw [hp] at h1; rw [hp'] at h4; rw [hc1] at k1; rw [hc2] at k2
  clear hp hp' hc1 hc2
  have j1 := compare_any v v hv hv
  rw [cmp_self] at j1
  have j2 := compare_any v y hv hy
  have j3 := compare_any v z hv hz
  generalize cmp v y = u1 at *
  generalize cmp v z = u2 at *
  generalize cmp y z = q at *
  generalize cmp x z = r at *
  go_enter Try.func9, Try.ntmps9
  go_wp2_with fail
  refine (h1 _).mono ?_
  rintro e w' ⟨rfl, rfl⟩
  go_wp2_with fail
  refine (h2 _).mono ?_
  rintro e w' ⟨rfl, rfl⟩
  go_wp2_with fail
  refine (h3 _).mono ?_
  rintro e w' ⟨rfl, rfl⟩
  go_wp2_with fail
  refine (k1 _).mono ?_
  rintro e w' ⟨rfl, rfl⟩
  go_wp2_with fail
  refine (k2 _).mono ?_
  rintro e w' ⟨rfl, rfl⟩
  go_wp2_with fail
  refine (i0 _).mono ?_
  rintro e w' ⟨rfl, rfl⟩
  go_wp2_with fail
  refine (h4 _).mono ?_
  rintro e w' ⟨rfl, rfl⟩
  go_wp2_with fail
  refine (j1 _).mono ?_
  rintro e w' ⟨rfl, rfl⟩
  go_wp2_with fail
  refine (j2 _).mono ?_
  rintro e w' ⟨rfl, rfl⟩
  go_wp2_with fail
  refine (j3 _).mono ?_
  rintro e w' ⟨rfl, rfl⟩
  go_wp2_with fail
  go_ret
  exact ⟨rfl, Below.refl _ _⟩

set_option maxHeartbeats 1000000 in
theorem orders_32 (x y z : Nat) (hx : x < 18446744073709551616) (hy : y < 18446744073709551616) (hz : z < 18446744073709551616) (hp : cmp x y = 0) (hp' : cmp y x = 0) (hq : cmp y z ≤ 0) (hr : cmp x z ≤ 0) (hc1 : clamp x y z = (0, 2)) (hc2 : clamp 0 y z = (0, 2)) (w : World) :
    Calls Try.prog 9 #[.int .u64 x, .int .u64 y, .int .u64 z] w fun e w' => e = .returned (.bool true) ∧ Below w.heap.size w w' := by
  have f1 := run_frombits x
  have f2 := run_frombits y
  have f3 := run_frombits z
  have i0 := compare_any 0 4607182418800017408 (by decide) (by decide)
  rw [show cmp 0 4607182418800017408 = -1 by decide] at i0
  have h1 := compare_any x y hx hy
  have h2 := compare_any y z hy hz
  have h3 := compare_any x z hx hz
  have h4 := compare_any y x hy hx
  have k1 := clamp_any x y z hx hy hz
  have k2 := clamp_any 0 y z (by decide) hy hz
  rw [hp] at h1; rw [hp'] at h4; rw [hc1] at k1; rw [hc2] at k2
  clear hp hp' hc1 hc2
  generalize cmp y z = q at *
  generalize cmp x z = r at *
  go_enter Try.func9, Try.ntmps9
  go_wp2_with fail
  refine (h1 _).mono ?_
  rintro e w' ⟨rfl, rfl⟩
  go_wp2_with fail
  refine (h2 _).mono ?_
  rintro e w' ⟨rfl, rfl⟩
  go_wp2_with fail
  refine (h3 _).mono ?_
  rintro e w' ⟨rfl, rfl⟩
  go_wp2_with fail
  refine (k1 _).mono ?_
  rintro e w' ⟨rfl, rfl⟩
  go_wp2_with fail
  refine (k2 _).mono ?_
  rintro e w' ⟨rfl, rfl⟩
  go_wp2_with fail
  refine (i0 _).mono ?_
  rintro e w' ⟨rfl, rfl⟩
  go_wp2_with fail
  refine (h4 _).mono ?_
  rintro e w' ⟨rfl, rfl⟩
  go_wp2_with fail
  go_ret
  exact ⟨rfl, Below.refl _ _⟩

set_option maxHeartbeats 1000000 in
theorem orders_40 (x y z : Nat) (hx : x < 18446744073709551616) (hy : y < 18446744073709551616) (hz : z < 18446744073709551616) (hp : cmp x y = -1) (hp' : cmp y x = 1) (hq : cmp y z ≤ 0) (hr : cmp x z ≤ 0) (v : Nat) (hv : v < 18446744073709551616) (hc1 : clamp x y z = (v, 0)) (hc2 : clamp v y z = (v, 0)) (hg : 0 ≤ cmp v y) (hl : cmp v z ≤ 0) (w : World) :
    Calls Try.prog 9 #[.int .u64 x, .int .u64 y, .int .u64 z] w fun e w' => e = .returned (.bool true) ∧ Below w.heap.size w w' := by
  have f1 := run_frombits x
  have f2 := run_frombits y
  have f3 := run_frombits z
  have i0 := compare_any 0 4607182418800017408 (by decide) (by decide)
  rw [show cmp 0 4607182418800017408 = -1 by decide] at i0
  have h1 := compare_any x y hx hy
  have h2 := compare_any y z hy hz
  have h3 := compare_any x z hx hz
  have h4 := compare_any y x hy hx
  have k1 := clamp_any x y z hx hy hz
  have k2 := clamp_any v y z hv hy hz
  rw [hp] at h1; rw [hp'] at h4; rw [hc1] at k1; rw [hc2] at k2
  clear hp hp' hc1 hc2
  have j1 := compare_any v v hv hv
  rw [cmp_self] at j1
  have j2 := compare_any v y hv hy
  have j3 := compare_any v z hv hz
  generalize cmp v y = u1 at *
  generalize cmp v z = u2 at *
  generalize cmp y z = q at *
  generalize cmp x z = r at *
  go_enter Try.func9, Try.ntmps9
  go_wp2_with fail
  refine (h1 _).mono ?_
  rintro e w' ⟨rfl, rfl⟩
  go_wp2_with fail
  refine (h2 _).mono ?_
  rintro e w' ⟨rfl, rfl⟩
  go_wp2_with fail
  refine (h3 _).mono ?_
  rintro e w' ⟨rfl, rfl⟩
  go_wp2_with fail
  refine (k1 _).mono ?_
  rintro e w' ⟨rfl, rfl⟩
  go_wp2_with fail
  refine (k2 _).mono ?_
  rintro e w' ⟨rfl, rfl⟩
  go_wp2_with fail
  refine (i0 _).mono ?_
  rintro e w' ⟨rfl, rfl⟩
  go_wp2_with fail
  refine (h4 _).mono ?_
  rintro e w' ⟨rfl, rfl⟩
  go_wp2_with fail
  refine (j1 _).mono ?_
  rintro e w' ⟨rfl, rfl⟩
  go_wp2_with fail
  refine (j2 _).mono ?_
  rintro e w' ⟨rfl, rfl⟩
  go_wp2_with fail
  refine (j3 _).mono ?_
  rintro e w' ⟨rfl, rfl⟩
  go_wp2_with fail
  go_ret
  exact ⟨rfl, Below.refl _ _⟩

set_option maxHeartbeats 1000000 in
theorem orders_42 (x y z : Nat) (hx : x < 18446744073709551616) (hy : y < 18446744073709551616) (hz : z < 18446744073709551616) (hp : cmp x y = -1) (hp' : cmp y x = 1) (hq : cmp y z ≤ 0) (hr : cmp x z ≤ 0) (hc1 : clamp x y z = (0, 2)) (hc2 : clamp 0 y z = (0, 2)) (w : World) :
    Calls Try.prog 9 #[.int .u64 x, .int .u64 y, .int .u64 z] w fun e w' => e = .returned (.bool true) ∧ Below w.heap.size w w' := by
  have f1 := run_frombits x
  have f2 := run_frombits y
  have f3 := run_frombits z
  have i0 := compare_any 0 4607182418800017408 (by decide) (by decide)
  rw [show cmp 0 4607182418800017408 = -1 by decide] at i0
  have h1 := compare_any x y hx hy
  have h2 := compare_any y z hy hz
  have h3 := compare_any x z hx hz
  have h4 := compare_any y x hy hx
  have k1 := clamp_any x y z hx hy hz
  have k2 := clamp_any 0 y z (by decide) hy hz
  rw [hp] at h1; rw [hp'] at h4; rw [hc1] at k1; rw [hc2] at k2
  clear hp hp' hc1 hc2
  generalize cmp y z = q at *
  generalize cmp x z = r at *
  go_enter Try.func9, Try.ntmps9
  go_wp2_with fail
  refine (h1 _).mono ?_
  rintro e w' ⟨rfl, rfl⟩
  go_wp2_with fail
  refine (h2 _).mono ?_
  rintro e w' ⟨rfl, rfl⟩
  go_wp2_with fail
  refine (h3 _).mono ?_
  rintro e w' ⟨rfl, rfl⟩
  go_wp2_with fail
  refine (k1 _).mono ?_
  rintro e w' ⟨rfl, rfl⟩
  go_wp2_with fail
  refine (k2 _).mono ?_
  rintro e w' ⟨rfl, rfl⟩
  go_wp2_with fail
  refine (i0 _).mono ?_
  rintro e w' ⟨rfl, rfl⟩
  go_wp2_with fail
  refine (h4 _).mono ?_
  rintro e w' ⟨rfl, rfl⟩
  go_wp2_with fail
  go_ret
  exact ⟨rfl, Below.refl _ _⟩

theorem ShareOrders_walk (a0 a1 a2 : Int) (w : World) (w0 : (Lit.int .u64 a0).wf = true) (w1 : (Lit.int .u64 a1).wf = true) (w2 : (Lit.int .u64 a2).wf = true) :
    Calls Try.prog 9 #[.int .u64 a0, .int .u64 a1, .int .u64 a2] w fun e w' => e = .returned (.bool true) ∧ Below w.heap.size w w' := by
  obtain ⟨x, rfl, hx⟩ := nat_u64 w0
  obtain ⟨y, rfl, hy⟩ := nat_u64 w1
  obtain ⟨z, rfl, hz⟩ := nat_u64 w2
  have ht := cmp_trans x y z
  rcases cmp_flip x y with ⟨hp, hp'⟩ | ⟨hp, hp'⟩ | ⟨hp, hp'⟩ <;> rcases clamp_again x y z hy hz with ⟨hc1, hc2⟩ | ⟨v, hc1, hc2, hg, hl, hv⟩
  · exact orders_02 x y z hx hy hz hp hp' hc1 hc2 w
  · exact orders_00 x y z hx hy hz hp hp' v (by rcases hv with rfl | rfl | rfl <;> assumption) hc1 hc2 hg hl w
  · by_cases hq : 0 < cmp y z
    · exact orders_12 x y z hx hy hz hp hp' hq hc1 hc2 w
    · exact orders_32 x y z hx hy hz hp hp' (by omega) (ht (by omega) (by omega)) hc1 hc2 w
  · by_cases hq : 0 < cmp y z
    · exact orders_10 x y z hx hy hz hp hp' hq v (by rcases hv with rfl | rfl | rfl <;> assumption) hc1 hc2 hg hl w
    · exact orders_30 x y z hx hy hz hp hp' (by omega) (ht (by omega) (by omega)) v (by rcases hv with rfl | rfl | rfl <;> assumption) hc1 hc2 hg hl w
  · by_cases hq : 0 < cmp y z
    · exact orders_22 x y z hx hy hz hp hp' hq hc1 hc2 w
    · exact orders_42 x y z hx hy hz hp hp' (by omega) (ht (by omega) (by omega)) hc1 hc2 w
  · by_cases hq : 0 < cmp y z
    · exact orders_20 x y z hx hy hz hp hp' hq v (by rcases hv with rfl | rfl | rfl <;> assumption) hc1 hc2 hg hl w
    · exact orders_40 x y z hx hy hz hp hp' (by omega) (ht (by omega) (by omega)) v (by rcases hv with rfl | rfl | rfl <;> assumption) hc1 hc2 hg hl w

set_option maxRecDepth 100000 in
theorem ShareOrders_lifted (os : Os) (started : os.Started) (H : Type) (enc : TypeId × Value → H) :
    ReturnsInHanded {} Try.checked os 9 .any (Rows.shareOrdersSpec.pre6 enc Try.prog Try.f9 Rows.shareOrdersRow.domain false) (Rows.shareOrdersSpec.post enc Try.prog Try.f9 false true false false) := by
  refine returnsInHanded_of_change (C := Try.checked) (by kernel_rfl) started (by kernel_rfl) Try.func9
    (ChangeSpec.witness6 (enc := enc) (C := Try.checked) false ⟨#[], #[.int .u64 0, .int .u64 0, .int .u64 0], []⟩ 8 (by kernel_rfl) (by kernel_rfl) (by kernel_rfl) (by kernel_rfl)) ?_
  intro W base args ds gs before hval0 hW hcnd _
  have hval : ∀ (j : Nat) t v, Try.f9.params[j]? = some t → args[j]? = some v → Value.okWide Try.prog W .any base t v := hval0
  have hW' := hW
  obtain ⟨p, q, hA0, hV, rfl, hfz, hnd⟩ := hW
  have hA : DataW.TrodAll enc Try.prog W 0 (fun _ => true) true Try.f9.params.toList args.toList ds p := hA0
  rw [Try.params9] at hA hval
  obtain ⟨v0, vs0, d0, ds0, p0, q0, hargs, rfl, rfl, h0, r0⟩ := trodAll_cons hA
  obtain ⟨v1, vs1, d1, ds1, p1, q1, rfl, rfl, rfl, h1, r1⟩ := trodAll_cons r0
  obtain ⟨v2, vs2, d2, ds2, p2, q2, rfl, rfl, rfl, h2, r2⟩ := trodAll_cons r1
  obtain ⟨rfl, rfl, rfl⟩ := trodAll_nil r2
  obtain rfl : args = #[v0, v1, v2] := by cases args; simp_all
  obtain ⟨rfl, rfl⟩ := trodVars_none hV
  obtain ⟨a0, rfl, rfl, rfl, w0⟩ := open_int Try.underlying22 (hval 0 22 v0 rfl rfl) h0
  obtain ⟨a1, rfl, rfl, rfl, w1⟩ := open_int Try.underlying22 (hval 1 22 v1 rfl rfl) h1
  obtain ⟨a2, rfl, rfl, rfl, w2⟩ := open_int Try.underlying22 (hval 2 22 v2 rfl rfl) h2
  clear hA0 hval0
  refine (ShareOrders_walk a0 a1 a2 W w0 w1 w2).mono fun e W' ⟨he, bel⟩ => ?_
  subst he
  exact ⟨_, rfl, _, _, _, [], _, [], hW', trodAll_mk1 (shut_bool Try.underlying4 _), (trodAll_cons_mk (shut_int Try.underlying22 w0) (trodAll_cons_mk (shut_int Try.underlying22 w1) (trodAll_cons_mk (shut_int Try.underlying22 w2) trodAll_mk0))), rfl, bel.frame _, fun h => by cases h⟩

/-- The given statement of ShareOrders. -/
theorem ShareOrders_holds : Rows.ShareOrdersSaid :=
  OpenClaim.holds_of_wide 9 Try.f9 rfl rfl rfl rfl rfl rfl rfl ⟨rfl, rfl, rfl, rfl, rfl⟩ rfl rfl rfl rfl rfl (by kernel_rfl) Try.func9 (by kernel_rfl)
    (of_decide_eq_true (by kernel_rfl)) (by unfold Func.isWrapper; first | (rw [if_pos (by decide +kernel)]; kernel_rfl) | (rw [if_neg (by decide +kernel)]; exact ⟨rfl, rfl⟩))
    (fun os started H enc _ => ShareOrders_lifted os started H enc)

end Go.Proofs.Ytpeidcjpkgcajaa

/- Contracts of the document's own answers of layer 3 that reckon nothing: the order, clamping, sameness. -/
import Derived.Test.YtpeidcjpkgcajaaShare
namespace Go.Proofs.Ytpeidcjpkgcajaa
open Go.ChangeShapes Go.WideShapes Go.ChangeAt Go.RowKit
open FM
set_option linter.unusedVariables false

theorem gt_lt (a b : Nat) (ha : a < 18446744073709551616) (hb : b < 18446744073709551616) : (FloatKind.f64.format.order a b == some .gt) = (FloatKind.f64.format.order b a == some .lt) := by
  show (D.order a b == some .gt) = (D.order b a == some .lt)
  cases na : isNan a with
  | true => rw [order_nan a b (.inl na), order_nan b a (.inr na)]; rfl
  | false =>
    cases nb : isNan b with
    | true => rw [order_nan a b (.inr nb), order_nan b a (.inl nb)]; rfl
    | false => rw [gt_key a b ha hb na nb, lt_key b a hb ha nb na]

theorem nan_no_lt (a b : Nat) (ha : a < 18446744073709551616) (h : cls a = 7) : (FloatKind.f64.format.order a b == some .lt) = false ∧ (FloatKind.f64.format.order a b == some .gt) = false := by
  have : isNan a = true := by
    rw [nan_rank a ha]
    exact decide_eq_true ((rank_nan a ha).1 (by omega))
  show (D.order a b == some .lt) = false ∧ (D.order a b == some .gt) = false
  rw [order_nan a b (.inl this)]; exact ⟨rfl, rfl⟩

theorem cmp_bef (a b : Nat) (ha : a < 18446744073709551616) (hb : b < 18446744073709551616) : cmp a b = if bef a b = true then -1 else if bef b a = true then 1 else 0 := by
  rw [bef_rank a b ha hb, bef_rank b a hb ha]
  simp only [decide_eq_true_eq]
  rfl

set_option maxHeartbeats 1000000 in
theorem rcompare_any (a b : Nat) (ha : a < 18446744073709551616) (hb : b < 18446744073709551616) (w : World) :
    Calls Try.prog 18 #[fl a, fl b] w fun e w' => e = .returned (.int .i64 (cmp a b)) ∧ w = w' := by
  obtain ⟨lt, hlt⟩ : ∃ lt, (FloatKind.f64.format.order a b == some .lt) = lt := ⟨_, rfl⟩
  obtain ⟨gt, hgt⟩ : ∃ gt, (FloatKind.f64.format.order a b == some .gt) = gt := ⟨_, rfl⟩
  have hbef : bef a b = (decide (cls a < cls b) || (decide (cls a = cls b) && lt)) := by rw [← hlt]; rfl
  have hbef2 : bef b a = (decide (cls b < cls a) || (decide (cls b = cls a) && gt)) := by rw [← hgt, gt_lt a b ha hb]; rfl
  have hc := cmp_bef a b ha hb
  have h7 : cls a = 7 → lt = false ∧ gt = false := fun h => by rw [← hlt, ← hgt]; exact nan_no_lt a b ha h
  have both : ¬ (lt = true ∧ gt = true) := by
    rw [← hlt, ← hgt]
    cases h : FloatKind.f64.format.order a b with
    | none => simp
    | some o => cases o <;> simp
  have h1 := rclass_any a ha
  have h2 := rclass_any b hb
  rw [hbef, hbef2] at hc
  clear hbef hbef2 ha hb
  generalize cls a = ca at *
  generalize cls b = cb at *
  have hw : (ca < cb) ∨ (ca = cb ∧ ca = 7) ∨ (ca = cb ∧ ca ≠ 7 ∧ lt = true) ∨ (ca = cb ∧ ca ≠ 7 ∧ lt = false ∧ gt = true) ∨ (ca = cb ∧ ca ≠ 7 ∧ lt = false ∧ gt = false) ∨ cb < ca := by
    cases lt <;> cases gt <;> simp <;> omega
  rcases hw with h | ⟨rfl, rfl⟩ | ⟨rfl, h, rfl⟩ | ⟨rfl, h, rfl, rfl⟩ | ⟨rfl, h, rfl, rfl⟩ | h
  · have hr : cmp a b = -1 := by rw [hc]; simp [h]
    rw [hr]
    clear hc h7 both hr
    go_enter Try.func18, Try.ntmps18
    go_wp2_with fail
    refine (h1 _).mono ?_
    rintro e w' ⟨rfl, rfl⟩
    go_wp2_with fail
    refine (h2 _).mono ?_
    rintro e w' ⟨rfl, rfl⟩
    go_wp2_with fail
    go_ret
    exact ⟨rfl, rfl⟩
  · obtain ⟨rfl, rfl⟩ := h7 rfl
    have hr : cmp a b = 0 := by rw [hc]; rfl
    rw [hr]
    clear hc h7 both hr
    go_enter Try.func18, Try.ntmps18
    go_wp2_with fail
    refine (h1 _).mono ?_
    rintro e w' ⟨rfl, rfl⟩
    go_wp2_with fail
    refine (h2 _).mono ?_
    rintro e w' ⟨rfl, rfl⟩
    go_wp2_with fail
    go_ret
    exact ⟨rfl, rfl⟩
  · have hr : cmp a b = -1 := by rw [hc]; simp
    rw [hr]
    clear hc h7 both hr
    go_enter Try.func18, Try.ntmps18
    go_wp2_with fail
    refine (h1 _).mono ?_
    rintro e w' ⟨rfl, rfl⟩
    go_wp2_with fail
    refine (h2 _).mono ?_
    rintro e w' ⟨rfl, rfl⟩
    go_wp2_with fail
    go_ret
    exact ⟨rfl, rfl⟩
  · have hr : cmp a b = 1 := by rw [hc]; simp
    rw [hr]
    clear hc h7 both hr
    go_enter Try.func18, Try.ntmps18
    go_wp2_with fail
    refine (h1 _).mono ?_
    rintro e w' ⟨rfl, rfl⟩
    go_wp2_with fail
    refine (h2 _).mono ?_
    rintro e w' ⟨rfl, rfl⟩
    go_wp2_with fail
    go_ret
    exact ⟨rfl, rfl⟩
  · have hr : cmp a b = 0 := by rw [hc]; simp
    rw [hr]
    clear hc h7 both hr
    go_enter Try.func18, Try.ntmps18
    go_wp2_with fail
    refine (h1 _).mono ?_
    rintro e w' ⟨rfl, rfl⟩
    go_wp2_with fail
    refine (h2 _).mono ?_
    rintro e w' ⟨rfl, rfl⟩
    go_wp2_with fail
    go_ret
    exact ⟨rfl, rfl⟩
  · have hr : cmp a b = 1 := by rw [hc]; simp [h, show ¬ ca < cb by omega, show ¬ ca = cb by omega]
    rw [hr]
    clear hc h7 both hr
    go_enter Try.func18, Try.ntmps18
    go_wp2_with fail
    refine (h1 _).mono ?_
    rintro e w' ⟨rfl, rfl⟩
    go_wp2_with fail
    refine (h2 _).mono ?_
    rintro e w' ⟨rfl, rfl⟩
    go_wp2_with fail
    go_ret
    exact ⟨rfl, rfl⟩

theorem cmp_pos (a b : Nat) : (cmp a b > 0) = (rank b < rank a) := by
  unfold cmp
  (repeat' split) <;> simp <;> omega
theorem cmp_neg (a b : Nat) : (cmp a b < 0) = (rank a < rank b) := by
  unfold cmp
  (repeat' split) <;> simp <;> omega

set_option maxHeartbeats 2000000 in
theorem rclamp_any (x lo hi : Nat) (hx : x < 18446744073709551616) (hlo : lo < 18446744073709551616) (hhi : hi < 18446744073709551616) (w : World) :
    Calls Try.prog 20 #[fl x, fl lo, fl hi] w fun e w' => e = .returned (.tuple #[fl (clamp x lo hi).1, .int .i64 (clamp x lo hi).2]) ∧ w = w' := by
  have c1 := rclass_any lo hlo
  have c2 := rclass_any hi hhi
  have c3 := rclass_any x hx
  have b1 := rcompare_any lo hi hlo hhi
  have b2 := rcompare_any x lo hx hlo
  have b3 := rcompare_any x hi hx hhi
  rw [clamp_B]
  obtain ⟨k1, n1, e1, f1, d1⟩ := class_nanB lo hlo
  obtain ⟨k2, n2, e2, f2, d2⟩ := class_nanB hi hhi
  obtain ⟨k3, n3, e3, f3, d3⟩ := class_nanB x hx
  rw [e1] at c1; rw [e2] at c2; rw [e3] at c3
  rw [f1, f2, f3]
  have g1 := cmp_pos lo hi
  have g2 := cmp_neg x lo
  have g3 := cmp_pos x hi
  simp only [← g1, ← g2, ← g3]
  clear e1 e2 e3 f1 f2 f3 hx hlo hhi g1 g2 g3
  obtain ⟨v1, hv1⟩ : ∃ v, v = cmp lo hi := ⟨_, rfl⟩
  obtain ⟨v2, hv2⟩ : ∃ v, v = cmp x lo := ⟨_, rfl⟩
  obtain ⟨v3, hv3⟩ : ∃ v, v = cmp x hi := ⟨_, rfl⟩
  rw [← hv1] at b1 ⊢; rw [← hv2] at b2 ⊢; rw [← hv3] at b3 ⊢
  clear hv1 hv2 hv3
  obtain ⟨B1, k1'⟩ : ∃ B, decide (v1 > 0) = B := ⟨_, rfl⟩
  obtain ⟨B2, k2'⟩ : ∃ B, decide (v2 < 0) = B := ⟨_, rfl⟩
  obtain ⟨B3, k3'⟩ : ∃ B, decide (v3 > 0) = B := ⟨_, rfl⟩
  rw [k1', k2', k3']
  rcases clamp_ways n1 n2 n3 B1 B2 B3 with rfl | ⟨rfl, rfl⟩ | ⟨rfl, rfl, rfl⟩ | ⟨rfl, rfl, rfl, rfl⟩ | ⟨rfl, rfl, rfl, rfl, rfl⟩ | ⟨rfl, rfl, rfl, rfl, rfl, rfl⟩ | ⟨rfl, rfl, rfl, rfl, rfl, rfl⟩
  · rw [show clampB x lo hi true n2 n3 B1 B2 B3 = (0, 2) from by simp [clampB]]
    go_enter Try.func20, Try.ntmps20
    go_wp2_with fail
    refine (c1 _).mono ?_
    rintro e w' ⟨rfl, rfl⟩
    go_wp2_with fail
    refine (c2 _).mono ?_
    rintro e w' ⟨rfl, rfl⟩
    go_wp2_with fail
    refine (b1 _).mono ?_
    rintro e w' ⟨rfl, rfl⟩
    go_wp2_with fail
    go_ret2
    exact ⟨rfl, rfl⟩
  · rw [show clampB x lo hi false true n3 B1 B2 B3 = (0, 2) from by simp [clampB]]
    go_enter Try.func20, Try.ntmps20
    go_wp2_with fail
    refine (c1 _).mono ?_
    rintro e w' ⟨rfl, rfl⟩
    go_wp2_with fail
    refine (c2 _).mono ?_
    rintro e w' ⟨rfl, rfl⟩
    go_wp2_with fail
    refine (b1 _).mono ?_
    rintro e w' ⟨rfl, rfl⟩
    go_wp2_with fail
    go_ret2
    exact ⟨rfl, rfl⟩
  · rw [show clampB x lo hi false false n3 true B2 B3 = (0, 2) from by simp [clampB]]
    go_enter Try.func20, Try.ntmps20
    go_wp2_with fail
    refine (c1 _).mono ?_
    rintro e w' ⟨rfl, rfl⟩
    go_wp2_with fail
    refine (c2 _).mono ?_
    rintro e w' ⟨rfl, rfl⟩
    go_wp2_with fail
    refine (b1 _).mono ?_
    rintro e w' ⟨rfl, rfl⟩
    go_wp2_with fail
    go_ret2
    exact ⟨rfl, rfl⟩
  · rw [show clampB x lo hi false false true false B2 B3 = (lo, 0) from by simp [clampB]]
    go_enter Try.func20, Try.ntmps20
    go_wp2_with fail
    refine (c1 _).mono ?_
    rintro e w' ⟨rfl, rfl⟩
    go_wp2_with fail
    refine (c2 _).mono ?_
    rintro e w' ⟨rfl, rfl⟩
    go_wp2_with fail
    refine (b1 _).mono ?_
    rintro e w' ⟨rfl, rfl⟩
    go_wp2_with fail
    refine (c3 _).mono ?_
    rintro e w' ⟨rfl, rfl⟩
    go_wp2_with fail
    refine (b2 _).mono ?_
    rintro e w' ⟨rfl, rfl⟩
    go_wp2_with fail
    refine (b3 _).mono ?_
    rintro e w' ⟨rfl, rfl⟩
    go_wp2_with fail
    go_ret2
    exact ⟨rfl, rfl⟩
  · rw [show clampB x lo hi false false false false true B3 = (lo, 0) from by simp [clampB]]
    go_enter Try.func20, Try.ntmps20
    go_wp2_with fail
    refine (c1 _).mono ?_
    rintro e w' ⟨rfl, rfl⟩
    go_wp2_with fail
    refine (c2 _).mono ?_
    rintro e w' ⟨rfl, rfl⟩
    go_wp2_with fail
    refine (b1 _).mono ?_
    rintro e w' ⟨rfl, rfl⟩
    go_wp2_with fail
    refine (c3 _).mono ?_
    rintro e w' ⟨rfl, rfl⟩
    go_wp2_with fail
    refine (b2 _).mono ?_
    rintro e w' ⟨rfl, rfl⟩
    go_wp2_with fail
    refine (b3 _).mono ?_
    rintro e w' ⟨rfl, rfl⟩
    go_wp2_with fail
    go_ret2
    exact ⟨rfl, rfl⟩
  · rw [show clampB x lo hi false false false false false true = (hi, 0) from rfl]
    go_enter Try.func20, Try.ntmps20
    go_wp2_with fail
    refine (c1 _).mono ?_
    rintro e w' ⟨rfl, rfl⟩
    go_wp2_with fail
    refine (c2 _).mono ?_
    rintro e w' ⟨rfl, rfl⟩
    go_wp2_with fail
    refine (b1 _).mono ?_
    rintro e w' ⟨rfl, rfl⟩
    go_wp2_with fail
    refine (c3 _).mono ?_
    rintro e w' ⟨rfl, rfl⟩
    go_wp2_with fail
    refine (b2 _).mono ?_
    rintro e w' ⟨rfl, rfl⟩
    go_wp2_with fail
    refine (b3 _).mono ?_
    rintro e w' ⟨rfl, rfl⟩
    go_wp2_with fail
    go_ret2
    exact ⟨rfl, rfl⟩
  · rw [show clampB x lo hi false false false false false false = (x, 0) from rfl]
    go_enter Try.func20, Try.ntmps20
    go_wp2_with fail
    refine (c1 _).mono ?_
    rintro e w' ⟨rfl, rfl⟩
    go_wp2_with fail
    refine (c2 _).mono ?_
    rintro e w' ⟨rfl, rfl⟩
    go_wp2_with fail
    refine (b1 _).mono ?_
    rintro e w' ⟨rfl, rfl⟩
    go_wp2_with fail
    refine (c3 _).mono ?_
    rintro e w' ⟨rfl, rfl⟩
    go_wp2_with fail
    refine (b2 _).mono ?_
    rintro e w' ⟨rfl, rfl⟩
    go_wp2_with fail
    refine (b3 _).mono ?_
    rintro e w' ⟨rfl, rfl⟩
    go_wp2_with fail
    go_ret2
    exact ⟨rfl, rfl⟩

theorem val_eq {a b : Nat} (h : val a = val b) : (isNan a = true ∧ isNan b = true) ∨ (isNan a = false ∧ a = b) := by
  unfold val at h
  cases na : isNan a <;> cases nb : isNan b <;> simp [na, nb] at h
  · exact .inr ⟨rfl, h⟩
  · exact .inl ⟨rfl, rfl⟩

set_option maxHeartbeats 1000000 in
theorem same_any (a b : Nat) (ha : a < 18446744073709551616) (hb : b < 18446744073709551616) (h : val a = val b) (w : World) :
    Calls Try.prog 21 #[fl a, fl b] w fun e w' => e = .returned (.bool true) ∧ w = w' := by
  have h1 := rclass_any a ha
  have h2 := rclass_any b hb
  have f1 := run_bits a
  have f2 := run_bits b
  rcases val_eq h with ⟨na, nb⟩ | ⟨na, rfl⟩
  · rw [show cls a = 7 by simp [cls, na]] at h1
    rw [show cls b = 7 by simp [cls, nb]] at h2
    clear na nb h
    go_enter Try.func21, Try.ntmps21
    go_wp2_with fail
    refine (h1 _).mono ?_
    rintro e w' ⟨rfl, rfl⟩
    go_wp2_with fail
    refine (h2 _).mono ?_
    rintro e w' ⟨rfl, rfl⟩
    go_wp2_with fail
    go_ret
    exact ⟨rfl, rfl⟩
  · obtain ⟨k, n, e, f, d⟩ := class_nanB a ha
    rw [e] at h1
    have hn : n = false := by rw [← f, ← nan_rank a ha]; exact na
    subst hn
    clear na h h2 f2 f e hb
    go_enter Try.func21, Try.ntmps21
    go_wp2_with fail
    refine (h1 _).mono ?_
    rintro e w' ⟨rfl, rfl⟩
    go_wp2_with fail
    refine (h1 _).mono ?_
    rintro e w' ⟨rfl, rfl⟩
    go_wp2_with fail
    go_ret
    exact ⟨rfl, rfl⟩

end Go.Proofs.Ytpeidcjpkgcajaa

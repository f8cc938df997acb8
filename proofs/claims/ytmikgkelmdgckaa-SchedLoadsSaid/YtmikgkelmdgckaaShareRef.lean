/- Contracts of the document's own answers of layer 3 that reckon nothing: the order, clamping, sameness. -/
import Derived.Test.YtmikgkelmdgckaaShare
namespace Go.Proofs.Ytmikgkelmdgckaa
open Go.ChangeShapes Go.WideShapes Go.ChangeAt Go.RowKit
open FM
set_option linter.unusedVariables false

theorem gt_lt (a b : Nat) (ha : a < 18446744073709551616) (hb : b < 18446744073709551616) : (FloatKind.f64.format.order a b == some .gt) = (FloatKind.f64.format.order b a == some .lt) := by
  show (D.order a b == some .gt) = (D.order b a == some .lt)
  cases na : isNan a with
  | true => rw [order_nan a b (.inl na), order_nan b a (.inr na)]; rfl
  | false =>
    cases nb : isNan b with
    | true => rw [order_nan a b (.inr nb), order_nan b a (.inl nb)]; rfl
    | false => rw [gt_key a b ha hb na nb, lt_key b a hb ha nb na]

theorem nan_no_lt (a b : Nat) (ha : a < 18446744073709551616) (h : cls a = 7) : (FloatKind.f64.format.order a b == some .lt) = false ∧ (FloatKind.f64.format.order a b == some .gt) = false := by
  have : isNan a = true := by
    rw [nan_rank a ha]
    exact decide_eq_true ((rank_nan a ha).1 (by omega))
  show (D.order a b == some .lt) = false ∧ (D.order a b == some .gt) = false
  rw [order_nan a b (.inl this)]; exact ⟨rfl, rfl⟩

theorem cmp_bef (a b : Nat) (ha : a < 18446744073709551616) (hb : b < 18446744073709551616) : cmp a b = if bef a b = true then -1 else if bef b a = true then 1 else 0 := by
  rw [bef_rank a b ha hb, bef_rank b a hb ha]
  simp only [decide_eq_true_eq]
  rfl

theorem cmp_pos (a b : Nat) : (cmp a b > 0) = (rank b < rank a) := by
  unfold cmp
  (repeat' split) <;> simp <;> omega
theorem cmp_neg (a b : Nat) : (cmp a b < 0) = (rank a < rank b) := by
  unfold cmp
  (repeat' split) <;> simp <;> omega

theorem val_eq {a b : Nat} (h : val a = val b) : (isNan a = true ∧ isNan b = true) ∨ (isNan a = false ∧ a = b) := by
  unfold val at h
  cases na : isNan a <;> cases nb : isNan b <;> simp [na, nb] at h
  · exact .inr ⟨rfl, h⟩
  · exact .inl ⟨rfl, rfl⟩

set_option maxRecDepth 100000 in
set_option maxHeartbeats 1000000 in
theorem same_any (a b : Nat) (ha : a < 18446744073709551616) (hb : b < 18446744073709551616) (h : val a = val b) (w : World) :
    Calls Try.prog 40 #[fl a, fl b] w fun e w' => e = .returned (.bool true) ∧ w = w' := by
  have h1 := rclass_any a ha
  have h2 := rclass_any b hb
  have f1 := run_bits a
  have f2 := run_bits b
  rcases val_eq h with ⟨na, nb⟩ | ⟨na, rfl⟩
  · rw [show cls a = 7 by simp [cls, na]] at h1
    rw [show cls b = 7 by simp [cls, nb]] at h2
    clear na nb h
    go_enter Try.func40, Try.ntmps40
    go_wp2_with fail
    refine (h1 _).mono ?_
    rintro e w' ⟨rfl, rfl⟩
    go_wp2_with fail
    refine (h2 _).mono ?_
    rintro e w' ⟨rfl, rfl⟩
    go_wp2_with fail
    go_ret
    exact ⟨rfl, rfl⟩
  · obtain ⟨k, n, e, f, d⟩ := class_nanB a ha
    rw [e] at h1
    have hn : n = false := by rw [← f, ← nan_rank a ha]; exact na
    subst hn
    clear na h h2 f2 f e hb
    go_enter Try.func40, Try.ntmps40
    go_wp2_with fail
    refine (h1 _).mono ?_
    rintro e w' ⟨rfl, rfl⟩
    go_wp2_with fail
    refine (h1 _).mono ?_
    rintro e w' ⟨rfl, rfl⟩
    go_wp2_with fail
    go_ret
    exact ⟨rfl, rfl⟩

end Go.Proofs.Ytmikgkelmdgckaa

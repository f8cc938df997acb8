/- Plain facts about fields and rounding, second part. No program in sight. -/
import Derived.Test.YtjnpekhmagamhaaWordMath
namespace Go.Proofs.Ytjnpekhmagamhaa
namespace WM
/-! What was laid is taken; what lies apart is as it was; two fields that touch are one. -/
theorem take_put_self (x lo n v : Nat) (hx : x < 18446744073709551616) (h : lo + n ≤ 64) (hv : v < 2 ^ n) : take (put x lo n v) lo n = v := by
  apply Nat.eq_of_testBit_eq
  intro i
  rw [take_testBit, put_testBit x lo n v _ hx h hv]
  by_cases hi : i < n
  · rw [if_pos (by omega)]; simp [hi]
  · simp [hi]; exact Nat.testBit_lt_two_pow (Nat.lt_of_lt_of_le hv (Nat.pow_le_pow_right (by decide) (Nat.le_of_not_lt hi)))

theorem take_put_apart (x lo n v o m : Nat) (hx : x < 18446744073709551616) (h : lo + n ≤ 64) (hv : v < 2 ^ n) (ha : lo + n ≤ o ∨ o + m ≤ lo) : take (put x lo n v) o m = take x o m := by
  apply Nat.eq_of_testBit_eq
  intro i
  rw [take_testBit, take_testBit, put_testBit x lo n v _ hx h hv]
  by_cases hi : i < m
  · rw [if_neg (by omega)]
  · simp [hi]

theorem put_take (x lo n m : Nat) (h : lo + n + m ≤ 64) : put (take x lo n) n m (take x (lo + n) m) = take x lo (n + m) := by
  have h1 : take x lo n < 18446744073709551616 := Nat.lt_of_lt_of_le (take_lt x lo n) (by have := Nat.pow_le_pow_right (show 0 < 2 by decide) (show n ≤ 64 by omega); simpa using this)
  apply Nat.eq_of_testBit_eq
  intro i
  rw [put_testBit _ n m _ i h1 (by omega) (take_lt _ _ _), take_testBit, take_testBit, take_testBit]
  by_cases c1 : n ≤ i
  · by_cases c2 : i < n + m
    · rw [if_pos ⟨c1, c2⟩, show lo + n + (i - n) = lo + i by omega]; simp [c2]; omega
    · rw [if_neg (by omega)]; simp [c2]; omega
  · rw [if_neg (by omega)]; simp [show i < n by omega, show i < n + m by omega]

theorem down_down (x to : Nat) : down (down x to) to = down x to := by
  unfold down
  have e : x - x % to = to * (x / to) := by have := Nat.div_add_mod x to; omega
  rw [e, Nat.mul_mod_right, Nat.sub_zero]

theorem down_near (x to : Nat) (h : 0 < to) : x - down x to < to := by
  have := Nat.mod_lt x h
  have h2 := Nat.mod_le x to
  unfold down; omega

end WM
end Go.Proofs.Ytjnpekhmagamhaa

/- Plain facts about addresses' places and the words of page tables' entries. No program in sight. -/
import Derived.Test.YtgfoojnkgfikbaaWordMath
namespace Go.Proofs.Ytgfoojnkgfikbaa
namespace EN

/-! Places of an address. -/
/-- How far apart the addresses of a level's neighbours are. -/
def sz (k : Nat) : Nat := 4096 * 512 ^ k
def idx (va l : Nat) : Nat := va / sz (l - 1) % 512

theorem sz_succ (k : Nat) : sz (k + 1) = sz k * 512 := by unfold sz; rw [Nat.pow_succ, Nat.mul_assoc]
theorem sz_pos (k : Nat) : 0 < sz k := Nat.mul_pos (by decide) (Nat.pow_pos (by decide))
theorem sz_le (k : Nat) (h : k ≤ 4) : sz k ≤ 281474976710656 := by
  rcases (by omega : k = 0 ∨ k = 1 ∨ k = 2 ∨ k = 3 ∨ k = 4) with rfl | rfl | rfl | rfl | rfl <;> decide
theorem idx_lt (va l : Nat) : idx va l < 512 := Nat.mod_lt _ (by decide)
theorem idx_take (va l : Nat) (h1 : 1 ≤ l) (h4 : l ≤ 4) : WM.take va (12 + 9 * (l - 1)) 9 = idx va l := by
  unfold WM.take idx
  rcases (by omega : l = 1 ∨ l = 2 ∨ l = 3 ∨ l = 4) with rfl | rfl | rfl | rfl <;> rfl
/-- The sum of the places below a level. -/
def low (va k : Nat) : Nat := va % sz k
theorem low_succ (va k : Nat) : low va (k + 1) = low va k + idx va (k + 1) * sz k := by
  unfold low idx
  rw [sz_succ, Nat.mod_mul, show k + 1 - 1 = k by omega, Nat.mul_comm (sz k)]
theorem low_lt (va k : Nat) : low va k < sz k := Nat.mod_lt _ (sz_pos k)
theorem low_all (va : Nat) (h : va < 140737488355328) : low va 4 = va := by
  unfold low; exact Nat.mod_eq_of_lt (Nat.lt_trans h (by decide))
theorem low_zero (va : Nat) : low va 0 = va % 4096 := rfl
theorem div_sz (va k : Nat) : va / 512 ^ k / 4096 = va / sz k := by
  unfold sz; rw [Nat.div_div_eq_div_mul, Nat.mul_comm]
theorem div_succ (va k : Nat) : va / 512 ^ k / 512 = va / 512 ^ (k + 1) := by
  rw [Nat.div_div_eq_div_mul, Nat.pow_succ]

end EN
end Go.Proofs.Ytgfoojnkgfikbaa

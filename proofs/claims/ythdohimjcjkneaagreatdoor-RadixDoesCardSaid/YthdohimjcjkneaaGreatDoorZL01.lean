/- Contracts of package entry's fits, perm, read: which entry a word says at a level, for every word and level; the table of kinds is as its initialiser lays it. -/
import Derived.Test.YthdohimjcjkneaaGreatDoorRows
import Derived.WalkKit
import Derived.ProofKit
import Derived.KernelRfl
import Derived.Laws.AppendOwn
import Derived.WalkSmall
import Derived.OpenShut
import Derived.Laws.OwnMore
import Derived.Deep.OwnRows
import Derived.Maps.OwnSet
import Derived.Maps.RangeWalk
import Derived.Carry
import Derived.Outline
import Derived.WalkLawsBesides
import Derived.Deep.QuietTactic
import Derived.BigQuiet
import Derived.IntWalk
import Derived.Deep.RegionWith
import Derived.Laws.BitsAllLaws

/- Plain facts about bits of natural numbers: counting, the lowest clear bit, fields, powers of two. No program in sight. -/
namespace Go.Proofs.YthdohimjcjkneaaGreatDoor
namespace WM

def bit (x i : Nat) : Nat := x / 2 ^ i % 2

def ones (x : Nat) : Nat → Nat
  | 0 => 0
  | k + 1 => ones x k + bit x k

def firstFrom (x : Nat) : Nat → Nat → Nat
  | 0, i => i
  | f + 1, i => if bit x i = 0 then i else firstFrom x f (i + 1)

def first (x : Nat) : Nat := firstFrom x 64 0

theorem bit_lt (x i : Nat) : bit x i < 2 := Nat.mod_lt _ (by decide)
theorem bit_01 (x i : Nat) : bit x i = 0 ∨ bit x i = 1 := by have := bit_lt x i; omega

theorem bit_testBit (x i : Nat) : bit x i = (x.testBit i).toNat := by
  unfold bit
  rw [Nat.testBit_eq_decide_div_mod_eq]
  have := Nat.mod_lt (x / 2 ^ i) (show 0 < 2 by decide)
  by_cases h : x / 2 ^ i % 2 = 1
  · simp [h]
  · simp [h]; omega

theorem testBit_bit (x i : Nat) : x.testBit i = decide (bit x i = 1) := by
  rw [bit_testBit]; cases x.testBit i <;> simp

theorem ones_le (x k : Nat) : ones x k ≤ k := by
  induction k with
  | zero => simp [ones]
  | succ k ih => have := bit_lt x k; simp only [ones]; omega

theorem firstFrom_le (x : Nat) : ∀ f i, firstFrom x f i ≤ i + f
  | 0, i => by simp [firstFrom]
  | f + 1, i => by
    simp only [firstFrom]
    split
    · omega
    · have := firstFrom_le x f (i + 1); omega

/-! Sums of digits. -/
def sum (b : Nat → Nat) : Nat → Nat
  | 0 => 0
  | k + 1 => sum b k + b k * 2 ^ k

theorem sum_lt (b : Nat → Nat) (hb : ∀ i, b i < 2) (k : Nat) : sum b k < 2 ^ k := by
  induction k with
  | zero => simp [sum]
  | succ k ih =>
    have h2 : 2 ^ (k + 1) = 2 ^ k * 2 := Nat.pow_succ 2 k
    have h3 := hb k
    simp only [sum]
    rcases (by omega : b k = 0 ∨ b k = 1) with h | h <;> rw [h] <;> omega

theorem sum_congr (b c : Nat → Nat) (k : Nat) (h : ∀ i, i < k → b i = c i) : sum b k = sum c k := by
  induction k with
  | zero => rfl
  | succ k ih => simp only [sum]; rw [ih (fun i hi => h i (by omega)), h k (by omega)]

theorem mod_succ (x k : Nat) : x % 2 ^ (k + 1) = x % 2 ^ k + bit x k * 2 ^ k := by
  unfold bit
  rw [Nat.pow_succ, Nat.mod_mul, Nat.mul_comm]

theorem sum_bit (x k : Nat) : sum (bit x) k = x % 2 ^ k := by
  induction k with
  | zero => simp [sum, Nat.mod_one]
  | succ k ih => simp only [sum]; rw [ih, mod_succ]

theorem bit_add (x lo i : Nat) : bit x (lo + i) = bit (x / 2 ^ lo) i := by
  unfold bit; rw [Nat.div_div_eq_div_mul, Nat.pow_add]

theorem sum_field (x lo k : Nat) : sum (fun i => bit x (lo + i)) k = x / 2 ^ lo % 2 ^ k := by
  rw [sum_congr _ (bit (x / 2 ^ lo)) k (fun i _ => bit_add x lo i), sum_bit]

theorem eq_sum (x k : Nat) (h : x < 2 ^ k) (b : Nat → Nat) (hb : ∀ i, i < k → bit x i = b i) : x = sum b k := by
  rw [← Nat.mod_eq_of_lt h, ← sum_bit, sum_congr _ _ _ hb]

/-! Fields. -/
def mask (lo n : Nat) : Nat := (2 ^ n - 1) * 2 ^ lo

theorem mask_lt (lo n : Nat) (h : lo + n ≤ 64) : mask lo n < 2 ^ 64 := by
  have h1 : 2 ^ (lo + n) ≤ 2 ^ 64 := Nat.pow_le_pow_right (by decide) h
  rw [Nat.pow_add] at h1
  have h2 : 0 < 2 ^ n := Nat.two_pow_pos n
  have h3 : 0 < 2 ^ lo := Nat.two_pow_pos lo
  unfold mask
  rw [Nat.sub_mul, Nat.mul_comm (2 ^ n), Nat.one_mul]
  omega

theorem mask_testBit (lo n i : Nat) : (mask lo n).testBit i = (decide (lo ≤ i) && decide (i < lo + n)) := by
  unfold mask
  rw [Nat.mul_comm, Nat.testBit_two_pow_mul, Nat.testBit_two_pow_sub_one]
  by_cases h : lo ≤ i
  · simp [h]; omega
  · simp [h]

/-- What taking a field gives. -/
def take (x lo n : Nat) : Nat := x / 2 ^ lo % 2 ^ n

theorem take_testBit (x lo n i : Nat) : (take x lo n).testBit i = (decide (i < n) && x.testBit (lo + i)) := by
  unfold take; rw [Nat.testBit_mod_two_pow, Nat.testBit_div_two_pow, Nat.add_comm]

theorem take_and (x lo n : Nat) : (x &&& mask lo n) / 2 ^ lo = take x lo n := by
  apply Nat.eq_of_testBit_eq
  intro i
  rw [take_testBit, Nat.testBit_div_two_pow, Nat.testBit_and, mask_testBit, Nat.add_comm i lo]
  by_cases h : i < n <;> simp [h]

theorem take_lt (x lo n : Nat) : take x lo n < 2 ^ n := Nat.mod_lt _ (Nat.two_pow_pos n)

/-- What laying a field gives. -/
def put (x lo n v : Nat) : Nat := (x &&& (18446744073709551615 - mask lo n)) ||| v * 2 ^ lo

theorem testBit_big (x i : Nat) (h : x < 18446744073709551616) (hi : 64 ≤ i) : x.testBit i = false :=
  Nat.testBit_lt_two_pow (Nat.lt_of_lt_of_le (show x < 2 ^ 64 by simpa using h) (Nat.pow_le_pow_right (by decide) hi))

theorem comp_testBit (m i : Nat) (h : m < 18446744073709551616) : (18446744073709551615 - m).testBit i = (decide (i < 64) && !m.testBit i) := by
  have := @Nat.testBit_two_pow_sub_succ m 64 (by simpa using h) i
  rw [← this]
  congr 1
  omega

theorem put_testBit (x lo n v i : Nat) (hx : x < 18446744073709551616) (h : lo + n ≤ 64) (hv : v < 2 ^ n) :
    (put x lo n v).testBit i = if lo ≤ i ∧ i < lo + n then v.testBit (i - lo) else x.testBit i := by
  unfold put
  rw [Nat.testBit_or, Nat.testBit_and, comp_testBit _ _ (by have := mask_lt lo n h; simpa using this), mask_testBit, Nat.mul_comm v, Nat.testBit_two_pow_mul]
  by_cases h1 : lo ≤ i
  · by_cases h2 : i < lo + n
    · simp [h1, h2]
    · have h3 : v.testBit (i - lo) = false := Nat.testBit_lt_two_pow (Nat.lt_of_lt_of_le hv (Nat.pow_le_pow_right (by decide) (by omega)))
      by_cases h4 : i < 64
      · simp [h1, h2, h3, h4]
      · simp [h1, h2, h3, testBit_big x i hx (by omega)]
  · by_cases h4 : i < 64
    · simp [h1, h4]
    · simp [h1, testBit_big x i hx (by omega)]

theorem put_lt (x lo n v : Nat) (hx : x < 18446744073709551616) (h : lo + n ≤ 64) (hv : v < 2 ^ n) : put x lo n v < 18446744073709551616 := by
  have : put x lo n v < 2 ^ 64 := by
    apply Nat.lt_pow_two_of_testBit
    intro i hi
    rw [put_testBit x lo n v i hx h hv, if_neg (by omega)]
    exact testBit_big x i hx hi
  simpa using this

/-- A digit of a word in which a field was laid. -/
def putBit (x lo n v i : Nat) : Nat := if lo ≤ i ∧ i < lo + n then bit v (i - lo) else bit x i

theorem putBit_lt (x lo n v i : Nat) : putBit x lo n v i < 2 := by
  unfold putBit; split <;> exact bit_lt _ _

theorem put_sum (x lo n v : Nat) (hx : x < 18446744073709551616) (h : lo + n ≤ 64) (hv : v < 2 ^ n) : sum (putBit x lo n v) 64 = put x lo n v := by
  symm
  refine eq_sum _ 64 (by simpa using put_lt x lo n v hx h hv) _ fun i _ => ?_
  rw [bit_testBit, put_testBit x lo n v i hx h hv]
  unfold putBit
  split <;> rw [bit_testBit]

/-- Bits from n on are clear just where the number is below 2 to the n. -/
theorem high_clear (v n : Nat) (hv : v < 18446744073709551616) (h : ∀ i, n ≤ i → i < 64 → bit v i = 0) : v < 2 ^ n := by
  apply Nat.lt_pow_two_of_testBit
  intro i hi
  by_cases h1 : i < 64
  · rw [testBit_bit, h i hi h1]; decide
  · exact testBit_big v i hv (by omega)

theorem high_bit (v n i : Nat) (h : v < 2 ^ n) (hi : n ≤ i) : bit v i = 0 := by
  rw [bit_testBit, Nat.testBit_lt_two_pow (Nat.lt_of_lt_of_le h (Nat.pow_le_pow_right (by decide) hi))]; rfl

/-! Powers. -/
theorem bit_zero_big (x i : Nat) (h : x < 2 ^ i) : bit x i = 0 := by unfold bit; rw [Nat.div_eq_of_lt h]

theorem ones_zero (x : Nat) : ∀ k, ones x k = 0 → x % 2 ^ k = 0
  | 0, _ => Nat.mod_one x
  | k + 1, h => by
    simp only [ones] at h
    rw [mod_succ, ones_zero x k (by omega)]
    have : bit x k = 0 := by omega
    rw [this]; simp

theorem zero_ones (x : Nat) : ∀ k, x % 2 ^ k = 0 → ones x k = 0
  | 0, _ => rfl
  | k + 1, h => by
    rw [mod_succ] at h
    have h2 := Nat.two_pow_pos k
    have h3 : bit x k = 0 := by
      rcases bit_01 x k with h4 | h4
      · exact h4
      · rw [h4] at h; omega
    simp only [ones]
    rw [zero_ones x k (by omega), h3]

/-- One digit set: a power of two. -/
theorem ones_one (x : Nat) : ∀ k, ones x k = 1 → ∃ j, j < k ∧ x % 2 ^ k = 2 ^ j
  | 0, h => by simp [ones] at h
  | k + 1, h => by
    simp only [ones] at h
    rcases bit_01 x k with h1 | h1
    · obtain ⟨j, hj, e⟩ := ones_one x k (by omega)
      exact ⟨j, by omega, by rw [mod_succ, h1, e]; simp⟩
    · exact ⟨k, by omega, by rw [mod_succ, h1, ones_zero x k (by omega)]; simp⟩

theorem ones_pow (j k : Nat) (h : j < k) : ones (2 ^ j) k = 1 := by
  induction k with
  | zero => omega
  | succ k ih =>
    simp only [ones]
    by_cases hj : j < k
    · rw [ih hj]
      have : bit (2 ^ j) k = 0 := by
        unfold bit; rw [Nat.div_eq_of_lt (Nat.pow_lt_pow_right (by decide) hj)]
      rw [this]
    · obtain rfl : j = k := by omega
      have h1 : ones (2 ^ j) j = 0 := zero_ones _ _ (Nat.mod_self _)
      have h2 : bit (2 ^ j) j = 1 := by unfold bit; rw [Nat.div_self (Nat.two_pow_pos j)]
      rw [h1, h2]

theorem power (x : Nat) (hx : x < 18446744073709551616) (h : ones x 64 = 1) : ∃ j, j < 64 ∧ x = 2 ^ j := by
  obtain ⟨j, hj, e⟩ := ones_one x 64 h
  exact ⟨j, hj, by rw [← e]; exact (Nat.mod_eq_of_lt (by simpa using hx)).symm⟩

/-- Clearing the bits below a power: what is left is the multiple. -/
theorem clear_low (x j : Nat) (hx : x < 18446744073709551616) (hj : j < 64) : x &&& (18446744073709551615 - (2 ^ j - 1)) = x - x % 2 ^ j := by
  have hp : 2 ^ j < 2 ^ 64 := Nat.pow_lt_pow_right (by decide) hj
  have hm := Nat.mod_le x (2 ^ j)
  have e : x - x % 2 ^ j = x / 2 ^ j * 2 ^ j := by
    have := Nat.div_add_mod x (2 ^ j)
    rw [Nat.mul_comm] at this; omega
  rw [e]
  apply Nat.eq_of_testBit_eq
  intro i
  rw [Nat.testBit_and, comp_testBit _ _ (by have := Nat.two_pow_pos j; simp at hp; omega), Nat.testBit_two_pow_sub_one, Nat.mul_comm, Nat.testBit_two_pow_mul, Nat.testBit_div_two_pow]
  by_cases h1 : i < j
  · simp [h1]; omega
  · by_cases h2 : i < 64
    · simp [h1, h2]; rw [show i - j + j = i by omega]; simp; omega
    · simp [h1, testBit_big x i hx (by omega)]; rw [show i - j + j = i by omega, testBit_big x i hx (by omega)]; simp

/-- Rounding down, and the next multiple. -/
def down (x to : Nat) : Nat := x - x % to
def up (x to : Nat) : Nat := if x % to = 0 then x else down x to + to

theorem down_clear (x to : Nat) (hx : x < 18446744073709551616) (ht : to < 18446744073709551616) (h : ones to 64 = 1) : x &&& (18446744073709551615 - (to - 1)) = down x to := by
  obtain ⟨j, hj, rfl⟩ := power to ht h
  exact clear_low x j hx hj

theorem pos (to : Nat) (ht : to < 18446744073709551616) (h : ones to 64 = 1) : 0 < to := by
  obtain ⟨j, hj, rfl⟩ := power to ht h
  exact Nat.two_pow_pos j

theorem down_le (x to : Nat) : down x to ≤ x := Nat.sub_le _ _

theorem down_self (x to : Nat) (h : x % to = 0) : down x to = x := by unfold down; omega
theorem down_ne (x to : Nat) (h : x % to ≠ 0) : down x to ≠ x := by
  have := Nat.mod_le x to
  unfold down; omega

theorem down_next (x to : Nat) (ht : to < 18446744073709551616) (h : ones to 64 = 1) (hx : x < 18446744073709551616) : down x to + to ≤ 18446744073709551616 := by
  obtain ⟨j, hj, rfl⟩ := power to ht h
  have h1 : 18446744073709551616 = 2 ^ (64 - j) * 2 ^ j := by rw [← Nat.pow_add, show 64 - j + j = 64 by omega]
  have h2 : down x (2 ^ j) = x / 2 ^ j * 2 ^ j := by
    have := Nat.div_add_mod x (2 ^ j)
    rw [Nat.mul_comm] at this; unfold down; omega
  have h3 : x / 2 ^ j < 2 ^ (64 - j) := by rw [Nat.div_lt_iff_lt_mul (Nat.two_pow_pos j), ← h1]; exact hx
  rw [h2, h1]
  calc x / 2 ^ j * 2 ^ j + 2 ^ j = (x / 2 ^ j + 1) * 2 ^ j := by rw [Nat.add_mul, Nat.one_mul]
    _ ≤ 2 ^ (64 - j) * 2 ^ j := Nat.mul_le_mul_right _ h3

end WM
end Go.Proofs.YthdohimjcjkneaaGreatDoor

/- Plain facts about addresses' places and the words of page tables' entries. No program in sight. -/
namespace Go.Proofs.YthdohimjcjkneaaGreatDoor
namespace EN

/-! Places of an address. -/
/-- How far apart the addresses of a level's neighbours are. -/
def sz (k : Nat) : Nat := 4096 * 512 ^ k
def idx (va l : Nat) : Nat := va / sz (l - 1) % 512

theorem sz_succ (k : Nat) : sz (k + 1) = sz k * 512 := by unfold sz; rw [Nat.pow_succ, Nat.mul_assoc]
theorem sz_pos (k : Nat) : 0 < sz k := Nat.mul_pos (by decide) (Nat.pow_pos (by decide))
theorem sz_le (k : Nat) (h : k ≤ 4) : sz k ≤ 281474976710656 := by
  rcases (by omega : k = 0 ∨ k = 1 ∨ k = 2 ∨ k = 3 ∨ k = 4) with rfl | rfl | rfl | rfl | rfl <;> decide
theorem idx_lt (va l : Nat) : idx va l < 512 := Nat.mod_lt _ (by decide)
theorem idx_take (va l : Nat) (h1 : 1 ≤ l) (h4 : l ≤ 4) : WM.take va (12 + 9 * (l - 1)) 9 = idx va l := by
  unfold WM.take idx
  rcases (by omega : l = 1 ∨ l = 2 ∨ l = 3 ∨ l = 4) with rfl | rfl | rfl | rfl <;> rfl
/-- The sum of the places below a level. -/
def low (va k : Nat) : Nat := va % sz k
theorem low_succ (va k : Nat) : low va (k + 1) = low va k + idx va (k + 1) * sz k := by
  unfold low idx
  rw [sz_succ, Nat.mod_mul, show k + 1 - 1 = k by omega, Nat.mul_comm (sz k)]
theorem low_lt (va k : Nat) : low va k < sz k := Nat.mod_lt _ (sz_pos k)
theorem low_all (va : Nat) (h : va < 140737488355328) : low va 4 = va := by
  unfold low; exact Nat.mod_eq_of_lt (Nat.lt_trans h (by decide))
theorem low_zero (va : Nat) : low va 0 = va % 4096 := rfl
theorem div_sz (va k : Nat) : va / 512 ^ k / 4096 = va / sz k := by
  unfold sz; rw [Nat.div_div_eq_div_mul, Nat.mul_comm]
theorem div_succ (va k : Nat) : va / 512 ^ k / 512 = va / 512 ^ (k + 1) := by
  rw [Nat.div_div_eq_div_mul, Nat.pow_succ]

/-! Words of entries. -/
def perms (P : Int) : Prop := P = 1 ∨ P = 3 ∨ P = 5 ∨ P = 7
/-- A valid entry at a level. -/
def right (T H : Bool) (P : Int) (F : Nat) (L : Int) : Prop :=
  1 ≤ L ∧ L ≤ 4 ∧ F < 68719476736 ∧ ((T = true ∧ 2 ≤ L ∧ H = false ∧ P = 7) ∨ (T = false ∧ perms P ∧ ((H = false ∧ L = 1) ∨ (H = true ∧ L = 2 ∧ F % 512 = 0))))
/-- Its word. -/
def wd (H : Bool) (P : Int) (F : Nat) : Nat :=
  5 + 4096 * F + (if P = 3 ∨ P = 7 then 2 else 0) + (if H = true then 128 else 0) + (if P < 4 then 9223372036854775808 else 0)
def perm (w : Nat) : Int := 1 + (if w / 2 % 2 = 1 then 2 else 0) + (if w / 9223372036854775808 = 0 then 4 else 0)
def frame (w : Nat) : Nat := w / 4096 % 68719476736
def page (w : Nat) : Bool := decide (w % 2 = 1 ∧ w / 4 % 1024 = 1 ∧ w / 281474976710656 % 32768 = 0)
def huge (w : Nat) : Bool := decide (w % 2 = 1 ∧ w / 4 % 524288 = 33 ∧ w / 281474976710656 % 32768 = 0)
def table (w : Nat) : Bool := decide (w % 4096 = 7 ∧ w / 281474976710656 = 0)
/-- The entry that a word says at a level. -/
def rd (w : Nat) (L : Int) : Option (Bool × Bool × Int × Nat) :=
  if L = 1 ∧ page w = true then some (false, false, perm w, frame w)
  else if L = 2 ∧ huge w = true then some (false, true, perm w, frame w)
  else if (2 ≤ L ∧ L ≤ 4) ∧ table w = true then some (true, false, perm w, frame w)
  else none

theorem frame_lt (w : Nat) : frame w < 68719476736 := Nat.mod_lt _ (by decide)
theorem perm_perms (w : Nat) : perms (perm w) := by unfold perm perms; split <;> split <;> omega

theorem and_peel (n a b c d : Nat) (ha : a < 2 ^ n) (hc : c < 2 ^ n) : (a + 2 ^ n * b) &&& (c + 2 ^ n * d) = (a &&& c) + 2 ^ n * (b &&& d) := by
  have hac : a &&& c < 2 ^ n := Nat.and_lt_two_pow _ hc
  apply Nat.eq_of_testBit_eq
  intro i
  rw [Nat.add_comm a, Nat.add_comm c, Nat.add_comm (a &&& c), Nat.testBit_and, Nat.testBit_two_pow_mul_add _ ha, Nat.testBit_two_pow_mul_add _ hc, Nat.testBit_two_pow_mul_add _ hac]
  by_cases h : i < n
  · rw [if_pos h, if_pos h, if_pos h, Nat.testBit_and]
  · rw [if_neg h, if_neg h, if_neg h, Nat.testBit_and]
theorem and_full (n x : Nat) : x &&& (2 ^ n - 1) = x % 2 ^ n := Nat.and_two_pow_sub_one_eq_mod x n

theorem page_and (w : Nat) (hw : w < 18446744073709551616) : w &&& 9223090561878069245 = 5 ↔ page w = true := by
  have e : w = w % 2 + 2 ^ 1 * (w / 2 % 2 + 2 ^ 1 * (w / 4 % 1024 + 2 ^ 10 * (w / 4096 % 68719476736 + 2 ^ 36 * (w / 281474976710656 % 32768 + 2 ^ 15 * (w / 9223372036854775808))))) := by omega
  have m : 9223090561878069245 = (2 ^ 1 - 1) + 2 ^ 1 * (0 + 2 ^ 1 * ((2 ^ 10 - 1) + 2 ^ 10 * (0 + 2 ^ 36 * ((2 ^ 15 - 1) + 2 ^ 15 * 0)))) := by decide
  have h : w &&& 9223090561878069245 = w % 2 + 2 * (0 + 2 * (w / 4 % 1024 + 1024 * (0 + 68719476736 * (w / 281474976710656 % 32768 + 32768 * 0)))) := by
    conv => lhs; rw [e, m]
    rw [and_peel _ _ _ _ _ (by omega) (by decide), and_peel _ _ _ _ _ (by omega) (by decide), and_peel _ _ _ _ _ (by omega) (by decide), and_peel _ _ _ _ _ (by omega) (by decide), and_peel _ _ _ _ _ (by omega) (by decide),
      and_full, and_full, and_full, Nat.and_zero, Nat.and_zero, Nat.and_zero]
    omega
  rw [h]
  unfold page
  rw [decide_eq_true_iff]
  omega

theorem huge_and (w : Nat) (hw : w < 18446744073709551616) : w &&& 9223090561880162301 = 133 ↔ huge w = true := by
  have e : w = w % 2 + 2 ^ 1 * (w / 2 % 2 + 2 ^ 1 * (w / 4 % 524288 + 2 ^ 19 * (w / 2097152 % 134217728 + 2 ^ 27 * (w / 281474976710656 % 32768 + 2 ^ 15 * (w / 9223372036854775808))))) := by omega
  have m : 9223090561880162301 = (2 ^ 1 - 1) + 2 ^ 1 * (0 + 2 ^ 1 * ((2 ^ 19 - 1) + 2 ^ 19 * (0 + 2 ^ 27 * ((2 ^ 15 - 1) + 2 ^ 15 * 0)))) := by decide
  have h : w &&& 9223090561880162301 = w % 2 + 2 * (0 + 2 * (w / 4 % 524288 + 524288 * (0 + 134217728 * (w / 281474976710656 % 32768 + 32768 * 0)))) := by
    conv => lhs; rw [e, m]
    rw [and_peel _ _ _ _ _ (by omega) (by decide), and_peel _ _ _ _ _ (by omega) (by decide), and_peel _ _ _ _ _ (by omega) (by decide), and_peel _ _ _ _ _ (by omega) (by decide), and_peel _ _ _ _ _ (by omega) (by decide),
      and_full, and_full, and_full, Nat.and_zero, Nat.and_zero, Nat.and_zero]
    omega
  rw [h]
  unfold huge
  rw [decide_eq_true_iff]
  omega

theorem table_and (w : Nat) (hw : w < 18446744073709551616) : w &&& 18446462598732845055 = 7 ↔ table w = true := by
  have e : w = w % 4096 + 2 ^ 12 * (w / 4096 % 68719476736 + 2 ^ 36 * (w / 281474976710656)) := by omega
  have m : 18446462598732845055 = (2 ^ 12 - 1) + 2 ^ 12 * (0 + 2 ^ 36 * (2 ^ 16 - 1)) := by decide
  have h : w &&& 18446462598732845055 = w % 4096 + 4096 * (0 + 68719476736 * (w / 281474976710656)) := by
    conv => lhs; rw [e, m]
    rw [and_peel _ _ _ _ _ (by omega) (by decide), and_peel _ _ _ _ _ (by omega) (by decide), and_full, and_full, Nat.and_zero]
    omega
  rw [h]
  unfold table
  rw [decide_eq_true_iff]
  omega

/-- What a word says is a valid entry, and the word is that entry's. -/
theorem rd_right {w : Nat} {L : Int} {T H : Bool} {P : Int} {F : Nat} (hw : w < 18446744073709551616) (h : rd w L = some (T, H, P, F)) : right T H P F L ∧ wd H P F = w := by
  have hp := perm_perms w
  have hf := frame_lt w
  unfold rd at h
  by_cases c1 : L = 1 ∧ page w = true
  · rw [if_pos c1] at h
    simp only [Option.some.injEq, Prod.mk.injEq] at h
    obtain ⟨rfl, rfl, rfl, rfl⟩ := h
    obtain ⟨cl, cp⟩ := c1
    refine ⟨⟨by omega, by omega, hf, .inr ⟨rfl, hp, .inl ⟨rfl, cl⟩⟩⟩, ?_⟩
    unfold page at cp
    rw [decide_eq_true_iff] at cp
    unfold wd perm frame
    rw [if_neg (by decide : ¬ (false = true))]
    split <;> split <;> split <;> split <;> omega
  · rw [if_neg c1] at h
    by_cases c2 : L = 2 ∧ huge w = true
    · rw [if_pos c2] at h
      simp only [Option.some.injEq, Prod.mk.injEq] at h
      obtain ⟨rfl, rfl, rfl, rfl⟩ := h
      obtain ⟨cl, cp⟩ := c2
      unfold huge at cp
      rw [decide_eq_true_iff] at cp
      refine ⟨⟨by omega, by omega, hf, .inr ⟨rfl, hp, .inr ⟨rfl, cl, by unfold frame; omega⟩⟩⟩, ?_⟩
      unfold wd perm frame
      rw [if_pos rfl]
      split <;> split <;> split <;> split <;> omega
    · rw [if_neg c2] at h
      by_cases c3 : (2 ≤ L ∧ L ≤ 4) ∧ table w = true
      · rw [if_pos c3] at h
        simp only [Option.some.injEq, Prod.mk.injEq] at h
        obtain ⟨rfl, rfl, rfl, rfl⟩ := h
        obtain ⟨cl, cp⟩ := c3
        unfold table at cp
        rw [decide_eq_true_iff] at cp
        have hp7 : perm w = 7 := by unfold perm; rw [if_pos (by omega), if_pos (by omega)]; rfl
        refine ⟨⟨by omega, by omega, hf, .inl ⟨rfl, cl.1, rfl, hp7⟩⟩, ?_⟩
        rw [hp7]
        unfold wd frame
        rw [if_pos (by decide), if_neg (by decide), if_neg (by decide)]
        omega
      · rw [if_neg c3] at h
        cases h

theorem wd_lt (H : Bool) (P : Int) (F : Nat) (hF : F < 68719476736) : wd H P F < 18446744073709551616 := by
  unfold wd; split <;> split <;> split <;> omega

/-- A valid entry's word says it. -/
theorem right_rd {T H : Bool} {P : Int} {F : Nat} {L : Int} (h : right T H P F L) : rd (wd H P F) L = some (T, H, P, F) := by
  obtain ⟨h1, h4, hF, h⟩ := h
  rcases h with ⟨rfl, h2, rfl, rfl⟩ | ⟨rfl, hp, h⟩
  · have e : wd false 7 F = 7 + 4096 * F := by unfold wd; rw [if_pos (by decide), if_neg (by decide), if_neg (by decide)]; omega
    rw [e]
    have ht : table (7 + 4096 * F) = true := by unfold table; rw [decide_eq_true_iff]; omega
    have hh : ¬ (L = 2 ∧ huge (7 + 4096 * F) = true) := by unfold huge; rw [decide_eq_true_iff]; omega
    unfold rd
    rw [if_neg (by omega), if_neg hh, if_pos ⟨⟨h2, h4⟩, ht⟩]
    have e1 : perm (7 + 4096 * F) = 7 := by unfold perm; rw [if_pos (by omega), if_pos (by omega)]; rfl
    have e2 : frame (7 + 4096 * F) = F := by unfold frame; omega
    rw [e1, e2]
  · obtain ⟨b, c, hb, hc, hP, e⟩ : ∃ b c : Nat, b < 2 ∧ c < 2 ∧ P = 1 + 2 * b + 4 * (1 - c) ∧ ∀ H : Bool, wd H P F = 5 + 2 * b + (if H = true then 128 else 0) + 4096 * F + 9223372036854775808 * c := by
      rcases hp with rfl | rfl | rfl | rfl
      · exact ⟨0, 1, by decide, by decide, by decide, fun H => by unfold wd; rw [if_neg (by decide), if_pos (by decide : (1 : Int) < 4)]; omega⟩
      · exact ⟨1, 1, by decide, by decide, by decide, fun H => by unfold wd; rw [if_pos (by decide : (3 : Int) = 3 ∨ (3 : Int) = 7), if_pos (by decide : (3 : Int) < 4)]; omega⟩
      · exact ⟨0, 0, by decide, by decide, by decide, fun H => by unfold wd; rw [if_neg (by decide), if_neg (by decide : ¬ (5 : Int) < 4)]; omega⟩
      · exact ⟨1, 0, by decide, by decide, by decide, fun H => by unfold wd; rw [if_pos (by decide : (7 : Int) = 3 ∨ (7 : Int) = 7), if_neg (by decide : ¬ (7 : Int) < 4)]; omega⟩
    rw [e]
    rcases h with ⟨rfl, rfl⟩ | ⟨rfl, rfl, h5⟩
    · rw [if_neg (by decide)]
      have hpg : page (5 + 2 * b + 0 + 4096 * F + 9223372036854775808 * c) = true := by unfold page; rw [decide_eq_true_iff]; omega
      unfold rd
      rw [if_pos ⟨rfl, hpg⟩]
      have e1 : perm (5 + 2 * b + 0 + 4096 * F + 9223372036854775808 * c) = P := by unfold perm; split <;> split <;> omega
      have e2 : frame (5 + 2 * b + 0 + 4096 * F + 9223372036854775808 * c) = F := by unfold frame; omega
      rw [e1, e2]
    · rw [if_pos rfl]
      have hpg : huge (5 + 2 * b + 128 + 4096 * F + 9223372036854775808 * c) = true := by unfold huge; rw [decide_eq_true_iff]; omega
      unfold rd
      rw [if_neg (by omega), if_pos ⟨rfl, hpg⟩]
      have e1 : perm (5 + 2 * b + 128 + 4096 * F + 9223372036854775808 * c) = P := by unfold perm; split <;> split <;> omega
      have e2 : frame (5 + 2 * b + 128 + 4096 * F + 9223372036854775808 * c) = F := by unfold frame; omega
      rw [e1, e2]

theorem rd_wd (T H : Bool) (P : Int) (F : Nat) (L : Int) (w : Nat) (hw : w < 18446744073709551616) (h : rd w L = some (T, H, P, F)) : wd H P F = w := (rd_right hw h).2
theorem wd_pos (H : Bool) (P : Int) (F : Nat) : 5 ≤ wd H P F := by unfold wd; omega

theorem or_peel (n a b c d : Nat) (ha : a < 2 ^ n) (hc : c < 2 ^ n) : (a + 2 ^ n * b) ||| (c + 2 ^ n * d) = (a ||| c) + 2 ^ n * (b ||| d) := by
  have hac : a ||| c < 2 ^ n := Nat.or_lt_two_pow ha hc
  apply Nat.eq_of_testBit_eq
  intro i
  rw [Nat.add_comm a, Nat.add_comm c, Nat.add_comm (a ||| c), Nat.testBit_or, Nat.testBit_two_pow_mul_add _ ha, Nat.testBit_two_pow_mul_add _ hc, Nat.testBit_two_pow_mul_add _ hac]
  by_cases h : i < n
  · rw [if_pos h, if_pos h, if_pos h, Nat.testBit_or]
  · rw [if_neg h, if_neg h, if_neg h, Nat.testBit_or]
/-- A frame laid between low bits and high ones. -/
theorem put_frame (a c F : Nat) (ha : a < 4096) (hc : c < 2) (hF : F < 68719476736) : WM.put (a + 9223372036854775808 * c) 12 36 F = a + 4096 * F + 9223372036854775808 * c := by
  unfold WM.put WM.mask
  have e1 : (a + 9223372036854775808 * c) &&& (18446744073709551615 - (2 ^ 36 - 1) * 2 ^ 12) = a + 9223372036854775808 * c := by
    conv => lhs; rw [show a + 9223372036854775808 * c = a + 2 ^ 12 * (0 + 2 ^ 36 * (32768 * c)) by omega, show 18446744073709551615 - (2 ^ 36 - 1) * 2 ^ 12 = (2 ^ 12 - 1) + 2 ^ 12 * (0 + 2 ^ 36 * (2 ^ 16 - 1)) by decide]
    rw [and_peel _ _ _ _ _ (by omega) (by decide), and_peel _ _ _ _ _ (by decide) (by decide), and_full, and_full, Nat.zero_and]
    omega
  rw [e1]
  conv => lhs; rw [show a + 9223372036854775808 * c = a + 2 ^ 12 * (0 + 2 ^ 36 * (32768 * c)) by omega, show F * 2 ^ 12 = 0 + 2 ^ 12 * (F + 2 ^ 36 * 0) by omega]
  rw [or_peel _ _ _ _ _ (by omega) (by decide), or_peel _ _ _ _ _ (by decide) (by omega), Nat.or_zero, Nat.or_zero, Nat.zero_or]
  omega

/-- The entry that the document tries. -/
def cand (w : Nat) (L : Int) : Bool × Bool × Int × Nat := (decide (2 ≤ L) && !decide (w / 128 % 2 = 1), decide (w / 128 % 2 = 1), perm w, frame w)
theorem rd_cand {w : Nat} {L : Int} {x : Bool × Bool × Int × Nat} (h : rd w L = some x) : x = cand w L := by
  unfold rd at h
  unfold cand
  by_cases c1 : L = 1 ∧ page w = true
  · rw [if_pos c1] at h
    obtain ⟨rfl, cp⟩ := c1
    unfold page at cp
    rw [decide_eq_true_iff] at cp
    rw [← Option.some.inj h, decide_eq_false (by omega : ¬ w / 128 % 2 = 1)]
    rfl
  · rw [if_neg c1] at h
    by_cases c2 : L = 2 ∧ huge w = true
    · rw [if_pos c2] at h
      obtain ⟨rfl, cp⟩ := c2
      unfold huge at cp
      rw [decide_eq_true_iff] at cp
      rw [← Option.some.inj h, decide_eq_true (by omega : w / 128 % 2 = 1)]
      rfl
    · rw [if_neg c2] at h
      by_cases c3 : (2 ≤ L ∧ L ≤ 4) ∧ table w = true
      · rw [if_pos c3] at h
        obtain ⟨cl, cp⟩ := c3
        unfold table at cp
        rw [decide_eq_true_iff] at cp
        rw [← Option.some.inj h, decide_eq_false (by omega : ¬ w / 128 % 2 = 1), decide_eq_true cl.1]
        rfl
      · rw [if_neg c3] at h
        cases h

end EN
end Go.Proofs.YthdohimjcjkneaaGreatDoor

/- Page tables, on plain numbers: tables by level and place, pages by level and place, words. -/
namespace Go.Proofs.YthdohimjcjkneaaGreatDoor
namespace RX
set_option linter.unusedVariables false

/-- Tables: level, place, frame. Pages: level (1 or 2), place, frame and permissions. -/
abbrev Tabs := Nat → Nat → Option Nat
abbrev Pags := Nat → Nat → Option (Nat × Int)

/-- The word that describes place c at level l. -/
def word (F : Tabs) (G : Pags) (l c : Nat) : Nat :=
  match F (l - 1) c with
  | some f => EN.wd false 7 f
  | none => match G l c with
    | some (f, p) => EN.wd (decide (l = 2)) p f
    | none => 0
/-- What it says. -/
def ent (F : Tabs) (G : Pags) (l c : Nat) : Bool × Bool × Int × Nat :=
  match F (l - 1) c with
  | some f => (true, false, 7, f)
  | none => match G l c with
    | some (f, p) => (false, decide (l = 2), p, f)
    | none => (false, false, 0, 0)
def pres (F : Tabs) (G : Pags) (l c : Nat) : Bool := (F (l - 1) c).isSome || (G l c).isSome

structure Inv (F : Tabs) (G : Pags) (r n : Nat) : Prop where
  n2 : n ≤ 65536
  root : F 4 0 = some r
  lev : ∀ {l j f}, F l j = some f → 1 ≤ l ∧ l ≤ 4 ∧ (l = 4 → j = 0) ∧ f < n
  inj : ∀ {l j l' j' f}, F l j = some f → F l' j' = some f → l = l' ∧ j = j'
  page : ∀ {k c f p}, G k c = some (f, p) → 1 ≤ k ∧ k ≤ 2 ∧ EN.right false (decide (k = 2)) p f k ∧ c * EN.sz (k - 1) < 140737488355328
  up : ∀ {l j f}, F l j = some f → l ≤ 3 → ∃ f', F (l + 1) (j / 512) = some f'
  way : ∀ {k c x}, G k c = some x → ∃ f', F k (c / 512) = some f'
  apart : ∀ {c x}, G 2 c = some x → F 1 c = none

/-- What is in memory is that. -/
structure Rep (M : Nat → Option (Nat → Nat)) (F : Tabs) (G : Pags) : Prop where
  yes : ∀ {l j f}, F l j = some f → ∃ ws, M f = some ws ∧ ∀ i, i < 512 → ws i = word F G l (512 * j + i)
  no : ∀ {f}, (∀ l j, F l j ≠ some f) → M f = none

/-- Every table but the root has a word. -/
def Used (F : Tabs) (G : Pags) : Prop := ∀ l j f, F l j = some f → l ≤ 3 → ∃ i, i < 512 ∧ pres F G l (512 * j + i) = true

theorem at_sz (va l : Nat) (h : 1 ≤ l) : 512 * (va / EN.sz l) + EN.idx va l = va / EN.sz (l - 1) := by
  obtain ⟨k, rfl⟩ : ∃ k, l = k + 1 := ⟨l - 1, by omega⟩
  unfold EN.idx
  rw [Nat.add_sub_cancel, EN.sz_succ, ← Nat.div_div_eq_div_mul]
  omega
theorem sz_down (va l : Nat) (h : 1 ≤ l) : va / EN.sz (l - 1) / 512 = va / EN.sz l := by
  obtain ⟨k, rfl⟩ : ∃ k, l = k + 1 := ⟨l - 1, by omega⟩
  rw [Nat.add_sub_cancel, EN.sz_succ, ← Nat.div_div_eq_div_mul]
theorem top_zero (va : Nat) (h : va < 140737488355328) : va / EN.sz 4 = 0 := Nat.div_eq_of_lt (by unfold EN.sz; omega)

section
variable {F : Tabs} {G : Pags} {r n : Nat}

theorem word_rd (I : Inv F G r n) {l c f0 : Nat} (h0 : F l (c / 512) = some f0) :
    (pres F G l c = true → EN.rd (word F G l c) (l : Int) = some (ent F G l c)) ∧ (pres F G l c = false → word F G l c = 0 ∧ ent F G l c = (false, false, 0, 0)) ∧ word F G l c < 18446744073709551616 := by
  have hl := I.lev h0
  unfold word ent pres
  cases h1 : F (l - 1) c with
  | some f =>
    have h2 := I.lev h1
    have hn := I.n2
    have hr : EN.right true false 7 f (l : Int) := ⟨by omega, by omega, by omega, .inl ⟨rfl, by omega, rfl, rfl⟩⟩
    exact ⟨fun _ => EN.right_rd hr, fun h => by simp at h, EN.wd_lt _ _ _ (by omega)⟩
  | none =>
    cases h2 : G l c with
    | some x =>
      obtain ⟨f, p⟩ := x
      have h3 := I.page h2
      exact ⟨fun _ => EN.right_rd h3.2.2.1, fun h => by simp at h, EN.wd_lt _ _ _ h3.2.2.1.2.2.1⟩
    | none => exact ⟨fun h => by simp at h, fun _ => ⟨rfl, rfl⟩, by simp⟩

theorem word_zero (I : Inv F G r n) {l c : Nat} : word F G l c = 0 ↔ pres F G l c = false := by
  unfold word pres
  cases h1 : F (l - 1) c with
  | some f => have := EN.wd_pos false 7 f; simp; omega
  | none =>
    cases h2 : G l c with
    | some x => obtain ⟨f, p⟩ := x; have := EN.wd_pos (decide (l = 2)) p f; simp; omega
    | none => simp

/-- The frames of the tables on the way to va, down to level L. -/
structure Way (F : Tabs) (va L : Nat) (fr : Nat → Nat) : Prop where
  l1 : 1 ≤ L
  l4 : L ≤ 4
  on : ∀ k, L ≤ k → k ≤ 4 → F k (va / EN.sz k) = some (fr k)
  off : ∀ k, k < L ∨ 4 < k → fr k = 0
/-- A search that may go down to level lo ends at L. -/
structure Desc (F : Tabs) (va lo L : Nat) (fr : Nat → Nat) : Prop extends Way F va L fr where
  ge : lo ≤ L
  stop : L = lo ∨ F (L - 1) (va / EN.sz (L - 1)) = none

theorem desc_from (I : Inv F G r n) (va lo : Nat) (h1 : 1 ≤ lo) : ∀ (d L : Nat) (fr : Nat → Nat), L = lo + d → Way F va L fr → ∃ L fr, Desc F va lo L fr
  | 0, L, fr, e, h => ⟨L, fr, h, by omega, .inl (by omega)⟩
  | d + 1, L, fr, e, h => by
    cases hF : F (L - 1) (va / EN.sz (L - 1)) with
    | none => exact ⟨L, fr, h, by omega, .inr hF⟩
    | some f =>
      have := h.l4
      refine desc_from I va lo h1 d (L - 1) (fun k => if k = L - 1 then f else fr k) (by omega) ⟨by omega, by omega, fun k hk1 hk2 => ?_, fun k hk => ?_⟩
      · by_cases e2 : k = L - 1
        · simp only [if_pos e2]; rw [e2]; exact hF
        · simp only [if_neg e2]; exact h.on k (by omega) hk2
      · rw [if_neg (by omega)]; exact h.off k (by omega)
theorem way_root (I : Inv F G r n) (va : Nat) (hva : va < 140737488355328) : Way F va 4 (fun k => if k = 4 then r else 0) := by
  refine ⟨by omega, by omega, fun k h1 h2 => ?_, fun k hk => ?_⟩
  · obtain rfl : k = 4 := by omega
    rw [top_zero va hva]; exact I.root
  · rw [if_neg (by omega)]
theorem desc_some (I : Inv F G r n) (va lo : Nat) (hva : va < 140737488355328) (h1 : 1 ≤ lo) (h4 : lo ≤ 4) : ∃ L fr, Desc F va lo L fr :=
  desc_from I va lo h1 (4 - lo) 4 _ (by omega) (way_root I va hva)

/-- The word at the level where one stands. -/
theorem Way.word {va L : Nat} {fr : Nat → Nat} (h : Way F va L fr) {M : Nat → Option (Nat → Nat)} (R : Rep M F G) (k : Nat) (h1 : L ≤ k) (h2 : k ≤ 4) :
    ∃ ws, M (fr k) = some ws ∧ ws (EN.idx va k) = RX.word F G k (va / EN.sz (k - 1)) := by
  obtain ⟨ws, hM, hw⟩ := R.yes (h.on k h1 h2)
  have := h.l1
  refine ⟨ws, hM, ?_⟩
  rw [hw _ (EN.idx_lt va k), at_sz va k (by omega)]
theorem Way.lt (I : Inv F G r n) {va L : Nat} {fr : Nat → Nat} (h : Way F va L fr) (k : Nat) : fr k < 65536 := by
  have := I.n2
  by_cases hk : L ≤ k ∧ k ≤ 4
  · have := (I.lev (h.on k hk.1 hk.2)).2.2.2; omega
  · rw [h.off k (by omega)]; omega
end
end RX
end Go.Proofs.YthdohimjcjkneaaGreatDoor

/- Small words that the texts of all layers share: a fact hidden from the walk, results that are equations, what is known of the elements of slices. -/
namespace Go.Proofs.YthdohimjcjkneaaGreatDoor
open Go.ChangeShapes Go.WideShapes Go.ChangeAt Go.RowKit

theorem W_hid {p : Prop} (h : p) : Hid p := h
theorem ret_int {k : IntKind} {a b : Int} (h : a = b) : Ending.returned (.int k a) = .returned (.int k b) := by rw [h]
theorem ret_bool {a b : Bool} (h : a = b) : Ending.returned (.bool a) = .returned (.bool b) := by rw [h]
theorem ret_i64 {a b : Int} (h : a = b) : Ending.returned (.int .i64 a) = .returned (.int .i64 b) := by rw [h]
theorem ret_u64 {a b : Int} (h : a = b) : Ending.returned (.int .u64 a) = .returned (.int .u64 b) := by rw [h]
theorem info_byte : (Tryz.prog.info? 5).map (fun i => (i.zero, i.size, i.bytes)) = some (some (.int .u8 0), 1, 1) := by kernel_rfl

theorem own_ge {w : World} {base e size n : Nat} {v : Value} {xs : List Value} (hown : w.ownsRow base e size v n xs) (g : Nat) (hg : v.ownBlock = some g) : base ≤ g := by
  rcases hown.2 with ⟨rfl, _⟩ | ⟨g', cap, cur, rfl, hb, _⟩
  · cases hg
  · cases hg; exact hb
theorem own_base {w : World} {base base' e size : Nat} {v : Value} {n : Nat} {xs : List Value} (h : base' ≤ base) (hown : w.ownsRow base e size v n xs) : w.ownsRow base' e size v n xs := by
  rcases hown.2 with h0 | ⟨g, cap, cur, h1, h2, h3⟩
  · exact ⟨hown.1, .inl h0⟩
  · exact ⟨hown.1, .inr ⟨g, cap, cur, h1, Nat.le_trans h h2, h3⟩⟩

end Go.Proofs.YthdohimjcjkneaaGreatDoor

/- Blocks of memory known whole (Blk), what a call leaves that writes into two blocks at most (Two), rows that make lays, a slice of integers that came in; free of any program's numbers. -/
namespace Go.Proofs.YthdohimjcjkneaaGreatDoor
open Go.ChangeShapes Go.WideShapes Go.ChangeAt Go.RowKit
set_option linter.unusedVariables false
set_option linter.unusedSimpArgs false

theorem laidOut : laidOutB Tryz.prog = true := by kernel_rfl
theorem cell_lt {w : World} {p : Addr} {v : Value} (h : w.cell? p = some v) : p.block < w.heap.size := World.block_lt_of_cell? w p h
theorem bundrew {B : Nat} {w w' : World} (h : Below B w.drew w') : Below B w w' := ⟨h.os, h.tape, h.output, h.size, h.block⟩

/-- Block g is these cells. -/
def Blk (w : World) (g : Nat) (e : TypeId) (l : List Value) : Prop := w.heap[g]? = some (.cells l.toArray e (0, 0))

section
variable {w w' : World} {g : Nat} {e : TypeId} {l : List Value}
theorem Blk.cell (h : Blk w g e l) {j : Nat} {v : Value} (hj : l[j]? = some v) : w.cell? ⟨g, j, none⟩ = some v := by
  rw [cell_of_row w g j _ _ _ h]; simpa using hj
theorem Blk.fz (h : Blk w g e l) (i : Nat) : w.frozen? ⟨g, i, none⟩ = false := by unfold Blk at h; simp [World.frozen?, h]
theorem Blk.lt (h : Blk w g e l) : g < w.heap.size := by
  rcases Nat.lt_or_ge g w.heap.size with hlt | hge
  · exact hlt
  · unfold Blk at h; rw [Array.getElem?_eq_none hge] at h; cases h
theorem Blk.below {B : Nat} (h : Blk w g e l) (hb : Below B w w') (hg : g < B) : Blk w' g e l := (hb.block g hg).trans h
theorem Blk.keep (h : Blk w g e l) (hb : Below w.heap.size w w') : Blk w' g e l := h.below hb h.lt
theorem Blk.alloc (h : Blk w g e l) (o : Obj) : Blk (w.alloc o) g e l := (Below.heap_alloc w o g h.lt).trans h
theorem Blk.grown {row : Option Nat} (h : Blk w g e l) (hb : w.grownBy w' row) (hg : some g ≠ row) : Blk w' g e l := (hb.block g h.lt hg).trans h
theorem Blk.far (h : Blk w g e l) {p : Addr} (hp : g ≠ p.block) (u : Value) : Blk (w.setCell p u) g e l := (Below.heap_setCell w p u g hp).trans h
theorem Blk.set (h : Blk w g e l) (j : Nat) (u : Value) : Blk (w.setCell ⟨g, j, none⟩ u) g e (l.set j u) := by
  unfold Blk at h ⊢
  rw [heap_setCell_same w g j _ _ u h]
  simp
theorem Blk.own {base size n cap : Nat} (h : w.ownsRow base e size (.slice (some ⟨g, 0, none⟩) n n) n l) : Blk w g e l := by
  rcases h.2 with ⟨h', _⟩ | ⟨g', cap', cur, h', _, hg, _, _, hcs, htake⟩
  · simp at h'
  · simp only [Value.slice.injEq, Option.some.injEq, Addr.mk.injEq, and_true, true_and] at h'
    obtain ⟨rfl, rfl⟩ := h'
    rw [List.take_of_length_le (by simp; omega)] at htake
    unfold Blk
    rw [hg, ← htake]
end
theorem Blk.new (w : World) (e : TypeId) (l : List Value) {x : Nat} (hx : x = w.heap.size) : Blk (w.alloc (.cells l.toArray e)) x e l := by subst hx; exact heap_alloc_new w _

/-- All that was there is there, but for blocks g and b. -/
structure Two (g b : Nat) (w w' : World) : Prop where
  os : w'.os = w.os
  tape : w'.tape = w.tape
  output : w'.output = w.output
  size : w.heap.size ≤ w'.heap.size
  block : ∀ k, k < w.heap.size → k ≠ g → k ≠ b → w'.heap[k]? = w.heap[k]?

section
variable {w w' w2 : World} {g b : Nat}
theorem Two.of (h : Below w.heap.size w w') : Two g b w w' := ⟨h.os, h.tape, h.output, h.size, fun k hk _ _ => h.block k hk⟩
theorem Two.refl (g b : Nat) (w : World) : Two g b w w := Two.of (Below.refl _ _)
theorem Two.trans (h : Two g b w w') (k : Two g b w' w2) : Two g b w w2 :=
  ⟨k.os.trans h.os, k.tape.trans h.tape, k.output.trans h.output, Nat.le_trans h.size k.size, fun i hi h1 h2 => (k.block i (Nat.lt_of_lt_of_le hi h.size) h1 h2).trans (h.block i hi h1 h2)⟩
theorem Two.setCell (h : Two g b w w') {p : Addr} (hp : p.block = g ∨ p.block = b) (u : Value) : Two g b w (w'.setCell p u) :=
  h.trans ⟨rfl, rfl, rfl, by simp [World.setCell], fun k hk h1 h2 => Below.heap_setCell _ _ _ _ (by rcases hp with hp | hp <;> omega)⟩
theorem Two.drew (h : Two g b w w') (n : Nat) : Two g b w (w'.drewN n) := ⟨h.os, h.tape, h.output, h.size, h.block⟩
theorem Two.wide (h : Two b b w w') : Two g b w w' := ⟨h.os, h.tape, h.output, h.size, fun k hk _ h2 => h.block k hk h2 h2⟩
theorem Two.below {B : Nat} (h : Two g b w w') (hB : B ≤ w.heap.size) (hg : B ≤ g) (hb : B ≤ b) : Below B w w' := ⟨h.os, h.tape, h.output, h.size, fun k hk => h.block k (by omega) (by omega) (by omega)⟩
theorem Blk.two {x : Nat} {e : TypeId} {l : List Value} (h : Blk w x e l) (t : Two g b w w') (h1 : x ≠ g) (h2 : x ≠ b) : Blk w' x e l := (t.block x h.lt h1 h2).trans h
end
theorem Two.undrew {g b : Nat} {w w' : World} (h : Two g b w.drew w') : Two g b w w' := ⟨h.os, h.tape, h.output, h.size, h.block⟩
theorem made_list (z : Value) (n : Nat) : madeCells #[z] n = (List.replicate n z).toArray := by
  apply Array.ext_getElem?
  intro j
  by_cases h : j < n
  · simp [madeCells, h, Nat.mod_one]
  · rw [Array.getElem?_eq_none (by rw [size_madeCells]; omega), Array.getElem?_eq_none (by simp; omega)]

/-- What the walk is told of a slice of integers that came in. -/
def IsRow (k : IntKind) (w : World) (a : Option Addr) (len cap : Nat) (zs : List Int) : Prop :=
  (a = none ∧ len = 0 ∧ cap = 0 ∧ zs = []) ∨
  ∃ x, a = some x ∧ len ≤ cap ∧ cap ≤ maxLen ∧ zs.length = cap ∧ (∀ i, i < zs.length → w.cell? (x.add i) = some (.int k (zs.getD i 0))) ∧ ∀ n ∈ zs, (Lit.int k n).wf = true

/-- Its numbers, one by one. -/
theorem row_at {w : World} {a : Option Addr} {len cap : Nat} {zs : List Int} (h : IsRow .i64 w a len cap zs) :
    len ≤ maxLen ∧ ∀ j, j < len → ∃ blk off, a = some ⟨blk, off, none⟩ ∧ blk < w.heap.size ∧ w.cell? ⟨blk, off + j, none⟩ = some (.int .i64 (zs.getD j 0)) ∧ -9223372036854775808 ≤ zs.getD j 0 ∧ zs.getD j 0 ≤ 9223372036854775807 := by
  rcases h with ⟨rfl, rfl, rfl, rfl⟩ | ⟨x, rfl, hl, hm, hz, hc, hwf⟩
  · exact ⟨Nat.zero_le _, fun j hj => by omega⟩
  · refine ⟨Nat.le_trans hl hm, fun j hj => ?_⟩
    have h1 := hc j (by omega)
    obtain ⟨b, off, spot⟩ := x
    have h0 := hc 0 (by omega)
    have hs : spot = none := by simpa [Addr.add] using World.cell?_spot h0
    subst hs
    rw [Addr.add_lit] at h1
    have h2 : zs.getD j 0 ∈ zs := by
      rw [List.getD, List.getElem?_eq_getElem (by omega : j < zs.length)]
      exact List.getElem_mem _
    have h3 := bounds_i64 (hwf _ h2)
    exact ⟨b, off, rfl, cell_lt h1, h1, h3.1, h3.2⟩

end Go.Proofs.YthdohimjcjkneaaGreatDoor

/- The map of tables in memory: a block that is a map of numbers to tables of 512 words. -/
namespace Go.Proofs.YthdohimjcjkneaaGreatDoor
open Go.ChangeShapes Go.WideShapes Go.ChangeAt Go.RowKit Go.Maps
open Go.WideElems (Fit rd rg pl rd_val rd_key rg_of)
set_option linter.unusedVariables false
set_option linter.unusedSimpArgs false

/-- A table's words, as cells. -/
def tw (ws : Nat → Nat) : List Value := (List.range 512).map fun i => .int .u64 ((ws i : Nat) : Int)
theorem tw_len (ws : Nat → Nat) : (tw ws).length = 512 := by simp [tw]
theorem tw_get (ws : Nat → Nat) (i : Nat) (hi : i < 512) : (tw ws)[i]? = some (.int .u64 ((ws i : Nat) : Int)) := by simp [tw, hi]
theorem tw_congr {ws vs : Nat → Nat} (h : ∀ i, i < 512 → ws i = vs i) : tw ws = tw vs := by
  unfold tw
  exact List.map_congr_left fun i hi => by rw [h i (List.mem_range.1 hi)]
def wset (ws : Nat → Nat) (i v : Nat) : Nat → Nat := fun j => if j = i then v else ws j
theorem tw_set (ws : Nat → Nat) (i v : Nat) (hi : i < 512) : (tw ws).set i (.int .u64 (v : Int)) = tw (wset ws i v) := by
  apply List.ext_getElem?
  intro j
  rw [List.getElem?_set]
  by_cases hj : j < 512
  · rw [tw_get (wset ws i v) j hj]
    by_cases e : i = j
    · subst e
      rw [if_pos rfl, if_pos (by rw [tw_len]; exact hi)]
      simp [wset]
    · rw [if_neg e, tw_get _ _ hj]
      simp [wset, Ne.symm e]
  · have e1 : (tw (wset ws i v))[j]? = none := by rw [List.getElem?_eq_none]; rw [tw_len]; omega
    rw [e1, if_neg (by omega), List.getElem?_eq_none]
    rw [tw_len]; omega
def zero : Nat → Nat := fun _ => 0

/-- How a table reads. -/
def litOf : Value → DataW Unit
  | .int k a => .lit (.int k a)
  | _ => .nil
def TR : Value → Option (DataW Unit × List MemPlace)
  | .agg vs => some (.agg (vs.toList.map litOf), [])
  | _ => none
theorem lit_inv : ∀ {vs : List Value} {zs : List Int}, vs.map litOf = zs.map (fun a => .lit (.int .u64 a)) → vs = zs.map (.int .u64 ·)
  | [], [], _ => rfl
  | [], _ :: _, h => by simp at h
  | _ :: _, [], h => by simp at h
  | v :: vs, a :: zs, h => by
    simp only [List.map_cons, List.cons.injEq] at h
    have h1 : v = .int .u64 a := by
      cases v <;> simp [litOf] at h
      obtain ⟨⟨rfl, rfl⟩, -⟩ := h
      rfl
    rw [List.map_cons, h1, lit_inv h.2]
def td (ws : Nat → Nat) : DataW Unit := .agg ((tw ws).map litOf)
theorem TR_tw (ws : Nat → Nat) : TR (.agg (tw ws).toArray) = some (td ws, []) := by simp [TR, td]
theorem TR_inv {v : Value} {ws : Nat → Nat} {ps : List MemPlace} (h : TR v = some (td ws, ps)) : v = .agg (tw ws).toArray := by
  cases v <;> simp [TR] at h
  rename_i vs
  obtain ⟨h, -⟩ := h
  simp only [td, DataW.agg.injEq] at h
  have e : (tw ws).map litOf = ((List.range 512).map fun i => ((ws i : Nat) : Int)).map (fun a => .lit (.int .u64 a)) := by
    simp [tw, litOf, Function.comp_def]
  rw [e] at h
  have := lit_inv h
  have e2 : tw ws = ((List.range 512).map fun i => ((ws i : Nat) : Int)).map (.int .u64 ·) := by simp [tw, Function.comp_def]
  rw [e2, ← this]

theorem und_map : Tryz.prog.underlying 117 = some (.map 36 125) := by kernel_rfl
theorem und_u64 : Tryz.prog.underlying 36 = some (.int .u64) := by kernel_rfl
theorem keyed_u64 : Keyed Tryz.prog 36 := int_keyed und_u64
def key (f : Nat) : Lit := .int .u64 (f : Int)
theorem wf_u64 {f : Nat} (h : f < 18446744073709551616) : (Lit.int .u64 (f : Int)).wf = true := by simp [Lit.wf, IntKind.min, IntKind.max, IntKind.signed, IntKind.bits]; omega
theorem wf_u64_bounds {x : Int} (h : (Lit.int .u64 x).wf = true) : 0 ≤ x ∧ x < 18446744073709551616 := by
  simp [Lit.wf, IntKind.min, IntKind.max, IntKind.signed, IntKind.bits] at h; omega
theorem key_of (f : Nat) (h : f < 18446744073709551616) : keyOf Tryz.prog 36 (.int .u64 (f : Int)) = some (key f) := keyOf_int_mk und_u64 (wf_u64 h)
theorem key_ne {f g : Nat} (h : f ≠ g) : key f ≠ key g := by
  intro e
  simp only [key, Lit.int.injEq, true_and] at e
  omega
theorem isKey (f : Nat) (h : f < 18446744073709551616) : WideAt.IsKeyLit (key f) := keyed_u64.key (key_of f h)
theorem zero_table (w : World) : (zeroValue 125).run Tryz.prog w = .ok (.agg (tw zero).toArray) w := by kernel_rfl

theorem nodup_le : ∀ (N : Nat) (l : List Nat), l.Nodup → (∀ x ∈ l, x < N) → l.length ≤ N
  | 0, l, _, h => by
    cases l with
    | nil => simp
    | cons a l => have := h a (by simp); omega
  | N + 1, l, hn, h => by
    by_cases hm : N ∈ l
    · have h1 := nodup_le N (l.erase N) (hn.erase N) (fun x hx => by
        have := (hn.mem_erase_iff).1 hx
        have := h x this.2
        omega)
      rw [List.length_erase_of_mem hm] at h1
      omega
    · have := nodup_le N l hn (fun x hx => by
        have h2 := h x hx
        have : x ≠ N := fun e => hm (e ▸ hx)
        omega)
      omega

/-- Block b is a map of these tables. -/
structure MB (w : World) (b : Nat) (M : Nat → Option (Nat → Nat)) : Prop where
  ex : ∃ D : DataW Unit, w.ownsMap Tryz.prog 36 TR b (Maps.size D) D ∧ (∀ f, f < 18446744073709551616 → Maps.has D (key f) = (M f).isSome) ∧ (∀ f ws, f < 18446744073709551616 → M f = some ws → ∀ z, D.atKey (key f) z = td ws)
  bound : ∀ f, M f ≠ none → f < 65536

section
variable {w w' : World} {b : Nat} {M : Nat → Option (Nat → Nat)}

theorem own_tight {n : Nat} {D : DataW Unit} (h : w.ownsMap Tryz.prog 36 TR b n D) : w.ownsMap Tryz.prog 36 TR b (Maps.size D) D := by
  obtain ⟨es, clock, hb, F, hs, rfl⟩ := h
  exact ⟨es, clock, hb, F, by simp [Maps.size, length_sorted], rfl⟩

theorem own_size {n : Nat} {D : DataW Unit} (h : w.ownsMap Tryz.prog 36 TR b n D) (hf : ∀ f, f < 18446744073709551616 → Maps.has D (key f) = true → f < 65536) : Maps.size D ≤ 65536 := by
  obtain ⟨es0, rfl, hne, -⟩ := h.entries keyed_u64
  obtain ⟨es, clock, hb, F, hs, hD⟩ := h
  simp only [DataW.map.injEq] at hD
  have hk : ∀ p ∈ es0, ∃ f : Nat, f < 18446744073709551616 ∧ p.1 = key f := by
    intro p hp
    rw [hD] at hp
    obtain ⟨v, hv⟩ := fit_keys F p (mem_sorted.1 hp)
    obtain ⟨x, rfl, hx, hwf⟩ := Maps.keyOf_int_inv und_u64 hv
    have := wf_u64_bounds hwf
    exact ⟨x.toNat, by omega, by rw [hx]; simp only [key, Lit.int.injEq, true_and]; omega⟩
  have e : (es0.map fun p => match p.1 with | .int _ x => x.toNat | _ => 0).length ≤ 65536 := by
    apply nodup_le
    · unfold List.Nodup
      rw [List.pairwise_map]
      refine hne.imp_of_mem ?_
      intro p q hp hq hpq
      obtain ⟨f, -, e1⟩ := hk p hp
      obtain ⟨g, -, e2⟩ := hk q hq
      rw [e1, e2] at hpq
      rw [e1, e2]
      intro hfg
      apply hpq
      simp only [key, Int.toNat_natCast] at hfg
      rw [hfg]
    · intro x hx
      obtain ⟨p, hp, rfl⟩ := List.mem_map.1 hx
      obtain ⟨f, hf1, e1⟩ := hk p hp
      have := hf f hf1 (by
        rw [Maps.has_eq]
        exact List.any_eq_true.2 ⟨p, hp, by rw [e1]; exact WideAt.sameKey_self (isKey f hf1)⟩)
      rw [e1]
      simpa [key] using this
  simpa [Maps.size] using e

theorem MB.congr (h : MB w b M) {M' : Nat → Option (Nat → Nat)} (hM : ∀ f, (M f = none ↔ M' f = none) ∧ ∀ ws vs, M f = some ws → M' f = some vs → ∀ i, i < 512 → ws i = vs i) : MB w b M' := by
  obtain ⟨⟨D, ho, h1, h2⟩, hb⟩ := h
  refine ⟨⟨D, ho, fun f hf => ?_, fun f vs hf hv z => ?_⟩, fun f hf => hb f fun e => hf ((hM f).1.1 e)⟩
  · rw [h1 f hf]
    have := (hM f).1
    cases hm : M f <;> cases hm' : M' f <;> simp_all
  · cases hm : M f with
    | none => rw [(hM f).1.1 hm] at hv; cases hv
    | some ws =>
      rw [h2 f ws hf hm z]
      unfold td
      rw [tw_congr ((hM f).2 ws vs hm hv)]
theorem MB.lt (h : MB w b M) : b < w.heap.size := by obtain ⟨D, ho, _⟩ := h.ex; exact ho.lt
theorem MB.grown (h : MB w b M) {row : Option Nat} (hg : w.grownBy w' row) (hne : some b ≠ row) : MB w' b M := by
  obtain ⟨⟨D, ho, h1, h2⟩, hb⟩ := h
  exact ⟨⟨D, ho.kept hg hne, h1, h2⟩, hb⟩
theorem MB.heap (h : MB w b M) (e : w'.heap[b]? = w.heap[b]?) : MB w' b M := by
  obtain ⟨⟨D, ⟨es, clock, hb, F, hs, hD⟩, h1, h2⟩, hbd⟩ := h
  exact ⟨⟨D, ⟨es, clock, e.trans hb, F, hs, hD⟩, h1, h2⟩, hbd⟩
theorem MB.keep (h : MB w b M) (hb : Below w.heap.size w w') : MB w' b M := h.heap (hb.block b h.lt)
theorem MB.far (h : MB w b M) {p : Addr} (hp : b ≠ p.block) (u : Value) : MB (w.setCell p u) b M := h.heap (Below.heap_setCell w p u b hp)
theorem MB.alloc (h : MB w b M) (o : Obj) : MB (w.alloc o) b M := h.heap (Below.heap_alloc w o b h.lt)
theorem MB.drew (h : MB w b M) (t : Nat) : MB (w.drewN t) b M := h.heap rfl

/-- A look-up. -/
theorem MB.look (h : MB w b M) (f : Nat) (hf : f < 18446744073709551616) :
    (Instr.lookup 117 (.map (some b)) (.int .u64 (f : Int)) false).run Tryz.prog w = .ok (.agg (tw ((M f).getD zero)).toArray) w := by
  obtain ⟨⟨D, ho, h1, h2⟩, hb⟩ := h
  obtain ⟨v, ps, hrun, hv⟩ := ho.lookup keyed_u64 und_map (zero_table w) (TR_tw zero) (key_of f hf)
  have e : v = .agg (tw ((M f).getD zero)).toArray := by
    apply TR_inv (ps := ps)
    rw [hv]
    cases hm : M f with
    | none => have := h1 f hf; rw [hm] at this; rw [Maps.atKey_of_not_has (by simpa using this)]; rfl
    | some ws => rw [h2 f ws hf hm]; rfl
  rw [hrun, e]
theorem MB.look_ok (h : MB w b M) (f : Nat) (hf : f < 18446744073709551616) :
    (Instr.lookup 117 (.map (some b)) (.int .u64 (f : Int)) true).run Tryz.prog w = .ok (.tuple #[.agg (tw ((M f).getD zero)).toArray, .bool (M f).isSome]) w := by
  obtain ⟨⟨D, ho, h1, h2⟩, hb⟩ := h
  obtain ⟨v, ps, hrun, hv⟩ := ho.look_ok keyed_u64 und_map (zero_table w) (TR_tw zero) (key_of f hf)
  rw [hrun, h1 f hf]
  have e : v = .agg (tw ((M f).getD zero)).toArray := by
    apply TR_inv (ps := ps)
    rw [hv]
    cases hm : M f with
    | none => have := h1 f hf; rw [hm] at this; rw [Maps.atKey_of_not_has (by simpa using this)]; rfl
    | some ws => rw [h2 f ws hf hm]; rfl
  rw [e]

def upd (M : Nat → Option (Nat → Nat)) (f : Nat) (x : Option (Nat → Nat)) : Nat → Option (Nat → Nat) := fun g => if g = f then x else M g

/-- A store. -/
theorem MB.put (h : MB w b M) (f : Nat) (ws : Nat → Nat) (hf : f < 65536) :
    ∃ w', (Instr.mapUpdate 117 (.map (some b)) (.int .u64 (f : Int)) (.agg (tw ws).toArray)).run Tryz.prog w = .ok () w' ∧ MB w' b (upd M f (some ws)) ∧ w.grownBy w' (some b) ∧ w'.heap.size = w.heap.size := by
  obtain ⟨⟨D, ho, h1, h2⟩, hb⟩ := h
  have hf2 : f < 18446744073709551616 := by omega
  have hsz : Maps.size D ≤ 65536 := own_size ho (fun g hg hh => hb g (by rw [h1 g hg] at hh; intro e; rw [e] at hh; simp at hh))
  obtain ⟨w', hrun, ho', ht⟩ := ho.store keyed_u64 und_map (by unfold maxLen; omega) (key_of f hf2) (TR_tw ws)
  refine ⟨w', hrun, ⟨⟨_, own_tight ho', fun g hg => ?_, fun g vs hg hv z => ?_⟩, fun g hg => ?_⟩, ht.grown, ?_⟩
  · unfold upd
    by_cases e : g = f
    · subst e; rw [if_pos rfl, Maps.has_put_same ho.isMap (isKey g hg)]; rfl
    · rw [if_neg e, Maps.has_put_other (key_ne e), h1 g hg]
  · unfold upd at hv
    by_cases e : g = f
    · subst e; rw [if_pos rfl] at hv; cases hv; exact Maps.atKey_put_same ho.isMap (isKey g hg) _ _
    · rw [if_neg e] at hv; rw [Maps.atKey_put_other (key_ne e)]; exact h2 g vs hg hv z
  · unfold upd at hg
    by_cases e : g = f
    · omega
    · rw [if_neg e] at hg; exact hb g hg
  · obtain ⟨es, c, es', c', hbb, rfl⟩ := ht
    simp [ChangeMaps.setBlock]

/-- A key is struck. -/
theorem MB.del (h : MB w b M) (f : Nat) (hf : f < 18446744073709551616) (ty : TypeId) :
    ∃ w', (Builtin.delete_ #[117, 36] ty #[.map (some b), .int .u64 (f : Int)]).run Tryz.prog w = .ok (.tuple #[]) w' ∧ MB w' b (upd M f none) ∧ w.grownBy w' (some b) ∧ w'.heap.size = w.heap.size := by
  obtain ⟨⟨D, ho, h1, h2⟩, hb⟩ := h
  obtain ⟨w', hrun, ho', ht⟩ := ho.drop keyed_u64 und_map (key_of f hf) ty
  refine ⟨w', hrun, ⟨⟨_, own_tight ho', fun g hg => ?_, fun g vs hg hv z => ?_⟩, fun g hg => ?_⟩, ht.grown, ?_⟩
  · unfold upd
    by_cases e : g = f
    · subst e; rw [if_pos rfl, Maps.has_del_same]; rfl
    · rw [if_neg e, Maps.has_del_other (key_ne e), h1 g hg]
  · unfold upd at hv
    by_cases e : g = f
    · rw [if_pos e] at hv; cases hv
    · rw [if_neg e] at hv; rw [Maps.atKey_del_other (key_ne e)]; exact h2 g vs hg hv z
  · unfold upd at hg
    by_cases e : g = f
    · rw [if_pos e] at hg; exact absurd rfl hg
    · rw [if_neg e] at hg; exact hb g hg
  · obtain ⟨es, c, es', c', hbb, rfl⟩ := ht
    simp [ChangeMaps.setBlock]

theorem MB.new (w : World) : MB (w.alloc (.map #[] 0)) w.heap.size (fun _ => none) :=
  ⟨⟨.map [], own_tight (World.ownsMap_made w _ _ TR), fun _ _ => rfl, fun _ _ _ h => by cases h⟩, fun _ h => absurd rfl h⟩
end
end Go.Proofs.YthdohimjcjkneaaGreatDoor

/- Frames as a function that says which are taken: words of marks, runs, the lowest run that is free, counts; free of any program. -/
namespace Go.Proofs.YthdohimjcjkneaaGreatDoor
set_option linter.unusedVariables false
set_option linter.unusedSimpArgs false
namespace FR

/-- A word of marks: bit j of word q is that of frame 64 q + j. -/
def wd (T : Nat → Bool) (q : Nat) : Nat := WM.sum (fun j => (T (64 * q + j)).toNat) 64
/-- All frames of a run are so. -/
def All (T : Nat → Bool) (f k : Nat) (h : Bool) : Prop := ∀ i, i < k → T (f + i) = h
/-- A run made so. -/
def st (T : Nat → Bool) (f k : Nat) (h : Bool) : Nat → Bool := fun x => if f ≤ x ∧ x < f + k then h else T x
def want (h : Bool) (W : Nat) : Nat := if h then 2 ^ W - 1 else 0
/-- How many of a run are taken. -/
def cnt (T : Nat → Bool) (f : Nat) : Nat → Nat
  | 0 => 0
  | k + 1 => cnt T f k + (T (f + k)).toNat

theorem toNat_lt (b : Bool) : b.toNat < 2 := by cases b <;> decide

theorem bit_sum (b : Nat → Nat) (hb : ∀ i, b i < 2) (k i : Nat) (hi : i < k) : WM.bit (WM.sum b k) i = b i := by
  induction k with
  | zero => omega
  | succ k ih =>
    have hl := WM.sum_lt b hb k
    have hbk := hb k
    simp only [WM.sum]
    by_cases h : i = k
    · subst h
      unfold WM.bit
      rw [Nat.add_mul_div_right _ _ (Nat.two_pow_pos i), Nat.div_eq_of_lt hl, Nat.zero_add, Nat.mod_eq_of_lt hbk]
    · have := ih (by omega)
      rw [← this]
      unfold WM.bit
      obtain ⟨d, hd⟩ : ∃ d, k = i + (d + 1) := ⟨k - i - 1, by omega⟩
      have e : b k * 2 ^ k = (b k * 2 ^ (d + 1)) * 2 ^ i := by rw [hd, Nat.pow_add, Nat.mul_assoc, Nat.mul_comm (2 ^ i)]
      rw [e, Nat.add_mul_div_right _ _ (Nat.two_pow_pos i), Nat.pow_succ, ← Nat.mul_assoc, Nat.add_mul_mod_self_right]

theorem wd_lt (T : Nat → Bool) (q : Nat) : wd T q < 18446744073709551616 := by
  have := WM.sum_lt (fun j => (T (64 * q + j)).toNat) (fun i => toNat_lt _) 64
  simpa [wd] using this
theorem wd_bit (T : Nat → Bool) (q j : Nat) (hj : j < 64) : (wd T q).testBit j = T (64 * q + j) := by
  rw [WM.testBit_bit]
  unfold wd
  rw [bit_sum _ (fun i => toNat_lt _) 64 j hj]
  cases T (64 * q + j) <;> rfl
theorem ext64 {x y : Nat} (hx : x < 18446744073709551616) (hy : y < 18446744073709551616) (h : ∀ j, j < 64 → x.testBit j = y.testBit j) : x = y := by
  apply Nat.eq_of_testBit_eq
  intro j
  by_cases hj : j < 64
  · exact h j hj
  · rw [WM.testBit_big x j hx (by omega), WM.testBit_big y j hy (by omega)]

theorem want_bit (h : Bool) (W i : Nat) : (want h W).testBit i = (decide (i < W) && h) := by
  unfold want
  cases h
  · simp
  · simp [Nat.testBit_two_pow_sub_one]
theorem want_lt (h : Bool) (W : Nat) : want h W < 2 ^ W := by
  have := Nat.two_pow_pos W
  unfold want; split <;> omega
theorem want_64 (h : Bool) : want h 64 < 18446744073709551616 := by have := want_lt h 64; simpa using this

theorem take_want (T : Nat → Bool) (q r W : Nat) (h : Bool) (hr : r + W ≤ 64) : WM.take (wd T q) r W = want h W ↔ All T (64 * q + r) W h := by
  constructor
  · intro e j hj
    have := congrArg (fun x => x.testBit j) e
    simp only [WM.take_testBit, want_bit, hj, decide_true, Bool.true_and] at this
    rw [wd_bit T q (r + j) (by omega)] at this
    rw [← this, Nat.add_assoc]
  · intro e
    apply Nat.eq_of_testBit_eq
    intro j
    rw [WM.take_testBit, want_bit]
    by_cases hj : j < W
    · have := e j hj
      simp only [hj, decide_true, Bool.true_and]
      rw [wd_bit T q (r + j) (by omega), ← this, Nat.add_assoc]
    · simp [hj]

theorem take_all (h : Bool) (W : Nat) (hW : W ≤ 64) : WM.take (want h 64) 0 W = want h W := by
  apply Nat.eq_of_testBit_eq
  intro j
  rw [WM.take_testBit, want_bit, want_bit]
  by_cases hj : j < W
  · have : j < 64 := by omega
    simp [hj, this]
  · simp [hj]

theorem put_wd (T : Nat → Bool) (q r W : Nat) (h : Bool) (hr : r + W ≤ 64) : WM.put (wd T q) r W (want h W) = wd (st T (64 * q + r) W h) q := by
  refine ext64 (WM.put_lt _ _ _ _ (wd_lt T q) hr (want_lt h W)) (wd_lt _ _) fun j hj => ?_
  rw [WM.put_testBit _ _ _ _ _ (wd_lt T q) hr (want_lt h W), wd_bit _ _ _ hj, wd_bit _ _ _ hj, want_bit]
  unfold st
  by_cases c : r ≤ j ∧ j < r + W
  · rw [if_pos c, if_pos (by omega)]
    have : j - r < W := by omega
    simp [this]
  · rw [if_neg c, if_neg (by omega)]

theorem wd_congr (T U : Nat → Bool) (q : Nat) (h : ∀ j, j < 64 → T (64 * q + j) = U (64 * q + j)) : wd T q = wd U q :=
  ext64 (wd_lt _ _) (wd_lt _ _) fun j hj => by rw [wd_bit _ _ _ hj, wd_bit _ _ _ hj, h j hj]
theorem wd_other (T : Nat → Bool) (q q' r W : Nat) (h : Bool) (hr : r + W ≤ 64) (hq : q' ≠ q) : wd (st T (64 * q + r) W h) q' = wd T q' := by
  refine wd_congr _ _ _ fun j hj => ?_
  unfold st
  rw [if_neg (by omega)]
theorem wd_free (q : Nat) : wd (fun _ => false) q = 0 := by
  refine ext64 (wd_lt _ _) (by decide) fun j hj => ?_
  rw [wd_bit _ _ _ hj]; simp
theorem wd_full (T : Nat → Bool) (q : Nat) : wd T q = 18446744073709551615 ↔ All T (64 * q) 64 true := by
  have h := take_want T q 0 64 true (by omega)
  have e1 : WM.take (wd T q) 0 64 = wd T q := by
    unfold WM.take
    rw [Nat.pow_zero, Nat.div_one]
    exact Nat.mod_eq_of_lt (by simpa using wd_lt T q)
  rw [e1] at h
  exact h

theorem st_zero (T : Nat → Bool) (f : Nat) (h : Bool) : st T f 0 h = T := by
  funext x; unfold st; rw [if_neg (by omega)]
theorem st_step (T : Nat → Bool) (f a W : Nat) (h : Bool) : st (st T f a h) (f + a) W h = st T f (a + W) h := by
  funext x; unfold st
  by_cases c : f ≤ x ∧ x < f + (a + W)
  · rw [if_pos c]
    by_cases d : f + a ≤ x ∧ x < f + a + W
    · rw [if_pos d]
    · rw [if_neg d, if_pos (by omega)]
  · rw [if_neg c, if_neg (by omega), if_neg (by omega)]
theorem st_in (T : Nat → Bool) (f k : Nat) (h : Bool) : All (st T f k h) f k h := by
  intro i hi; unfold st; rw [if_pos (by omega)]
theorem st_out (T : Nat → Bool) (f k x : Nat) (h : Bool) (hx : ¬ (f ≤ x ∧ x < f + k)) : st T f k h x = T x := by
  unfold st; rw [if_neg hx]
theorem st_back (T : Nat → Bool) (f k : Nat) (h h' : Bool) (ha : All T f k h') : st (st T f k h) f k h' = T := by
  funext x; unfold st
  by_cases c : f ≤ x ∧ x < f + k
  · rw [if_pos c]
    have := ha (x - f) (by omega)
    rw [show f + (x - f) = x by omega] at this
    exact this.symm
  · rw [if_neg c, if_neg c]

theorem all_parts (T : Nat → Bool) (f k W R : Nat) (h : Bool) (hk : k = R * W) : All T f k h ↔ ∀ i, i < R → All T (f + i * W) W h := by
  subst hk
  constructor
  · intro a i hi j hj
    rw [Nat.add_assoc]
    refine a _ ?_
    calc i * W + j < i * W + W := by omega
      _ = (i + 1) * W := by rw [Nat.add_mul, Nat.one_mul]
      _ ≤ R * W := Nat.mul_le_mul_right _ hi
  · intro a x hx
    have hW : 0 < W := by
      rcases Nat.eq_zero_or_pos W with h0 | h0
      · rw [h0, Nat.mul_zero] at hx; omega
      · exact h0
    have h1 : x / W < R := by rw [Nat.div_lt_iff_lt_mul hW]; exact hx
    have h2 := a (x / W) h1 (x % W) (Nat.mod_lt _ hW)
    have h3 := Nat.div_add_mod x W
    rw [Nat.mul_comm] at h3
    rw [show f + x / W * W + x % W = f + x by omega] at h2
    exact h2

/-! Lengths of runs. -/
def Run (k : Nat) : Prop := ∃ j, j ≤ 9 ∧ k = 2 ^ j
theorem run_ten {k : Nat} (h : Run k) : k = 1 ∨ k = 2 ∨ k = 4 ∨ k = 8 ∨ k = 16 ∨ k = 32 ∨ k = 64 ∨ k = 128 ∨ k = 256 ∨ k = 512 := by
  obtain ⟨j, hj, rfl⟩ := h
  match j, hj with
  | 0, _ => decide
  | 1, _ => decide
  | 2, _ => decide
  | 3, _ => decide
  | 4, _ => decide
  | 5, _ => decide
  | 6, _ => decide
  | 7, _ => decide
  | 8, _ => decide
  | 9, _ => decide
theorem ten_run {k : Nat} (h : k = 1 ∨ k = 2 ∨ k = 4 ∨ k = 8 ∨ k = 16 ∨ k = 32 ∨ k = 64 ∨ k = 128 ∨ k = 256 ∨ k = 512) : Run k := by
  rcases h with rfl | rfl | rfl | rfl | rfl | rfl | rfl | rfl | rfl | rfl
  · exact ⟨0, by decide, rfl⟩
  · exact ⟨1, by decide, rfl⟩
  · exact ⟨2, by decide, rfl⟩
  · exact ⟨3, by decide, rfl⟩
  · exact ⟨4, by decide, rfl⟩
  · exact ⟨5, by decide, rfl⟩
  · exact ⟨6, by decide, rfl⟩
  · exact ⟨7, by decide, rfl⟩
  · exact ⟨8, by decide, rfl⟩
  · exact ⟨9, by decide, rfl⟩
theorem run_le {k : Nat} (h : Run k) : 1 ≤ k ∧ k ≤ 512 := by have := run_ten h; omega
theorem run_ones {k : Nat} (h : Run k) : WM.ones k 64 = 1 := by
  obtain ⟨j, hj, rfl⟩ := h
  exact WM.ones_pow j 64 (by omega)
theorem ones_run {k : Nat} (h1 : 1 ≤ k) (h2 : k ≤ 512) (h : WM.ones k 64 = 1) : Run k := by
  obtain ⟨j, hj, rfl⟩ := WM.power k (by omega) h
  refine ⟨j, ?_, rfl⟩
  rcases Nat.lt_or_ge 9 j with hlt | hge
  · have : 2 ^ 10 ≤ 2 ^ j := Nat.pow_le_pow_right (by decide) hlt
    omega
  · exact hge
/-- How a run lies in its words: W marks in each of R. -/
theorem run_lie {k : Nat} (h : Run k) : ∃ W R, min k 64 = W ∧ 1 ≤ W ∧ W ≤ 64 ∧ 1 ≤ R ∧ R ≤ 8 ∧ k / W = R ∧ k = R * W ∧ ∀ f, f % k = 0 → f % 64 + W ≤ 64 ∧ ∀ i, i < R → 64 * (f / 64 + i) + f % 64 = f + i * W := by
  rcases run_ten h with rfl | rfl | rfl | rfl | rfl | rfl | rfl | rfl | rfl | rfl
  · exact ⟨1, 1, rfl, by decide, by decide, by decide, by decide, rfl, rfl, fun f hf => ⟨by omega, fun i hi => by omega⟩⟩
  · exact ⟨2, 1, rfl, by decide, by decide, by decide, by decide, rfl, rfl, fun f hf => ⟨by omega, fun i hi => by omega⟩⟩
  · exact ⟨4, 1, rfl, by decide, by decide, by decide, by decide, rfl, rfl, fun f hf => ⟨by omega, fun i hi => by omega⟩⟩
  · exact ⟨8, 1, rfl, by decide, by decide, by decide, by decide, rfl, rfl, fun f hf => ⟨by omega, fun i hi => by omega⟩⟩
  · exact ⟨16, 1, rfl, by decide, by decide, by decide, by decide, rfl, rfl, fun f hf => ⟨by omega, fun i hi => by omega⟩⟩
  · exact ⟨32, 1, rfl, by decide, by decide, by decide, by decide, rfl, rfl, fun f hf => ⟨by omega, fun i hi => by omega⟩⟩
  · exact ⟨64, 1, rfl, by decide, by decide, by decide, by decide, rfl, rfl, fun f hf => ⟨by omega, fun i hi => by omega⟩⟩
  · exact ⟨64, 2, rfl, by decide, by decide, by decide, by decide, rfl, rfl, fun f hf => ⟨by omega, fun i hi => by omega⟩⟩
  · exact ⟨64, 4, rfl, by decide, by decide, by decide, by decide, rfl, rfl, fun f hf => ⟨by omega, fun i hi => by omega⟩⟩
  · exact ⟨64, 8, rfl, by decide, by decide, by decide, by decide, rfl, rfl, fun f hf => ⟨by omega, fun i hi => by omega⟩⟩
/-- How the runs of one length lie in groups of S frames: G in each, and a word that is full has none. -/
theorem run_step {k : Nat} (h : Run k) : ∃ S G, max k 64 = S ∧ 64 ≤ S ∧ S ≤ 512 ∧ S % 64 = 0 ∧ 512 % S = 0 ∧ 1 ≤ G ∧ G ≤ 64 ∧ S / k = G ∧ S = G * k ∧ k ≤ S ∧ S % k = 0 ∧
    (∀ F f, F % S = 0 → f % k = 0 → F ≤ f → f < F + S → f < F + 64) ∧ (∀ F f, F % k = 0 → f % k = 0 → F ≤ f → f < F + k → f = F) := by
  rcases run_ten h with rfl | rfl | rfl | rfl | rfl | rfl | rfl | rfl | rfl | rfl
  · exact ⟨64, 64, by decide, by decide, by decide, by decide, by decide, by decide, by decide, by decide, by decide, by decide, by decide, fun F f _ _ _ _ => by omega, fun F f _ _ _ _ => by omega⟩
  · exact ⟨64, 32, by decide, by decide, by decide, by decide, by decide, by decide, by decide, by decide, by decide, by decide, by decide, fun F f _ _ _ _ => by omega, fun F f _ _ _ _ => by omega⟩
  · exact ⟨64, 16, by decide, by decide, by decide, by decide, by decide, by decide, by decide, by decide, by decide, by decide, by decide, fun F f _ _ _ _ => by omega, fun F f _ _ _ _ => by omega⟩
  · exact ⟨64, 8, by decide, by decide, by decide, by decide, by decide, by decide, by decide, by decide, by decide, by decide, by decide, fun F f _ _ _ _ => by omega, fun F f _ _ _ _ => by omega⟩
  · exact ⟨64, 4, by decide, by decide, by decide, by decide, by decide, by decide, by decide, by decide, by decide, by decide, by decide, fun F f _ _ _ _ => by omega, fun F f _ _ _ _ => by omega⟩
  · exact ⟨64, 2, by decide, by decide, by decide, by decide, by decide, by decide, by decide, by decide, by decide, by decide, by decide, fun F f _ _ _ _ => by omega, fun F f _ _ _ _ => by omega⟩
  · exact ⟨64, 1, by decide, by decide, by decide, by decide, by decide, by decide, by decide, by decide, by decide, by decide, by decide, fun F f _ _ _ _ => by omega, fun F f _ _ _ _ => by omega⟩
  · exact ⟨128, 1, by decide, by decide, by decide, by decide, by decide, by decide, by decide, by decide, by decide, by decide, by decide, fun F f _ _ _ _ => by omega, fun F f _ _ _ _ => by omega⟩
  · exact ⟨256, 1, by decide, by decide, by decide, by decide, by decide, by decide, by decide, by decide, by decide, by decide, by decide, fun F f _ _ _ _ => by omega, fun F f _ _ _ _ => by omega⟩
  · exact ⟨512, 1, by decide, by decide, by decide, by decide, by decide, by decide, by decide, by decide, by decide, by decide, by decide, fun F f _ _ _ _ => by omega, fun F f _ _ _ _ => by omega⟩

/-! The lowest run that is free. -/
def Low (T : Nat → Bool) (N k f : Nat) : Prop := f % k = 0 ∧ f + k ≤ N ∧ All T f k false ∧ ∀ f', f' < f → f' % k = 0 → ¬ All T f' k false
def NoLow (T : Nat → Bool) (N k : Nat) : Prop := ∀ f, f % k = 0 → f + k ≤ N → ¬ All T f k false
theorem low_or (T : Nat → Bool) (N k : Nat) : (∃ f, Low T N k f) ∨ NoLow T N k := by
  have key : ∀ B, (∃ f, Low T N k f) ∨ ∀ f, f < B → f % k = 0 → f + k ≤ N → ¬ All T f k false := by
    intro B
    induction B with
    | zero => exact .inr fun f hf => by omega
    | succ B ih =>
      rcases ih with h | h
      · exact .inl h
      · by_cases c : B % k = 0 ∧ B + k ≤ N ∧ All T B k false
        · exact .inl ⟨B, c.1, c.2.1, c.2.2, fun f' h1 h2 => h f' h1 h2 (by omega)⟩
        · refine .inr fun f h1 h2 h3 h4 => ?_
          rcases Nat.lt_or_ge f B with hlt | hge
          · exact h f hlt h2 h3 h4
          · obtain rfl : f = B := by omega
            exact c ⟨h2, h3, h4⟩
  rcases key (N + 1) with h | h
  · exact .inl h
  · exact .inr fun f h1 h2 h3 => h f (by omega) h1 h2 h3
theorem Low.wide {T : Nat → Bool} {N M k f : Nat} (h : Low T N k f) (hM : N ≤ M) : Low T M k f := ⟨h.1, Nat.le_trans h.2.1 hM, h.2.2.1, h.2.2.2⟩
theorem NoLow.wide {T : Nat → Bool} {N M k : Nat} (h : NoLow T N k) (h1 : 1 ≤ k) (hp : ∀ x, N ≤ x → x < M → T x = true) : NoLow T M k := by
  intro f h2 h3 h4
  rcases Nat.lt_or_ge N (f + k) with hlt | hge
  · have := h4 (k - 1) (by omega)
    rw [hp _ (by omega) (by omega)] at this
    cases this
  · exact h f h2 hge h4

/-- No run that begins below B is free. -/
def Non (T : Nat → Bool) (k B : Nat) : Prop := ∀ f, f < B → f % k = 0 → ¬ All T f k false
theorem Non.step {T : Nat → Bool} {k B : Nat} (h : Non T k B) (hu : ∀ F f, F % k = 0 → f % k = 0 → F ≤ f → f < F + k → f = F) (hB : B % k = 0) (hn : ¬ All T B k false) : Non T k (B + k) := by
  intro f h1 h2 h3
  rcases Nat.lt_or_ge f B with hlt | hge
  · exact h f hlt h2 h3
  · obtain rfl := hu B f hB h2 hge h1
    exact hn h3
theorem Non.full {T : Nat → Bool} {k S B : Nat} (h : Non T k B) (h1 : 1 ≤ k) (hu : ∀ F f, F % S = 0 → f % k = 0 → F ≤ f → f < F + S → f < F + 64) (hB : B % S = 0) (hf : All T B 64 true) : Non T k (B + S) := by
  intro f h2 h3 h4
  rcases Nat.lt_or_ge f B with hlt | hge
  · exact h f hlt h3 h4
  · have h5 := hu B f hB h3 hge h2
    have h6 := hf (f - B) (by omega)
    have h7 := h4 0 (by omega)
    rw [show B + (f - B) = f by omega] at h6
    rw [Nat.add_zero, h6] at h7
    cases h7
/-- What lowest answers. -/
def Ans (T : Nat → Bool) (N k a : Nat) (yes : Bool) : Prop := (yes = true ∧ Low T N k a) ∨ (yes = false ∧ a = 0 ∧ NoLow T N k)
theorem Ans.found {T : Nat → Bool} {N k a f : Nat} {yes : Bool} (h : Ans T N k a yes) (h1 : f % k = 0) (h2 : f + k ≤ N) (h3 : All T f k false) (h4 : Non T k f) : yes = true ∧ a = f := by
  rcases h with ⟨rfl, hl⟩ | ⟨-, -, hn⟩
  · refine ⟨rfl, ?_⟩
    rcases Nat.lt_trichotomy a f with hlt | e | hgt
    · exact absurd hl.2.2.1 (h4 a hlt hl.1)
    · exact e
    · exact absurd h3 (hl.2.2.2 f hgt h1)
  · exact absurd h3 (hn f h1 h2)
theorem Ans.none {T : Nat → Bool} {N k a : Nat} {yes : Bool} (h : Ans T N k a yes) (h1 : 1 ≤ k) (h4 : Non T k N) : yes = false ∧ a = 0 := by
  rcases h with ⟨rfl, hl⟩ | ⟨rfl, rfl, -⟩
  · exact absurd hl.2.2.1 (h4 a (by have := hl.2.1; omega) hl.1)
  · exact ⟨rfl, rfl⟩

/-! Counts. -/
theorem cnt_le (T : Nat → Bool) (f k : Nat) : cnt T f k ≤ k := by
  induction k with
  | zero => simp [cnt]
  | succ k ih => have := toNat_lt (T (f + k)); simp only [cnt]; omega
theorem cnt_congr (T U : Nat → Bool) (f k : Nat) (h : ∀ i, i < k → T (f + i) = U (f + i)) : cnt T f k = cnt U f k := by
  induction k with
  | zero => rfl
  | succ k ih => simp only [cnt]; rw [ih (fun i hi => h i (by omega)), h k (by omega)]
theorem cnt_add (T : Nat → Bool) (f a b : Nat) : cnt T f (a + b) = cnt T f a + cnt T (f + a) b := by
  induction b with
  | zero => rfl
  | succ b ih => rw [← Nat.add_assoc]; simp only [cnt]; rw [ih, Nat.add_assoc f a b]; omega
theorem cnt_all (T : Nat → Bool) (f k : Nat) (h : Bool) (ha : All T f k h) : cnt T f k = if h then k else 0 := by
  induction k with
  | zero => cases h <;> rfl
  | succ k ih =>
    simp only [cnt]
    rw [ih (fun i hi => ha i (by omega)), ha k (by omega)]
    cases h <;> simp
theorem cnt_zero (T : Nat → Bool) (f k : Nat) : cnt T f k = 0 ↔ All T f k false := by
  constructor
  · induction k with
    | zero => exact fun _ i hi => by omega
    | succ k ih =>
      intro h i hi
      simp only [cnt] at h
      by_cases e : i = k
      · subst e
        cases hT : T (f + i)
        · rfl
        · rw [hT] at h; simp at h
      · exact ih (by omega) i (by omega)
  · intro h; rw [cnt_all T f k false h]; rfl
theorem cnt_full (T : Nat → Bool) (f k : Nat) : cnt T f k = k ↔ All T f k true := by
  constructor
  · induction k with
    | zero => exact fun _ i hi => by omega
    | succ k ih =>
      intro h i hi
      have h1 := cnt_le T f k
      have h2 := toNat_lt (T (f + k))
      simp only [cnt] at h
      by_cases e : i = k
      · subst e
        cases hT : T (f + i)
        · rw [hT] at h; simp at h; omega
        · rfl
      · exact ih (by omega) i (by omega)
  · intro h; rw [cnt_all T f k true h]; rfl
theorem cnt_st (T : Nat → Bool) (n f k : Nat) (h : Bool) (hf : f + k ≤ n) : cnt (st T f k h) 0 n + cnt T f k = cnt T 0 n + if h then k else 0 := by
  obtain ⟨d, rfl⟩ : ∃ d, n = f + k + d := ⟨n - (f + k), by omega⟩
  rw [cnt_add, cnt_add, cnt_add T 0 (f + k) d, cnt_add T 0 f k, Nat.zero_add, Nat.zero_add]
  rw [cnt_all (st T f k h) f k h (st_in T f k h)]
  rw [cnt_congr (st T f k h) T 0 f (fun i hi => st_out T f k _ h (by omega)), cnt_congr (st T f k h) T (f + k) d (fun i hi => st_out T f k _ h (by omega))]
  omega

/-! What the calls do. -/
def RunI (k : Int) : Prop := ∃ q : Nat, k = q ∧ Run q
/-- Alloc: number a, error e, and what is taken then. -/
def Gets (T : Nat → Bool) (n : Nat) (k : Int) (a e : Nat) (T' : Nat → Bool) : Prop :=
  (e = 2 ∧ a = 0 ∧ T' = T ∧ ¬ RunI k) ∨ (e = 24 ∧ a = 0 ∧ T' = T ∧ ∃ q : Nat, k = q ∧ Run q ∧ NoLow T n q) ∨ (e = 0 ∧ ∃ q : Nat, k = q ∧ Run q ∧ Low T n q a ∧ T' = st T a q true)
/-- Free. -/
def Puts (T : Nat → Bool) (n f : Nat) (k : Int) (e : Nat) (T' : Nat → Bool) : Prop :=
  (e = 2 ∧ T' = T ∧ ¬ RunI k) ∨ (e = 2 ∧ T' = T ∧ ∃ q : Nat, k = q ∧ Run q ∧ ¬ (f % q = 0 ∧ f + q ≤ n)) ∨ (e = 101 ∧ T' = T ∧ ∃ q : Nat, k = q ∧ Run q ∧ f % q = 0 ∧ f + q ≤ n ∧ ¬ All T f q true) ∨
  (e = 0 ∧ ∃ q : Nat, k = q ∧ Run q ∧ f % q = 0 ∧ f + q ≤ n ∧ All T f q true ∧ T' = st T f q false)
theorem gets_some (T : Nat → Bool) (n : Nat) (k : Int) : ∃ a e T', Gets T n k a e T' := by
  by_cases h : RunI k
  · obtain ⟨q, hq, hr⟩ := h
    rcases low_or T n q with ⟨f, hf⟩ | hn
    · exact ⟨f, 0, _, .inr (.inr ⟨rfl, q, hq, hr, hf, rfl⟩)⟩
    · exact ⟨0, 24, T, .inr (.inl ⟨rfl, rfl, rfl, q, hq, hr, hn⟩)⟩
  · exact ⟨0, 2, T, .inl ⟨rfl, rfl, rfl, h⟩⟩
theorem puts_some (T : Nat → Bool) (n f : Nat) (k : Int) : ∃ e T', Puts T n f k e T' := by
  by_cases h : RunI k
  · obtain ⟨q, hq, hr⟩ := h
    by_cases h1 : f % q = 0 ∧ f + q ≤ n
    · by_cases h2 : All T f q true
      · exact ⟨0, _, .inr (.inr (.inr ⟨rfl, q, hq, hr, h1.1, h1.2, h2, rfl⟩))⟩
      · exact ⟨101, T, .inr (.inr (.inl ⟨rfl, rfl, q, hq, hr, h1.1, h1.2, h2⟩))⟩
    · exact ⟨2, T, .inr (.inl ⟨rfl, rfl, q, hq, hr, h1⟩)⟩
  · exact ⟨2, T, .inl ⟨rfl, rfl, h⟩⟩
theorem Gets.pad {T T' : Nat → Bool} {n m a e : Nat} {k : Int} (h : Gets T n k a e T') (hp : ∀ x, n ≤ x → x < m → T x = true) : ∀ x, n ≤ x → x < m → T' x = true := by
  intro x h1 h2
  rcases h with ⟨-, -, rfl, -⟩ | ⟨-, -, rfl, -⟩ | ⟨-, q, -, -, hl, rfl⟩
  · exact hp x h1 h2
  · exact hp x h1 h2
  · rw [st_out _ _ _ _ _ (by have := hl.2.1; omega)]; exact hp x h1 h2
theorem Puts.pad {T T' : Nat → Bool} {n m f e : Nat} {k : Int} (h : Puts T n f k e T') (hp : ∀ x, n ≤ x → x < m → T x = true) : ∀ x, n ≤ x → x < m → T' x = true := by
  intro x h1 h2
  rcases h with ⟨-, rfl, -⟩ | ⟨-, rfl, -⟩ | ⟨-, rfl, -⟩ | ⟨-, q, -, -, -, hl, -, rfl⟩
  · exact hp x h1 h2
  · exact hp x h1 h2
  · exact hp x h1 h2
  · rw [st_out _ _ _ _ _ (by omega)]; exact hp x h1 h2

end FR
end Go.Proofs.YthdohimjcjkneaaGreatDoor

/- Page tables, on plain numbers: what a word that is laid does to tables and pages. -/
namespace Go.Proofs.YthdohimjcjkneaaGreatDoor
namespace RX
set_option linter.unusedVariables false

def updF (F : Tabs) (l c : Nat) (x : Option Nat) : Tabs := fun a b => if a = l ∧ b = c then x else F a b
def updG (G : Pags) (l c : Nat) (x : Option (Nat × Int)) : Pags := fun a b => if a = l ∧ b = c then x else G a b
theorem updF_at (F : Tabs) (l c : Nat) (x : Option Nat) : updF F l c x l c = x := by simp [updF]
theorem updF_ne {F : Tabs} {l c : Nat} {x : Option Nat} {a b : Nat} (h : ¬ (a = l ∧ b = c)) : updF F l c x a b = F a b := by simp [updF, h]
theorem updG_at (G : Pags) (l c : Nat) (x : Option (Nat × Int)) : updG G l c x l c = x := by simp [updG]
theorem updG_ne {G : Pags} {l c : Nat} {x : Option (Nat × Int)} {a b : Nat} (h : ¬ (a = l ∧ b = c)) : updG G l c x a b = G a b := by simp [updG, h]

theorem upd_at (M : Nat → Option (Nat → Nat)) (f : Nat) (x : Option (Nat → Nat)) : upd M f x f = x := by simp [upd]
theorem upd_ne {M : Nat → Option (Nat → Nat)} {f g : Nat} {x : Option (Nat → Nat)} (h : g ≠ f) : upd M f x g = M g := by simp [upd, h]
theorem wset_at (ws : Nat → Nat) (i v : Nat) : wset ws i v i = v := by simp [wset]
theorem wset_ne {ws : Nat → Nat} {i v j : Nat} (h : j ≠ i) : wset ws i v j = ws j := by simp [wset, h]

section
variable {F : Tabs} {G : Pags} {M : Nat → Option (Nat → Nat)} {r n : Nat}

theorem word_congr {F F' : Tabs} {G G' : Pags} {l c : Nat} (h1 : F' (l - 1) c = F (l - 1) c) (h2 : G' l c = G l c) : word F' G' l c = word F G l c := by unfold word; rw [h1, h2]

/-- A page's word is laid, or struck. -/
theorem rep_page (I : Inv F G r n) (R : Rep M F G) {l j f i : Nat} (hf : F l j = some f) (hi : i < 512) (x : Option (Nat × Int)) :
    Rep (upd M f (some (wset ((M f).getD zero) i (word F (updG G l (512 * j + i) x) l (512 * j + i))))) F (updG G l (512 * j + i) x) := by
  obtain ⟨ws, hM, hw⟩ := R.yes hf
  refine ⟨fun {l' j' f'} h' => ?_, fun {f'} h' => ?_⟩
  · by_cases e : f' = f
    · subst e
      obtain ⟨rfl, rfl⟩ := I.inj h' hf
      refine ⟨_, upd_at _ _ _, fun i' hi' => ?_⟩
      rw [hM]
      by_cases e2 : i' = i
      · subst e2; exact wset_at _ _ _
      · rw [wset_ne e2]
        show ws i' = _
        rw [hw i' hi']
        exact (word_congr rfl (updG_ne (by omega))).symm
    · obtain ⟨vs, hM', hv⟩ := R.yes h'
      refine ⟨vs, (upd_ne e).trans hM', fun i' hi' => ?_⟩
      rw [hv i' hi']
      refine (word_congr rfl (updG_ne ?_)).symm
      rintro ⟨rfl, e3⟩
      have : j' = j := by omega
      subst this
      rw [hf] at h'
      exact e (Option.some.inj h').symm
  · rw [upd_ne (fun e => h' l j (by rw [e]; exact hf))]
    exact R.no h'

/-- A table is laid. -/
theorem rep_table (I : Inv F G r n) (R : Rep M F G) {l j f i f' : Nat} (hf : F l j = some f) (h2 : 2 ≤ l) (hi : i < 512) (hn : F (l - 1) (512 * j + i) = none) (hfr : ∀ a b, F a b ≠ some f') :
    Rep (upd (upd M f (some (wset ((M f).getD zero) i (EN.wd false 7 f')))) f' (some zero)) (updF F (l - 1) (512 * j + i) (some f')) G := by
  obtain ⟨ws, hM, hw⟩ := R.yes hf
  have hff : f ≠ f' := fun e => hfr l j (by rw [← e]; exact hf)
  refine ⟨fun {l' j' g} h' => ?_, fun {g} h' => ?_⟩
  · by_cases e0 : l' = l - 1 ∧ j' = 512 * j + i
    · obtain ⟨rfl, rfl⟩ := e0
      rw [updF_at] at h'
      obtain rfl : f' = g := Option.some.inj h'
      refine ⟨_, upd_at _ _ _, fun i' hi' => ?_⟩
      have hd : (512 * (512 * j + i) + i') / 512 = 512 * j + i := by omega
      have hF0 : F (l - 1 - 1) (512 * (512 * j + i) + i') = none := by
        cases hc : F (l - 1 - 1) (512 * (512 * j + i) + i') with
        | none => rfl
        | some y =>
          have h3 := I.lev hc
          have := I.lev hf
          obtain ⟨y', hy⟩ := I.up hc (by omega)
          rw [show l - 1 - 1 + 1 = l - 1 by omega, hd, hn] at hy
          cases hy
      have hG0 : G (l - 1) (512 * (512 * j + i) + i') = none := by
        cases hc : G (l - 1) (512 * (512 * j + i) + i') with
        | none => rfl
        | some y =>
          obtain ⟨y', hy⟩ := I.way hc
          rw [hd, hn] at hy
          cases hy
      unfold word
      rw [updF_ne (by omega), hF0, hG0]
      rfl
    · rw [updF_ne e0] at h'
      have hl' := I.lev h'
      by_cases e : g = f
      · subst e
        obtain ⟨rfl, rfl⟩ := I.inj h' hf
        refine ⟨_, (upd_ne hff).trans (upd_at _ _ _), fun i' hi' => ?_⟩
        rw [hM]
        by_cases e2 : i' = i
        · subst e2
          rw [wset_at]
          unfold word
          rw [updF_at]
        · rw [wset_ne e2]
          show ws i' = _
          rw [hw i' hi']
          exact (word_congr (updF_ne (by omega)) rfl).symm
      · obtain ⟨vs, hM', hv⟩ := R.yes h'
        have hg' : g ≠ f' := fun e => hfr l' j' (by rw [← e]; exact h')
        refine ⟨vs, (upd_ne hg').trans ((upd_ne e).trans hM'), fun i' hi' => ?_⟩
        rw [hv i' hi']
        refine (word_congr (updF_ne ?_) rfl).symm
        rintro ⟨e1, e3⟩
        have e4 : j' = j := by omega
        have e5 : l' = l := by omega
        subst e4; subst e5
        rw [hf] at h'
        exact e (Option.some.inj h').symm
  · have hg' : g ≠ f' := fun e => h' (l - 1) (512 * j + i) (by rw [updF_at, e])
    have hgf : g ≠ f := fun e => h' l j (by rw [updF_ne (by omega), hf, e])
    rw [upd_ne hg', upd_ne hgf]
    refine R.no fun a b hab => h' a b ?_
    rw [updF_ne, hab]
    rintro ⟨rfl, rfl⟩
    rw [hn] at hab
    cases hab

theorem inv_table (I : Inv F G r n) {l j f i f' : Nat} (hf : F l j = some f) (h2 : 2 ≤ l) (hi : i < 512) (hn : F (l - 1) (512 * j + i) = none) (hg : G l (512 * j + i) = none) (hfr : ∀ a b, F a b ≠ some f') (hf' : f' < n) :
    Inv (updF F (l - 1) (512 * j + i) (some f')) G r n := by
  have hl := I.lev hf
  refine ⟨I.n2, ?_, fun {a b g} h => ?_, fun {a b a' b' g} h h' => ?_, I.page, fun {a b g} h h3 => ?_, fun {k c x} h => ?_, fun {c x} h => ?_⟩
  · rw [updF_ne (by omega)]; exact I.root
  · by_cases e : a = l - 1 ∧ b = 512 * j + i
    · rw [e.1, e.2, updF_at] at h
      have := Option.some.inj h
      omega
    · rw [updF_ne e] at h; exact I.lev h
  · by_cases e : a = l - 1 ∧ b = 512 * j + i
    · by_cases e' : a' = l - 1 ∧ b' = 512 * j + i
      · omega
      · rw [e.1, e.2, updF_at] at h
        rw [updF_ne e'] at h'
        obtain rfl := Option.some.inj h
        exact absurd h' (hfr _ _)
    · by_cases e' : a' = l - 1 ∧ b' = 512 * j + i
      · rw [e'.1, e'.2, updF_at] at h'
        rw [updF_ne e] at h
        obtain rfl := Option.some.inj h'
        exact absurd h (hfr _ _)
      · rw [updF_ne e] at h; rw [updF_ne e'] at h'; exact I.inj h h'
  · by_cases e : a = l - 1 ∧ b = 512 * j + i
    · obtain ⟨rfl, rfl⟩ := e
      have e1 : (512 * j + i) / 512 = j := by omega
      rw [updF_ne (by omega), e1, show l - 1 + 1 = l by omega]
      exact ⟨f, hf⟩
    · rw [updF_ne e] at h
      obtain ⟨y, hy⟩ := I.up h h3
      by_cases e2 : a + 1 = l - 1 ∧ b / 512 = 512 * j + i
      · rw [e2.1, e2.2, updF_at]; exact ⟨_, rfl⟩
      · rw [updF_ne e2]; exact ⟨y, hy⟩
  · obtain ⟨y, hy⟩ := I.way h
    by_cases e2 : k = l - 1 ∧ c / 512 = 512 * j + i
    · rw [e2.1, e2.2, updF_at]; exact ⟨_, rfl⟩
    · rw [updF_ne e2]; exact ⟨y, hy⟩
  · rw [updF_ne]
    · exact I.apart h
    · rintro ⟨e1, rfl⟩
      have : l = 2 := by omega
      subst this
      rw [hg] at h
      cases h

theorem inv_page (I : Inv F G r n) {k c f f0 : Nat} {P : Int} (hk : 1 ≤ k ∧ k ≤ 2) (hr : EN.right false (decide (k = 2)) P f k) (hc : c * EN.sz (k - 1) < 140737488355328) (h0 : F k (c / 512) = some f0) (h1 : k = 2 → F 1 c = none) : Inv F (updG G k c (some (f, P))) r n := by
  refine ⟨I.n2, I.root, I.lev, I.inj, fun {k' c' f' p'} h => ?_, I.up, fun {k' c' x} h => ?_, fun {c' x} h => ?_⟩
  · by_cases e : k' = k ∧ c' = c
    · obtain ⟨rfl, rfl⟩ := e
      rw [updG_at] at h
      obtain ⟨rfl, rfl⟩ := Prod.mk.inj (Option.some.inj h)
      exact ⟨hk.1, hk.2, hr, hc⟩
    · rw [updG_ne e] at h; exact I.page h
  · by_cases e : k' = k ∧ c' = c
    · obtain ⟨rfl, rfl⟩ := e; exact ⟨f0, h0⟩
    · rw [updG_ne e] at h; exact I.way h
  · by_cases e : 2 = k ∧ c' = c
    · rw [e.2]; exact h1 e.1.symm
    · rw [updG_ne e] at h; exact I.apart h

theorem inv_strike (I : Inv F G r n) (k c : Nat) : Inv F (updG G k c none) r n := by
  refine ⟨I.n2, I.root, I.lev, I.inj, fun {k' c' f' p'} h => ?_, I.up, fun {k' c' x} h => ?_, fun {c' x} h => ?_⟩
  · by_cases e : k' = k ∧ c' = c
    · rw [e.1, e.2, updG_at] at h; cases h
    · rw [updG_ne e] at h; exact I.page h
  · by_cases e : k' = k ∧ c' = c
    · rw [e.1, e.2, updG_at] at h; cases h
    · rw [updG_ne e] at h; exact I.way h
  · by_cases e : 2 = k ∧ c' = c
    · rw [e.1, e.2, updG_at] at h; cases h
    · rw [updG_ne e] at h; exact I.apart h

/-- A table that is empty is taken away. -/
theorem rep_drop (I : Inv F G r n) (R : Rep M F G) {l j f i f0 : Nat} (hf : F l j = some f) (hi : i < 512) (h0 : F (l - 1) (512 * j + i) = some f0) (hg : G l (512 * j + i) = none) :
    Rep (upd (upd M f0 none) f (some (wset (((upd M f0 none) f).getD zero) i 0))) (updF F (l - 1) (512 * j + i) none) G := by
  obtain ⟨ws, hM, hw⟩ := R.yes hf
  have hl0 := I.lev h0
  have hl := I.lev hf
  have hff : f ≠ f0 := fun e => by
    subst e
    have := I.inj hf h0
    omega
  refine ⟨fun {l' j' g} h' => ?_, fun {g} h' => ?_⟩
  · by_cases e0 : l' = l - 1 ∧ j' = 512 * j + i
    · rw [e0.1, e0.2, updF_at] at h'; cases h'
    · rw [updF_ne e0] at h'
      have hl' := I.lev h'
      by_cases e : g = f
      · subst e
        obtain ⟨rfl, rfl⟩ := I.inj h' hf
        refine ⟨_, upd_at _ _ _, fun i' hi' => ?_⟩
        rw [upd_ne hff, hM]
        by_cases e2 : i' = i
        · subst e2
          rw [wset_at]
          unfold word
          rw [updF_at, hg]
        · rw [wset_ne e2]
          show ws i' = _
          rw [hw i' hi']
          exact (word_congr (updF_ne (by omega)) rfl).symm
      · obtain ⟨vs, hM', hv⟩ := R.yes h'
        have hg0 : g ≠ f0 := fun e => by
          subst e
          have := I.inj h' h0
          omega
        refine ⟨vs, (upd_ne e).trans ((upd_ne hg0).trans hM'), fun i' hi' => ?_⟩
        rw [hv i' hi']
        refine (word_congr (updF_ne ?_) rfl).symm
        rintro ⟨e1, e3⟩
        have e4 : j' = j := by omega
        have e5 : l' = l := by omega
        subst e4; subst e5
        rw [hf] at h'
        exact e (Option.some.inj h').symm
  · have hgf : g ≠ f := fun e => h' l j (by rw [updF_ne (by omega), hf, e])
    rw [upd_ne hgf]
    by_cases e : g = f0
    · rw [e, upd_at]
    · rw [upd_ne e]
      refine R.no fun a b hab => h' a b ?_
      rw [updF_ne, hab]
      rintro ⟨rfl, rfl⟩
      rw [h0] at hab
      exact e (Option.some.inj hab).symm

theorem inv_drop (I : Inv F G r n) {l j : Nat} (hl : l ≤ 3) (he : ∀ i, i < 512 → pres F G l (512 * j + i) = false) : Inv (updF F l j none) G r n := by
  have hFn : ∀ c, c / 512 = j → F (l - 1) c = none ∧ G l c = none := fun c hc => by
    have := he (c % 512) (Nat.mod_lt _ (by decide))
    rw [show 512 * j + c % 512 = c by omega] at this
    unfold pres at this
    simpa using this
  refine ⟨I.n2, ?_, fun {a b g} h => ?_, fun {a b a' b' g} h h' => ?_, I.page, fun {a b g} h h3 => ?_, fun {k c x} h => ?_, fun {c x} h => ?_⟩
  · rw [updF_ne (by omega)]; exact I.root
  · by_cases e : a = l ∧ b = j
    · rw [e.1, e.2, updF_at] at h; cases h
    · rw [updF_ne e] at h; exact I.lev h
  · by_cases e : a = l ∧ b = j
    · rw [e.1, e.2, updF_at] at h; cases h
    · by_cases e' : a' = l ∧ b' = j
      · rw [e'.1, e'.2, updF_at] at h'; cases h'
      · rw [updF_ne e] at h; rw [updF_ne e'] at h'; exact I.inj h h'
  · by_cases e : a = l ∧ b = j
    · rw [e.1, e.2, updF_at] at h; cases h
    · rw [updF_ne e] at h
      rw [updF_ne]
      · exact I.up h h3
      · rintro ⟨e1, e2⟩
        have := (hFn b e2).1
        rw [show l - 1 = a by omega, h] at this
        cases this
  · rw [updF_ne]
    · exact I.way h
    · rintro ⟨rfl, e2⟩
      have := (hFn c e2).2
      rw [h] at this
      cases this
  · by_cases e : 1 = l ∧ c = j
    · rw [e.1, e.2, updF_at]
    · rw [updF_ne e]; exact I.apart h
end
end RX
end Go.Proofs.YthdohimjcjkneaaGreatDoor

/- Page tables, on plain numbers: a way is lengthened by new tables. -/
namespace Go.Proofs.YthdohimjcjkneaaGreatDoor
namespace RX
set_option linter.unusedVariables false

/-- New tables on the way to va, below level L. -/
def addT (F : Tabs) (va : Nat) : Nat → List Nat → Tabs
  | _, [] => F
  | L, f :: fs => addT (updF F (L - 1) (va / EN.sz (L - 1)) (some f)) va (L - 1) fs
def frT (fr : Nat → Nat) : Nat → List Nat → Nat → Nat
  | _, [] => fr
  | L, f :: fs => frT (fun k => if k = L - 1 then f else fr k) (L - 1) fs

/-- A way that ends at level L, where no word is. -/
structure Open (F : Tabs) (G : Pags) (va L : Nat) (fr : Nat → Nat) : Prop extends Way F va L fr where
  noF : F (L - 1) (va / EN.sz (L - 1)) = none
  noG : G L (va / EN.sz (L - 1)) = none

section
variable {F : Tabs} {G : Pags} {M : Nat → Option (Nat → Nat)} {r n : Nat}

theorem open_of {va lo L : Nat} {fr : Nat → Nat} (h : Desc F va lo L fr) (hp : pres F G L (va / EN.sz (L - 1)) = false) : Open F G va L fr := by
  unfold pres at hp
  simp only [Bool.or_eq_false_iff, Option.isSome_eq_false_iff, Option.isNone_iff_eq_none] at hp
  exact ⟨h.toWay, hp.1, hp.2⟩

theorem open_step (I : Inv F G r n) (R : Rep M F G) {va L f : Nat} {fr : Nat → Nat} (h : Open F G va L fr) (h2 : 2 ≤ L) (hfr : ∀ a b, F a b ≠ some f) (hf : f < n) :
    Inv (updF F (L - 1) (va / EN.sz (L - 1)) (some f)) G r n ∧
    Rep (upd (upd M (fr L) (some (wset ((M (fr L)).getD zero) (EN.idx va L) (EN.wd false 7 f)))) f (some zero)) (updF F (L - 1) (va / EN.sz (L - 1)) (some f)) G ∧
    Open (updF F (L - 1) (va / EN.sz (L - 1)) (some f)) G va (L - 1) (fun k => if k = L - 1 then f else fr k) := by
  have e1 := at_sz va L h.l1
  have hon := h.on L (Nat.le_refl _) h.l4
  have hi := EN.idx_lt va L
  have hn := h.noF
  have hg := h.noG
  have h4 := h.l4
  rw [← e1] at hn hg ⊢
  refine ⟨inv_table I hon h2 hi hn hg hfr hf, rep_table I R hon h2 hi hn hfr, ⟨by omega, by omega, fun k hk1 hk2 => ?_, fun k hk => ?_⟩, ?_, ?_⟩
  · by_cases e : k = L - 1
    · subst e
      rw [if_pos rfl, ← e1, updF_at]
    · rw [if_neg e, updF_ne (by omega)]
      exact h.on k (by omega) hk2
  · rw [if_neg (by omega)]
    exact h.off k (by omega)
  · rw [updF_ne (by omega)]
    cases hc : F (L - 1 - 1) (va / EN.sz (L - 1 - 1)) with
    | none => rfl
    | some y =>
      have h3 := I.lev hc
      obtain ⟨y', hy⟩ := I.up hc (by omega)
      rw [show L - 1 - 1 + 1 = L - 1 by omega, sz_down va (L - 1) (by omega), ← e1, hn] at hy
      cases hy
  · cases hc : G (L - 1) (va / EN.sz (L - 1 - 1)) with
    | none => rfl
    | some y =>
      obtain ⟨y', hy⟩ := I.way hc
      rw [sz_down va (L - 1) (by omega), ← e1, hn] at hy
      cases hy
end
end RX
end Go.Proofs.YthdohimjcjkneaaGreatDoor

/- Page tables, on plain numbers: the page that has an address is where the search ends. -/
namespace Go.Proofs.YthdohimjcjkneaaGreatDoor
namespace RX
set_option linter.unusedVariables false

/-- The page that has an address: its level, frame, permissions. -/
def pg (G : Pags) (va : Nat) : Option (Nat × Nat × Int) :=
  match G 1 (va / EN.sz 0) with
  | some (f, p) => some (1, f, p)
  | none => match G 2 (va / EN.sz 1) with
    | some (f, p) => some (2, f, p)
    | none => none

section
variable {F : Tabs} {G : Pags} {r n : Nat}

theorem up_to (I : Inv F G r n) (va : Nat) : ∀ (d k f : Nat), F k (va / EN.sz k) = some f → k + d ≤ 4 → ∃ f', F (k + d) (va / EN.sz (k + d)) = some f'
  | 0, k, f, h, _ => ⟨f, h⟩
  | d + 1, k, f, h, hd => by
    obtain ⟨f', h'⟩ := I.up h (by omega)
    have e : va / EN.sz k / 512 = va / EN.sz (k + 1) := by rw [EN.sz_succ, Nat.div_div_eq_div_mul]
    rw [e] at h'
    have := up_to I va d (k + 1) f' h' (by omega)
    rwa [show k + 1 + d = k + (d + 1) by omega] at this

theorem desc_page (I : Inv F G r n) {va L : Nat} {fr : Nat → Nat} (h : Desc F va 1 L fr) :
    (pres F G L (va / EN.sz (L - 1)) = true ∧ ∃ f p, pg G va = some (L, f, p) ∧ L ≤ 2 ∧ G L (va / EN.sz (L - 1)) = some (f, p) ∧ F (L - 1) (va / EN.sz (L - 1)) = none ∧ ent F G L (va / EN.sz (L - 1)) = (false, decide (L = 2), p, f)) ∨
    (pres F G L (va / EN.sz (L - 1)) = false ∧ pg G va = none) := by
  have hl1 := h.l1
  have hl4 := h.l4
  have hF0 : F (L - 1) (va / EN.sz (L - 1)) = none := by
    rcases h.stop with e | e
    · cases hc : F (L - 1) (va / EN.sz (L - 1)) with
      | none => rfl
      | some y => have := I.lev hc; omega
    · exact e
  have key : ∀ {k : Nat} {x : Nat × Int}, 1 ≤ k → k ≤ 2 → G k (va / EN.sz (k - 1)) = some x → L = k := by
    intro k x k1 k2 hx
    obtain ⟨y, hy⟩ := I.way hx
    rw [sz_down va k k1] at hy
    rcases Nat.lt_trichotomy L k with hlt | rfl | hgt
    · obtain rfl : k = 2 := by omega
      obtain rfl : L = 1 := by omega
      have := I.apart hx
      rw [h.on 1 (Nat.le_refl _) (by omega)] at this
      cases this
    · rfl
    · obtain ⟨y', hy'⟩ := up_to I va (L - 1 - k) k y hy (by omega)
      rw [show k + (L - 1 - k) = L - 1 by omega, hF0] at hy'
      cases hy'
  cases hG : G L (va / EN.sz (L - 1)) with
  | some x =>
    obtain ⟨f, p⟩ := x
    have hp := I.page hG
    refine .inl ⟨by unfold pres; rw [hG]; simp, f, p, ?_, hp.2.1, rfl, hF0, by unfold ent; rw [hF0, hG]⟩
    have : L = 1 ∨ L = 2 := by omega
    rcases this with rfl | rfl
    · unfold pg; rw [show (1 : Nat) - 1 = 0 from rfl] at hG; rw [hG]
    · have h1 : G 1 (va / EN.sz 0) = none := by
        cases hc : G 1 (va / EN.sz 0) with
        | none => rfl
        | some z => have := key (k := 1) (by omega) (by omega) hc; omega
      unfold pg
      rw [h1]
      rw [show (2 : Nat) - 1 = 1 from rfl] at hG
      rw [hG]
  | none =>
    refine .inr ⟨by unfold pres; rw [hF0, hG]; rfl, ?_⟩
    have h1 : G 1 (va / EN.sz 0) = none := by
      cases hc : G 1 (va / EN.sz 0) with
      | none => rfl
      | some z =>
        have := key (k := 1) (by omega) (by omega) hc
        subst this
        rw [show (1 : Nat) - 1 = 0 from rfl, hc] at hG
        cases hG
    have h2 : G 2 (va / EN.sz 1) = none := by
      cases hc : G 2 (va / EN.sz 1) with
      | none => rfl
      | some z =>
        have := key (k := 2) (by omega) (by omega) hc
        subst this
        rw [show (2 : Nat) - 1 = 1 from rfl, hc] at hG
        cases hG
    unfold pg
    rw [h1, h2]
end
end RX
end Go.Proofs.YthdohimjcjkneaaGreatDoor

/- Page tables, on plain numbers: the pages below a table, by rising addresses. -/
namespace Go.Proofs.YthdohimjcjkneaaGreatDoor
namespace RX
set_option linter.unusedVariables false

/-- A page: its first address, its frame, its permissions, is it huge? -/
abbrev Pg := Nat × Nat × Int × Bool

/-- The pages at place c of level l; of a table below it: rec. -/
def one (F : Tabs) (G : Pags) (rec : Nat → List Pg) (l c : Nat) : List Pg :=
  match F (l - 1) c with
  | some _ => rec c
  | none => match G l c with
    | some (f, p) => [(c * EN.sz (l - 1), f, p, decide (l = 2))]
    | none => []
/-- The pages below the table of level l at place j. -/
def und (F : Tabs) (G : Pags) : Nat → Nat → List Pg
  | 0, _ => []
  | l + 1, j => (List.range 512).flatMap fun i => one F G (und F G l) (l + 1) (512 * j + i)

theorem sz_mul (va k : Nat) : va / EN.sz (k + 1) = va / EN.sz k / 512 := by rw [EN.sz_succ, Nat.div_div_eq_div_mul]
/-- Page x is mapped at level k. -/
def Is (G : Pags) (k : Nat) (x : Pg) : Prop := G k (x.1 / EN.sz (k - 1)) = some (x.2.1, x.2.2.1) ∧ x.2.2.2 = decide (k = 2) ∧ x.1 % EN.sz (k - 1) = 0
theorem is_at {G : Pags} {k c f : Nat} {p : Int} (h : G k c = some (f, p)) : Is G k (c * EN.sz (k - 1), f, p, decide (k = 2)) :=
  ⟨by show G k (c * EN.sz (k - 1) / EN.sz (k - 1)) = _; rw [Nat.mul_div_cancel _ (EN.sz_pos _)]; exact h, rfl, Nat.mul_mod_left _ _⟩
theorem is_uniq {G : Pags} {k k' : Nat} {x : Pg} (h : Is G k x) (h' : Is G k' x) (hk : 1 ≤ k ∧ k ≤ 2) (hk' : 1 ≤ k' ∧ k' ≤ 2) : k = k' := by
  have a := h.2.1
  have b := h'.2.1
  rw [a] at b
  have : (k = 2) ↔ (k' = 2) := by simpa using b
  omega

section
variable {F : Tabs} {G : Pags} {r n : Nat}

theorem chain (I : Inv F G r n) {k l : Nat} {va : Nat} {y : Nat × Int} (h : G k (va / EN.sz (k - 1)) = some y) (hl : k ≤ l) (h4 : l ≤ 4) : ∃ f, F l (va / EN.sz l) = some f := by
  obtain ⟨f, p⟩ := y
  have hp := I.page h
  obtain ⟨f', hw⟩ := I.way h
  rw [sz_down va k hp.1] at hw
  obtain ⟨f2, h2⟩ := up_to I va (l - k) k f' hw (by omega)
  rw [show k + (l - k) = l by omega] at h2
  exact ⟨f2, h2⟩
theorem chainF (I : Inv F G r n) {k l : Nat} {va f : Nat} (h : F k (va / EN.sz k) = some f) (hl : k ≤ l) (h4 : l ≤ 4) : ∃ f, F l (va / EN.sz l) = some f := by
  obtain ⟨f2, h2⟩ := up_to I va (l - k) k f h (by omega)
  rw [show k + (l - k) = l by omega] at h2
  exact ⟨f2, h2⟩
theorem noF0 (I : Inv F G r n) (c : Nat) : F 0 c = none := by
  cases h : F 0 c with
  | none => rfl
  | some y => have := I.lev h; omega

theorem mem_und (I : Inv F G r n) : ∀ (l j : Nat), l ≤ 4 → (∃ y, F l j = some y) → ∀ x : Pg, x ∈ und F G l j ↔ ∃ k, 1 ≤ k ∧ k ≤ l ∧ Is G k x ∧ x.1 / EN.sz l = j
  | 0, j, _, ⟨y, hy⟩, x => by have := I.lev hy; omega
  | l + 1, j, h4, hF, x => by
    unfold und
    rw [List.mem_flatMap]
    constructor
    · rintro ⟨i, hi, hx⟩
      rw [List.mem_range] at hi
      unfold one at hx
      rw [Nat.add_sub_cancel] at hx
      cases hf : F l (512 * j + i) with
      | some y =>
        rw [hf] at hx
        obtain ⟨k, k1, k2, h1, h2⟩ := (mem_und I l (512 * j + i) (by omega) ⟨y, hf⟩ x).1 hx
        exact ⟨k, k1, by omega, h1, by rw [sz_mul, h2]; omega⟩
      | none =>
        rw [hf] at hx
        cases hg : G (l + 1) (512 * j + i) with
        | none => rw [hg] at hx; cases hx
        | some y =>
          obtain ⟨f, p⟩ := y
          rw [hg] at hx
          simp only [List.mem_singleton] at hx
          subst hx
          have e := is_at hg
          rw [Nat.add_sub_cancel] at e
          refine ⟨l + 1, by omega, Nat.le_refl _, e, ?_⟩
          show (512 * j + i) * EN.sz l / EN.sz (l + 1) = j
          rw [sz_mul, Nat.mul_div_cancel _ (EN.sz_pos _)]
          omega
    · rintro ⟨k, k1, k2, h1, h2⟩
      have hp := I.page h1.1
      rcases Nat.lt_or_ge k (l + 1) with hlt | hge
      · obtain ⟨f, hf⟩ := chain I h1.1 (show k ≤ l by omega) (by omega)
        refine ⟨x.1 / EN.sz l % 512, List.mem_range.2 (Nat.mod_lt _ (by decide)), ?_⟩
        have e : 512 * j + x.1 / EN.sz l % 512 = x.1 / EN.sz l := by rw [← h2, sz_mul]; omega
        rw [e]
        unfold one
        rw [Nat.add_sub_cancel, hf]
        exact (mem_und I l _ (by omega) ⟨f, hf⟩ x).2 ⟨k, k1, by omega, h1, rfl⟩
      · obtain rfl : k = l + 1 := by omega
        refine ⟨x.1 / EN.sz l % 512, List.mem_range.2 (Nat.mod_lt _ (by decide)), ?_⟩
        have e : 512 * j + x.1 / EN.sz l % 512 = x.1 / EN.sz l := by rw [← h2, sz_mul]; omega
        rw [e]
        have hg := h1.1
        rw [Nat.add_sub_cancel] at hg
        have hf : F l (x.1 / EN.sz l) = none := by
          have : l = 0 ∨ l = 1 := by omega
          rcases this with rfl | rfl
          · exact noF0 I _
          · exact I.apart hg
        unfold one
        rw [Nat.add_sub_cancel, hf, hg]
        simp only [List.mem_singleton]
        obtain ⟨a, f, p, q⟩ := x
        have h3 := h1.2.1
        have h5 := h1.2.2
        simp only at h3 h5 ⊢
        rw [Nat.add_sub_cancel] at h5
        rw [h3]
        congr 1
        have := Nat.div_add_mod a (EN.sz l)
        rw [Nat.mul_comm] at this
        omega

/-- By rising addresses. -/
def Rising (l : List Pg) : Prop := l.Pairwise fun a b => a.1 < b.1
theorem one_at (I : Inv F G r n) (l c : Nat) (h4 : l + 1 ≤ 4) (x : Pg) (h : x ∈ one F G (und F G l) (l + 1) c) : x.1 / EN.sz l = c := by
  unfold one at h
  rw [Nat.add_sub_cancel] at h
  cases hf : F l c with
  | some y =>
    rw [hf] at h
    obtain ⟨k, k1, k2, h1, h2⟩ := (mem_und I l c (by omega) ⟨y, hf⟩ x).1 h
    exact h2
  | none =>
    rw [hf] at h
    cases hg : G (l + 1) c with
    | none => rw [hg] at h; cases h
    | some y =>
      obtain ⟨f, p⟩ := y
      rw [hg] at h
      simp only [List.mem_singleton] at h
      subst h
      exact Nat.mul_div_cancel _ (EN.sz_pos _)
theorem und_rising (I : Inv F G r n) : ∀ (l j : Nat), l ≤ 4 → Rising (und F G l j)
  | 0, _, _ => List.Pairwise.nil
  | l + 1, j, h4 => by
    unfold und Rising
    rw [List.pairwise_flatMap]
    constructor
    · intro i _
      unfold one
      rw [Nat.add_sub_cancel]
      cases hf : F l (512 * j + i) with
      | some y => exact und_rising I l _ (by omega)
      | none =>
        cases hg : G (l + 1) (512 * j + i) with
        | none => exact List.Pairwise.nil
        | some y => exact List.pairwise_singleton _ _
    · refine (List.pairwise_lt_range (n := 512)).imp ?_
      intro a b hab x hx y hy
      have e1 := one_at I l _ h4 x hx
      have e2 := one_at I l _ h4 y hy
      apply Classical.byContradiction
      intro hc
      have := Nat.div_le_div_right (c := EN.sz l) (Nat.le_of_not_lt hc)
      omega
theorem flat_le {α : Type} (f : Nat → List α) (c : Nat) (h : ∀ i, (f i).length ≤ c) : ∀ m, ((List.range m).flatMap f).length ≤ m * c
  | 0 => by simp
  | m + 1 => by
    rw [List.range_succ, List.flatMap_append, List.length_append, Nat.succ_mul]
    refine Nat.add_le_add (flat_le f c h m) ?_
    simpa using h m
theorem one_le {F : Tabs} {G : Pags} {rec : Nat → List Pg} {l c m : Nat} (h : (rec c).length ≤ m) (hm : 1 ≤ m) : (one F G rec l c).length ≤ m := by
  unfold one
  cases hf : F (l - 1) c with
  | some y => exact h
  | none =>
    cases hg : G l c with
    | none => exact Nat.zero_le _
    | some y => exact hm
theorem und_length : ∀ (l j : Nat), (und F G l j).length ≤ 512 ^ l
  | 0, _ => Nat.zero_le _
  | l + 1, j => by
    have := flat_le (fun i => one F G (und F G l) (l + 1) (512 * j + i)) (512 ^ l) (fun i => one_le (und_length l _) (Nat.pow_pos (by decide))) 512
    rw [Nat.pow_succ, Nat.mul_comm (512 ^ l)]
    exact this
end

theorem rising_eq : ∀ {a b : List Pg}, Rising a → Rising b → (∀ x, x ∈ a ↔ x ∈ b) → a = b
  | [], [], _, _, _ => rfl
  | [], y :: b, _, _, h => absurd ((h y).2 (by simp)) (by simp)
  | x :: a, [], _, _, h => absurd ((h x).1 (by simp)) (by simp)
  | x :: a, y :: b, ha, hb, h => by
    unfold Rising at ha hb
    rw [List.pairwise_cons] at ha hb
    have hxy : x = y := by
      rcases List.mem_cons.1 ((h x).1 (by simp)) with e | hx
      · exact e
      · rcases List.mem_cons.1 ((h y).2 (by simp)) with e | hy
        · exact e.symm
        · have := ha.1 y hy
          have := hb.1 x hx
          omega
    subst hxy
    congr 1
    refine rising_eq ha.2 hb.2 fun z => ?_
    have hz := h z
    simp only [List.mem_cons] at hz
    constructor
    · intro hm
      rcases hz.1 (.inr hm) with e | e
      · subst e; have := ha.1 z hm; omega
      · exact e
    · intro hm
      rcases hz.2 (.inr hm) with e | e
      · subst e; have := hb.1 z hm; omega
      · exact e
end RX
end Go.Proofs.YthdohimjcjkneaaGreatDoor

/- Contracts of the functions of package word: what each returns, for all arguments; memory that was there is unchanged. -/
namespace Go.Proofs.YthdohimjcjkneaaGreatDoor
open Go.ChangeShapes Go.WideShapes Go.ChangeAt Go.RowKit
set_option linter.unusedVariables false


theorem and_one (x i : Nat) (hx : x < 18446744073709551616) : bits BinOp.and IntKind.u64 ((x : Int) / 2 ^ i) 1 = ((WM.bit x i : Nat) : Int) := by
  have e : ((x : Int) / 2 ^ i) = ((x / 2 ^ i : Nat) : Int) := by simp
  have h : x / 2 ^ i < 18446744073709551616 := Nat.lt_of_le_of_lt (Nat.div_le_self _ _) hx
  have h1 : (1 : Int) = ((1 : Nat) : Int) := rfl
  rw [e, h1, u64_and_nat _ _ h (by decide), nat_mask1]; rfl

theorem wrap_in (n : Nat) (h : n < 18446744073709551616) : IntKind.u64.wrap (n : Int) = n := by
  rw [IntKind.wrap_u64]; omega

theorem and_is1 (x i : Nat) (hx : x < 18446744073709551616) (h : WM.bit x i = 1) :
    (bits BinOp.and IntKind.u64 ((x : Int) / 2 ^ i) 1 == 1) = true ∧ (bits BinOp.and IntKind.u64 ((x : Int) / 2 ^ i) 1 == 0) = false := by
  rw [and_one x i hx, h]; decide
theorem and_is0 (x i : Nat) (hx : x < 18446744073709551616) (h : WM.bit x i = 0) :
    (bits BinOp.and IntKind.u64 ((x : Int) / 2 ^ i) 1 == 1) = false ∧ (bits BinOp.and IntKind.u64 ((x : Int) / 2 ^ i) 1 == 0) = true := by
  rw [and_one x i hx, h]; decide

set_option maxRecDepth 100000 in
set_option maxHeartbeats 400000 in
theorem ones_any (x : Nat) (hx : x < 18446744073709551616) (w : World) :
    Calls Tryz.prog 179 #[.int .u64 x] w fun e w' => e = .returned (.int .i64 ((WM.ones x 64 : Nat) : Int)) ∧ w = w' := by
  go_enter Tryz.func179, Tryz.ntmps179
  go_wp2
  go_loop [3, 4, 5] (fun o v i => ∃ k : Nat, k ≤ 64 ∧ i = .int .i64 k ∧ o = .int .i64 ((WM.ones x k : Nat) : Int)) (fun _ _ i => (64 - intOf i).toNat)
  case atStart => exact ⟨0, by omega, rfl, rfl⟩
  case round =>
    obtain ⟨k, hk, rfl, rfl⟩ := hrel
    have hl := WM.ones_le x k
    by_cases hlt : k < 64
    · rcases WM.bit_01 x k with h01 | h01
      · have hb := (and_is0 x k hx h01).1
        have hs : Hid (WM.ones x (k + 1) = WM.ones x k) := by show WM.ones x k + WM.bit x k = _; rw [h01]; rfl
        clear h01
        go_wp2
        go_round
        case rel => exact ⟨k + 1, by omega, by go_num, by rw [hs.out]⟩
        case measure => simp [intOf]; omega
      · have hb := (and_is1 x k hx h01).1
        have hs : Hid (WM.ones x (k + 1) = WM.ones x k + 1) := by show WM.ones x k + WM.bit x k = _; rw [h01]
        clear h01
        go_wp2
        go_round
        case rel => exact ⟨k + 1, by omega, by go_num, by rw [hs.out]; go_num⟩
        case measure => simp [intOf]; omega
    · have h64 : Hid (k = 64) := (by omega : k = 64)
      go_wp2
      go_ret
      exact ⟨ret_i64 (by rw [h64.out]), rfl⟩

/-! ### Fields -/
theorem ret_tmp_world {w0 w w' : World} {r : Ending} (h : Below w0.heap.size w0 w') : r = r ∧ Below w0.heap.size w0 w' := ⟨rfl, h⟩

set_option maxRecDepth 100000 in
set_option maxHeartbeats 400000 in
theorem valid_yes (lo n : Nat) (h : lo + n ≤ 64) (w : World) :
    Calls Tryz.prog 173 #[.agg #[.int .i64 lo, .int .i64 n]] w fun e w' => e = .returned (.bool true) ∧ Below w.heap.size w w' := by
  have h1 : (0 : Int) ≤ (lo : Int) := by omega
  have h2 : (0 : Int) ≤ (n : Int) := by omega
  have h3 : decide ((n : Int) ≤ 64 - (lo : Int)) = true := by simp; omega
  go_enter Tryz.func173, Tryz.ntmps173
  go_wp2
  go_ret
  exact ⟨rfl, (Below.refl _ _).alloc (Nat.le_refl _) _⟩

set_option maxRecDepth 100000 in
set_option maxHeartbeats 400000 in
theorem valid_no (lo n : Int) (hlo : -9223372036854775808 ≤ lo ∧ lo ≤ 9223372036854775807) (h : ¬ (0 ≤ lo ∧ 0 ≤ n ∧ n ≤ 64 - lo)) (w : World) :
    Calls Tryz.prog 173 #[.agg #[.int .i64 lo, .int .i64 n]] w fun e w' => e = .returned (.bool false) ∧ Below w.heap.size w w' := by
  obtain ⟨hl1, hl2⟩ := hlo
  by_cases c1 : 0 ≤ lo
  · by_cases c2 : 0 ≤ n
    · have c3 : decide (n ≤ 64 - lo) = false := by simp; omega
      clear h
      go_enter Tryz.func173, Tryz.ntmps173
      go_wp2
      go_ret
      exact ⟨rfl, (Below.refl _ _).alloc (Nat.le_refl _) _⟩
    · have c4 : decide (0 ≤ n) = false := by simp; omega
      clear h c2
      go_enter Tryz.func173, Tryz.ntmps173
      go_wp2
      go_ret
      exact ⟨rfl, (Below.refl _ _).alloc (Nat.le_refl _) _⟩
  · have c4 : decide (0 ≤ lo) = false := by simp; omega
    clear h c1
    go_enter Tryz.func173, Tryz.ntmps173
    go_wp2
    go_ret
    exact ⟨rfl, (Below.refl _ _).alloc (Nat.le_refl _) _⟩

theorem mask_wraps (lo n : Nat) (h : lo + n ≤ 64) :
    IntKind.u64.wrap (IntKind.u64.wrap (IntKind.u64.wrap (2 ^ n) - 1) * 2 ^ lo) = ((WM.mask lo n : Nat) : Int) := by
  have hm := WM.mask_lt lo n h
  have hp := Nat.two_pow_pos n
  have e2 : ∀ k : Nat, ((2 : Int) ^ k) = ((2 ^ k : Nat) : Int) := by intro k; simp
  rw [IntKind.wrap_u64, IntKind.wrap_u64, IntKind.wrap_u64, e2, e2]
  by_cases h64 : n = 64
  · subst h64
    obtain rfl : lo = 0 := by omega
    rfl
  · have hn : 2 ^ n < 2 ^ 64 := Nat.pow_lt_pow_right (by decide) (by omega)
    have e1 : (((2 ^ n : Nat) : Int) % 18446744073709551616 - 1) % 18446744073709551616 = ((2 ^ n - 1 : Nat) : Int) := by omega
    rw [e1, ← Int.natCast_mul]
    unfold WM.mask
    unfold WM.mask at hm
    omega

set_option maxRecDepth 100000 in
set_option maxHeartbeats 400000 in
theorem mask_yes (lo n : Nat) (h : lo + n ≤ 64) (w : World) :
    Calls Tryz.prog 174 #[.agg #[.int .i64 lo, .int .i64 n]] w fun e w' => e = .returned (.int .u64 ((WM.mask lo n : Nat) : Int)) ∧ Below w.heap.size w w' := by
  have hm := W_hid (mask_wraps lo n h)
  go_enter Tryz.func174, Tryz.ntmps174
  go_wp2
  go_quiet (fail)
  go_wp2
  go_ret
  exact ⟨ret_u64 hm.out, below_drewN ((Below.refl _ _).alloc (Nat.le_refl _) _) _⟩

set_option maxRecDepth 100000 in
set_option maxHeartbeats 400000 in
theorem demand_valid_yes (lo n : Nat) (h : lo + n ≤ 64) (w : World) :
    Calls Tryz.prog 133 #[.func (Fn.func 173) #[.agg #[.int .i64 lo, .int .i64 n]] #[]] w fun e w' => e = .returned (.int .i64 0) ∧ Below w.heap.size w w' := by
  go_enter Tryz.func133, Tryz.ntmps133
  go_wp2_with (go_at_call 173; refine (valid_yes lo n h _).mono ?_; rintro e w' ⟨rfl, hb⟩)
  go_ret
  exact ⟨rfl, hb⟩

set_option maxRecDepth 100000 in
set_option maxHeartbeats 400000 in
theorem demand_valid_no (lo n : Int) (hlo : -9223372036854775808 ≤ lo ∧ lo ≤ 9223372036854775807) (h : ¬ (0 ≤ lo ∧ 0 ≤ n ∧ n ≤ 64 - lo)) (w : World) :
    Calls Tryz.prog 133 #[.func (Fn.func 173) #[.agg #[.int .i64 lo, .int .i64 n]] #[]] w fun e w' => e = .returned (.int .i64 2) ∧ Below w.heap.size w w' := by
  have c := fun w => valid_no lo n hlo h w
  clear h
  go_enter Tryz.func133, Tryz.ntmps133
  go_wp2_with (go_at_call 173; refine (c _).mono ?_; rintro e w' ⟨rfl, hb⟩)
  go_ret
  exact ⟨rfl, hb⟩

/-- Behind a call that made memory: old cells read as before. -/
theorem bcell {W w1 : World} (hb : Below W.heap.size W w1) : (∀ b o, b < W.heap.size → w1.cell? ⟨b, o, none⟩ = W.cell? ⟨b, o, none⟩) ∧ (∀ b o, b < W.heap.size → w1.frozen? ⟨b, o, none⟩ = W.frozen? ⟨b, o, none⟩) :=
  ⟨fun b o h => hb.cell (p := ⟨b, o, none⟩) h, fun b o h => hb.frozen (p := ⟨b, o, none⟩) h⟩

set_option maxRecDepth 100000 in
set_option maxHeartbeats 400000 in
theorem take_yes (x lo n : Nat) (hx : x < 18446744073709551616) (h : lo + n ≤ 64) (w : World) :
    Calls Tryz.prog 129 #[.int .u64 x, .int .i64 lo, .int .i64 n] w fun e w' => e = .returned (.tuple #[.int .u64 ((WM.take x lo n : Nat) : Int), .int .i64 0]) ∧ Below w.heap.size w w' := by
  go_enter Tryz.func129, Tryz.ntmps129
  go_wp2_with (first | (go_at_call 133; refine (demand_valid_yes lo n h _).mono ?_; rintro e w1 ⟨rfl, hb⟩; obtain ⟨hc, hf⟩ := bcell hb) | (go_at_call 174; refine (mask_yes lo n h _).mono ?_; rintro e w2 ⟨rfl, hb2⟩))
  go_ret2
  have ht : Hid (bits BinOp.and IntKind.u64 (x : Int) ((WM.mask lo n : Nat) : Int) / 2 ^ lo = ((WM.take x lo n : Nat) : Int)) := by
    have hm := WM.mask_lt lo n h
    show _ = _
    rw [u64_and_nat _ _ hx (by simpa using hm), ← WM.take_and]
    simp
  exact ⟨by rw [ht.out]; rfl, (((Below.refl _ _).alloc (Nat.le_refl _) _).trans (hb.mono (by simp))).trans (hb2.mono (by have := hb.size; simp at this; omega))⟩

set_option maxRecDepth 100000 in
set_option maxHeartbeats 400000 in
theorem take_no (x : Int) (lo n : Int) (hlo : -9223372036854775808 ≤ lo ∧ lo ≤ 9223372036854775807) (h : ¬ (0 ≤ lo ∧ 0 ≤ n ∧ n ≤ 64 - lo)) (w : World) :
    Calls Tryz.prog 129 #[.int .u64 x, .int .i64 lo, .int .i64 n] w fun e w' => e = .returned (.tuple #[.int .u64 0, .int .i64 2]) ∧ Below w.heap.size w w' := by
  have c := fun w => demand_valid_no lo n hlo h w
  clear h
  go_enter Tryz.func129, Tryz.ntmps129
  go_wp2_with (first | (go_at_call 133; refine (c _).mono ?_; rintro e w1 ⟨rfl, hb⟩; obtain ⟨hc, hf⟩ := bcell hb))
  go_ret2
  exact ⟨rfl, (((Below.refl _ _).alloc (Nat.le_refl _) _).trans (hb.mono (by simp)))⟩

set_option maxRecDepth 100000 in
set_option maxHeartbeats 400000 in
theorem put_no (x lo n v : Int) (hlo : -9223372036854775808 ≤ lo ∧ lo ≤ 9223372036854775807) (h : ¬ (0 ≤ lo ∧ 0 ≤ n ∧ n ≤ 64 - lo)) (w : World) :
    Calls Tryz.prog 176 #[.int .u64 x, .int .i64 lo, .int .i64 n, .int .u64 v] w fun e w' => e = .returned (.tuple #[.int .u64 0, .int .i64 2]) ∧ Below w.heap.size w w' := by
  have c := fun w => demand_valid_no lo n hlo h w
  clear h
  go_enter Tryz.func176, Tryz.ntmps176
  go_wp2_with (first | (go_at_call 133; refine (c _).mono ?_; rintro e w1 ⟨rfl, hb⟩; obtain ⟨hc, hf⟩ := bcell hb))
  go_ret2
  exact ⟨rfl, (((Below.refl _ _).alloc (Nat.le_refl _) _).trans (hb.mono (by simp)))⟩

theorem div_pow_ne (v n : Nat) (h : 2 ^ n ≤ v) : (((v : Int) / 2 ^ n) != 0) = true := by
  have e : ((v : Int) / 2 ^ n) = ((v / 2 ^ n : Nat) : Int) := by simp
  have : 0 < v / 2 ^ n := Nat.div_pos h (Nat.two_pow_pos n)
  rw [e]; simp; omega
theorem div_pow_eq (v n : Nat) (h : v < 2 ^ n) : (((v : Int) / 2 ^ n) != 0) = false := by
  have e : ((v : Int) / 2 ^ n) = ((v / 2 ^ n : Nat) : Int) := by simp
  rw [e, Nat.div_eq_of_lt h]; rfl

set_option maxRecDepth 100000 in
set_option maxHeartbeats 400000 in
theorem put_high (x : Int) (lo n v : Nat) (h : lo + n ≤ 64) (hv : 2 ^ n ≤ v) (w : World) :
    Calls Tryz.prog 176 #[.int .u64 x, .int .i64 lo, .int .i64 n, .int .u64 v] w fun e w' => e = .returned (.tuple #[.int .u64 0, .int .i64 2]) ∧ Below w.heap.size w w' := by
  have hq := div_pow_ne v n hv
  clear hv
  go_enter Tryz.func176, Tryz.ntmps176
  go_wp2_with (first | (go_at_call 133; refine (demand_valid_yes lo n h _).mono ?_; rintro e w1 ⟨rfl, hb⟩; obtain ⟨hc, hf⟩ := bcell hb))
  go_ret2
  exact ⟨rfl, (((Below.refl _ _).alloc (Nat.le_refl _) _).trans (hb.mono (by simp)))⟩

theorem put_spell (x lo n v : Nat) (hx : x < 18446744073709551616) (h : lo + n ≤ 64) (hv : v < 2 ^ n) :
    bits BinOp.or IntKind.u64 (bits BinOp.andNot IntKind.u64 (x : Int) ((WM.mask lo n : Nat) : Int)) (IntKind.u64.wrap ((v : Int) * 2 ^ lo)) = ((WM.put x lo n v : Nat) : Int) := by
  have hm := WM.mask_lt lo n h
  have e2 : ∀ k : Nat, ((2 : Int) ^ k) = ((2 ^ k : Nat) : Int) := by intro k; simp
  have h3 : v * 2 ^ lo < 2 ^ 64 := by
    calc v * 2 ^ lo < 2 ^ n * 2 ^ lo := Nat.mul_lt_mul_of_pos_right hv (Nat.two_pow_pos lo)
      _ = 2 ^ (n + lo) := (Nat.pow_add 2 n lo).symm
      _ ≤ 2 ^ 64 := Nat.pow_le_pow_right (by decide) (by omega)
  rw [u64_andNot_nat _ _ hx (by simpa using hm), e2, ← Int.natCast_mul, wrap_in _ (by simpa using h3)]
  exact u64_or_nat _ _ (Nat.lt_of_le_of_lt Nat.and_le_left hx) (by simpa using h3)

set_option maxRecDepth 100000 in
set_option maxHeartbeats 400000 in
theorem put_yes (x lo n v : Nat) (hx : x < 18446744073709551616) (h : lo + n ≤ 64) (hv : v < 2 ^ n) (w : World) :
    Calls Tryz.prog 176 #[.int .u64 x, .int .i64 lo, .int .i64 n, .int .u64 v] w fun e w' => e = .returned (.tuple #[.int .u64 ((WM.put x lo n v : Nat) : Int), .int .i64 0]) ∧ Below w.heap.size w w' := by
  have hq := div_pow_eq v n hv
  have hv' := W_hid hv
  clear hv
  go_enter Tryz.func176, Tryz.ntmps176
  go_wp2_with (first | (go_at_call 133; refine (demand_valid_yes lo n h _).mono ?_; rintro e w1 ⟨rfl, hb⟩; obtain ⟨hc, hf⟩ := bcell hb))
  go_region_with (go_at_call 174; refine (mask_yes lo n h _).mono ?_; rintro e w2 ⟨rfl, hb2⟩; obtain ⟨hc2, hf2⟩ := bcell hb2)
  all_goals
    go_wp2
    go_ret2
    have ht : Hid (bits BinOp.or IntKind.u64 (bits BinOp.andNot IntKind.u64 (x : Int) ((WM.mask lo n : Nat) : Int)) (IntKind.u64.wrap ((v : Int) * 2 ^ lo)) = ((WM.put x lo n v : Nat) : Int)) := put_spell x lo n v hx h hv'.out
    exact ⟨by rw [ht.out]; rfl, (((Below.refl _ _).alloc (Nat.le_refl _) _).trans (hb.mono (by simp))).trans (Below.drew (Below.refl _ _) |>.trans (hb2.mono (by have := hb.size; simp at this; show w.heap.size ≤ w1.heap.size; omega)))⟩

/-! ### Rounding -/
set_option maxRecDepth 100000 in
set_option maxHeartbeats 400000 in
theorem power_yes (x : Nat) (hx : x < 18446744073709551616) (h : WM.ones x 64 = 1) (w : World) :
    Calls Tryz.prog 134 #[.int .u64 x] w fun e w' => e = .returned (.bool true) ∧ w = w' := by
  have hh : (((WM.ones x 64 : Nat) : Int) == 1) = true := by rw [h]; rfl
  clear h
  go_enter Tryz.func134, Tryz.ntmps134
  go_wp2_with (go_at_call 179; refine (ones_any x hx _).mono ?_; rintro e w' ⟨rfl, rfl⟩)
  go_ret
  exact ⟨rfl, rfl⟩

set_option maxRecDepth 100000 in
set_option maxHeartbeats 400000 in
theorem power_no (x : Nat) (hx : x < 18446744073709551616) (h : WM.ones x 64 ≠ 1) (w : World) :
    Calls Tryz.prog 134 #[.int .u64 x] w fun e w' => e = .returned (.bool false) ∧ w = w' := by
  have hh : (((WM.ones x 64 : Nat) : Int) == 1) = false := by simp; omega
  clear h
  go_enter Tryz.func134, Tryz.ntmps134
  go_wp2_with (go_at_call 179; refine (ones_any x hx _).mono ?_; rintro e w' ⟨rfl, rfl⟩)
  go_ret
  exact ⟨rfl, rfl⟩

set_option maxRecDepth 100000 in
set_option maxHeartbeats 400000 in
theorem demand_power_yes (x : Nat) (hx : x < 18446744073709551616) (h : WM.ones x 64 = 1) (w : World) :
    Calls Tryz.prog 133 #[.func (Fn.func 134) #[.int .u64 x] #[]] w fun e w' => e = .returned (.int .i64 0) ∧ w = w' := by
  have hh := W_hid h
  clear h
  go_enter Tryz.func133, Tryz.ntmps133
  go_wp2_with (go_at_call 134; refine (power_yes x hx hh.out _).mono ?_; rintro e w' ⟨rfl, rfl⟩)
  go_ret
  exact ⟨rfl, rfl⟩

set_option maxRecDepth 100000 in
set_option maxHeartbeats 400000 in
theorem demand_power_no (x : Nat) (hx : x < 18446744073709551616) (h : WM.ones x 64 ≠ 1) (w : World) :
    Calls Tryz.prog 133 #[.func (Fn.func 134) #[.int .u64 x] #[]] w fun e w' => e = .returned (.int .i64 2) ∧ w = w' := by
  have hh := W_hid h
  clear h
  go_enter Tryz.func133, Tryz.ntmps133
  go_wp2_with (go_at_call 134; refine (power_no x hx hh.out _).mono ?_; rintro e w' ⟨rfl, rfl⟩)
  go_ret
  exact ⟨rfl, rfl⟩

theorem andNot_spell (x to : Nat) (hx : x < 18446744073709551616) (ht : to < 18446744073709551616) (h : WM.ones to 64 = 1) :
    bits BinOp.andNot IntKind.u64 (x : Int) (IntKind.u64.wrap ((to : Int) - 1)) = ((WM.down x to : Nat) : Int) := by
  have hp := WM.pos to ht h
  have e : ((to : Int) - 1) = ((to - 1 : Nat) : Int) := by omega
  rw [e, wrap_in _ (by omega), u64_andNot_nat _ _ hx (by omega), WM.down_clear x to hx ht h]

set_option maxRecDepth 100000 in
set_option maxHeartbeats 400000 in
theorem down_yes (x to : Nat) (hx : x < 18446744073709551616) (ht : to < 18446744073709551616) (h : WM.ones to 64 = 1) (w : World) :
    Calls Tryz.prog 82 #[.int .u64 x, .int .u64 to] w fun e w' => e = .returned (.tuple #[.int .u64 ((WM.down x to : Nat) : Int), .int .i64 0]) ∧ w = w' := by
  have hs := W_hid (andNot_spell x to hx ht h)
  have hh := W_hid h
  clear h
  go_enter Tryz.func82, Tryz.ntmps82
  go_wp2_with (go_at_call 133; refine (demand_power_yes to ht hh.out _).mono ?_; rintro e w' ⟨rfl, rfl⟩)
  go_ret2
  exact ⟨by rw [hs.out]; rfl, rfl⟩

set_option maxRecDepth 100000 in
set_option maxHeartbeats 400000 in
theorem down_no (x : Int) (to : Nat) (ht : to < 18446744073709551616) (h : WM.ones to 64 ≠ 1) (w : World) :
    Calls Tryz.prog 82 #[.int .u64 x, .int .u64 to] w fun e w' => e = .returned (.tuple #[.int .u64 0, .int .i64 2]) ∧ w = w' := by
  have hh := W_hid h
  clear h
  go_enter Tryz.func82, Tryz.ntmps82
  go_wp2_with (go_at_call 133; refine (demand_power_no to ht hh.out _).mono ?_; rintro e w' ⟨rfl, rfl⟩)
  go_ret2
  exact ⟨rfl, rfl⟩

set_option maxRecDepth 100000 in
set_option maxHeartbeats 400000 in
theorem up_no (x : Int) (to : Nat) (ht : to < 18446744073709551616) (h : WM.ones to 64 ≠ 1) (w : World) :
    Calls Tryz.prog 99 #[.int .u64 x, .int .u64 to] w fun e w' => e = .returned (.tuple #[.int .u64 0, .int .i64 2]) ∧ w = w' := by
  have hh := W_hid h
  clear h
  go_enter Tryz.func99, Tryz.ntmps99
  go_wp2_with (go_at_call 82; refine (down_no x to ht hh.out _).mono ?_; rintro e w' ⟨rfl, rfl⟩)
  go_ret2
  exact ⟨rfl, rfl⟩

set_option maxRecDepth 100000 in
set_option maxHeartbeats 400000 in
theorem up_same (x to : Nat) (hx : x < 18446744073709551616) (ht : to < 18446744073709551616) (h : WM.ones to 64 = 1) (h0 : x % to = 0) (w : World) :
    Calls Tryz.prog 99 #[.int .u64 x, .int .u64 to] w fun e w' => e = .returned (.tuple #[.int .u64 x, .int .i64 0]) ∧ w = w' := by
  have hh := W_hid h
  have hq := W_hid (WM.down_self x to h0)
  have he : (((WM.down x to : Nat) : Int) == (x : Int)) = true := by rw [hq.out]; simp
  clear h h0
  go_enter Tryz.func99, Tryz.ntmps99
  go_wp2_with (go_at_call 82; refine (down_yes x to hx ht hh.out _).mono ?_; rintro e w' ⟨rfl, rfl⟩)
  go_ret2
  exact ⟨by rw [hq.out]; rfl, rfl⟩

set_option maxRecDepth 100000 in
set_option maxHeartbeats 400000 in
theorem up_next (x to : Nat) (hx : x < 18446744073709551616) (ht : to < 18446744073709551616) (h : WM.ones to 64 = 1) (h0 : x % to ≠ 0) (hm : WM.down x to + to < 18446744073709551616) (w : World) :
    Calls Tryz.prog 99 #[.int .u64 x, .int .u64 to] w fun e w' => e = .returned (.tuple #[.int .u64 ((WM.down x to + to : Nat) : Int), .int .i64 0]) ∧ w = w' := by
  have hh := W_hid h
  have hp := WM.pos to ht h
  have hq := WM.down_ne x to h0
  have he : (((WM.down x to : Nat) : Int) == (x : Int)) = false := by simp; omega
  have hw' : Hid (IntKind.u64.wrap (((WM.down x to : Nat) : Int) + (to : Int)) = ((WM.down x to + to : Nat) : Int)) := by
    show _ = _
    rw [← Int.natCast_add, wrap_in _ hm]
  have hz : (IntKind.u64.wrap (((WM.down x to : Nat) : Int) + (to : Int)) == 0) = false := by rw [hw'.out]; simp; omega
  clear h h0 hq hm
  go_enter Tryz.func99, Tryz.ntmps99
  go_wp2_with (go_at_call 82; refine (down_yes x to hx ht hh.out _).mono ?_; rintro e w' ⟨rfl, rfl⟩)
  go_ret2
  exact ⟨by rw [hw'.out]; rfl, rfl⟩

set_option maxRecDepth 100000 in
set_option maxHeartbeats 400000 in
theorem up_over (x to : Nat) (hx : x < 18446744073709551616) (ht : to < 18446744073709551616) (h : WM.ones to 64 = 1) (h0 : x % to ≠ 0) (hm : ¬ WM.down x to + to < 18446744073709551616) (w : World) :
    Calls Tryz.prog 99 #[.int .u64 x, .int .u64 to] w fun e w' => e = .returned (.tuple #[.int .u64 0, .int .i64 2]) ∧ w = w' := by
  have hh := W_hid h
  have hp := WM.pos to ht h
  have hq := WM.down_ne x to h0
  have he : (((WM.down x to : Nat) : Int) == (x : Int)) = false := by simp; omega
  have hn := WM.down_next x to ht h hx
  have hz : (IntKind.u64.wrap (((WM.down x to : Nat) : Int) + (to : Int)) == 0) = true := by
    have e : WM.down x to + to = 18446744073709551616 := by omega
    rw [← Int.natCast_add, e]; rfl
  clear h h0 hq hm hn
  go_enter Tryz.func99, Tryz.ntmps99
  go_wp2_with (go_at_call 82; refine (down_yes x to hx ht hh.out _).mono ?_; rintro e w' ⟨rfl, rfl⟩)
  go_ret2
  exact ⟨rfl, rfl⟩

end Go.Proofs.YthdohimjcjkneaaGreatDoor

namespace Go.Proofs.YthdohimjcjkneaaGreatDoor
open Go.ChangeShapes Go.WideShapes Go.ChangeAt Go.RowKit
set_option linter.unusedVariables false
set_option linter.unusedSimpArgs false

/-- The cells of the table of kinds. -/
def kcl : List Value := [.bool false, .bool false, .int .i64 1, .int .i64 1, .int .u64 9223090561878069245, .int .u64 5, .bool false, .bool true, .int .i64 2, .int .i64 2, .int .u64 9223090561880162301, .int .u64 133, .bool true, .bool false, .int .i64 2, .int .i64 4, .int .u64 18446462598732845055, .int .u64 7]
def KT (w : World) : Prop := ∃ e fr, w.heap[0]? = some (.cells kcl.toArray e fr)
section
variable {w w' : World}
theorem KT.lt (h : KT w) : 0 < w.heap.size := by
  obtain ⟨e, fr, h⟩ := h
  rcases Nat.lt_or_ge 0 w.heap.size with hlt | hge
  · exact hlt
  · rw [Array.getElem?_eq_none hge] at h; cases h
theorem KT.below {B : Nat} (h : KT w) (hb : Below B w w') (hB : 0 < B) : KT w' := by
  obtain ⟨e, fr, h⟩ := h
  exact ⟨e, fr, (hb.block _ hB).trans h⟩
theorem KT.keep (h : KT w) (hb : Below w.heap.size w w') : KT w' := h.below hb h.lt
theorem KT.alloc (h : KT w) (o : Obj) : KT (w.alloc o) := h.keep ((Below.refl _ _).alloc (Nat.le_refl _) o)
end

/-- The answer of a call that reads a word. -/
def said : Option (Bool × Bool × Int × Nat) → Value
  | some (t, h, p, f) => .tuple #[.agg #[.bool t, .bool h, .int .i64 p, .int .u64 (f : Int)], .bool true]
  | none => .tuple #[.agg #[.bool false, .bool false, .int .i64 0, .int .u64 0], .bool false]

set_option maxRecDepth 100000 in
set_option maxHeartbeats 400000 in
theorem kfits_any (tb hg b : Bool) (lo hi L : Int) (K S x : Nat) (hx : x < 18446744073709551616) (hK : K < 18446744073709551616) (hb : b = true ↔ lo ≤ L ∧ L ≤ hi ∧ x &&& K = S) (w : World) :
    Calls Tryz.prog 177 #[.agg #[.bool tb, .bool hg, .int .i64 lo, .int .i64 hi, .int .u64 K, .int .u64 S], .int .u64 x, .int .i64 L] w fun e w' => e = .returned (.bool b) ∧ Below w.heap.size w w' := by
  have hand : bits BinOp.and IntKind.u64 (x : Int) (K : Int) = ((x &&& K : Nat) : Int) := u64_and_nat _ _ hx hK
  by_cases c1 : lo ≤ L
  · have d1 : decide (lo ≤ L) = true := by simp; omega
    by_cases c2 : L ≤ hi
    · have d2 : decide (L ≤ hi) = true := by simp; omega
      have d3 : (bits BinOp.and IntKind.u64 (x : Int) (K : Int) == (S : Int)) = b := by
        rw [hand, Bool.eq_iff_iff, beq_iff_eq, hb]; omega
      clear hb hand c1 c2
      go_enter Tryz.func177, Tryz.ntmps177
      go_wp2
      go_ret
      exact ⟨rfl, (Below.refl _ _).alloc (Nat.le_refl _) _⟩
    · have d2 : decide (L ≤ hi) = false := by simp; omega
      obtain rfl : b = false := by
        cases b
        · rfl
        · exact absurd (hb.1 rfl).2.1 c2
      clear hb hand c1 c2
      go_enter Tryz.func177, Tryz.ntmps177
      go_wp2
      go_ret
      exact ⟨rfl, (Below.refl _ _).alloc (Nat.le_refl _) _⟩
  · have d1 : decide (lo ≤ L) = false := by simp; omega
    obtain rfl : b = false := by
      cases b
      · rfl
      · exact absurd (hb.1 rfl).1 c1
    clear hb hand c1
    go_enter Tryz.func177, Tryz.ntmps177
    go_wp2
    go_ret
    exact ⟨rfl, (Below.refl _ _).alloc (Nat.le_refl _) _⟩

theorem bit1_test (x : Nat) (hx : x < 18446744073709551616) : (bits BinOp.and IntKind.u64 (x : Int) 2 != 0) = decide (x / 2 % 2 = 1) := by
  have h : x &&& 2 = 2 * (x / 2 % 2) := by
    conv => lhs; rw [show x = x % 2 + 2 ^ 1 * (x / 2 % 2 + 2 ^ 1 * (x / 4)) by omega, show 2 = 0 + 2 ^ 1 * ((2 ^ 1 - 1) + 2 ^ 1 * 0) by decide]
    rw [EN.and_peel _ _ _ _ _ (by omega) (by decide), EN.and_peel _ _ _ _ _ (by omega) (by decide), EN.and_full, Nat.and_zero, Nat.and_zero]
    omega
  rw [show (2 : Int) = ((2 : Nat) : Int) from rfl, u64_and_nat _ _ hx (by decide), h]
  rw [Bool.eq_iff_iff, bne_iff_ne, decide_eq_true_iff]; omega
theorem bit63_test (x : Nat) (hx : x < 18446744073709551616) : (bits BinOp.and IntKind.u64 (x : Int) 9223372036854775808 == 0) = decide (x / 9223372036854775808 = 0) := by
  have h : x &&& 9223372036854775808 = 9223372036854775808 * (x / 9223372036854775808) := by
    conv => lhs; rw [show x = x % 9223372036854775808 + 2 ^ 63 * (x / 9223372036854775808) by omega, show 9223372036854775808 = 0 + 2 ^ 63 * (2 ^ 1 - 1) by decide]
    rw [EN.and_peel _ _ _ _ _ (by omega) (by decide), EN.and_full, Nat.and_zero]
    omega
  rw [show (9223372036854775808 : Int) = ((9223372036854775808 : Nat) : Int) from rfl, u64_and_nat _ _ hx (by decide), h]
  rw [Bool.eq_iff_iff, beq_iff_eq, decide_eq_true_iff]; omega

set_option maxRecDepth 100000 in
set_option maxHeartbeats 400000 in
theorem perm_any (x : Nat) (hx : x < 18446744073709551616) (w : World) :
    Calls Tryz.prog 178 #[.int .u64 x] w fun e w' => e = .returned (.int .i64 (EN.perm x)) ∧ w = w' := by
  have h1 := bit1_test x hx
  have h2 := bit63_test x hx
  have hp : Hid (EN.perm x = 1 + (if x / 2 % 2 = 1 then 2 else 0) + (if x / 9223372036854775808 = 0 then 4 else 0)) := rfl
  by_cases c1 : x / 2 % 2 = 1
  · rw [decide_eq_true c1] at h1
    rw [if_pos c1] at hp
    by_cases c2 : x / 9223372036854775808 = 0
    · rw [decide_eq_true c2] at h2
      rw [if_pos c2] at hp
      clear c1 c2
      go_enter Tryz.func178, Tryz.ntmps178
      go_wp2
      go_ret
      exact ⟨ret_i64 hp.out.symm, rfl⟩
    · rw [decide_eq_false c2] at h2
      rw [if_neg c2] at hp
      clear c1 c2
      go_enter Tryz.func178, Tryz.ntmps178
      go_wp2
      go_ret
      exact ⟨ret_i64 hp.out.symm, rfl⟩
  · rw [decide_eq_false c1] at h1
    rw [if_neg c1] at hp
    by_cases c2 : x / 9223372036854775808 = 0
    · rw [decide_eq_true c2] at h2
      rw [if_pos c2] at hp
      clear c1 c2
      go_enter Tryz.func178, Tryz.ntmps178
      go_wp2
      go_ret
      exact ⟨ret_i64 hp.out.symm, rfl⟩
    · rw [decide_eq_false c2] at h2
      rw [if_neg c2] at hp
      clear c1 c2
      go_enter Tryz.func178, Tryz.ntmps178
      go_wp2
      go_ret
      exact ⟨ret_i64 hp.out.symm, rfl⟩

end Go.Proofs.YthdohimjcjkneaaGreatDoor

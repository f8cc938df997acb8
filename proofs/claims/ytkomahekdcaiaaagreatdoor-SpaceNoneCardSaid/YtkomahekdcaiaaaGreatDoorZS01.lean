/- Frames as a function that says which are taken: words of marks, runs, the lowest run that is free, counts; free of any program. -/
import Derived.Test.YtkomahekdcaiaaaGreatDoorRows
import Derived.WalkKit
import Derived.ProofKit
import Derived.KernelRfl
import Derived.Laws.AppendOwn
import Derived.WalkSmall
import Derived.OpenShut
import Derived.Laws.OwnMore
import Derived.Deep.OwnRows
import Derived.Maps.OwnSet
import Derived.Maps.RangeWalk
import Derived.Carry
import Derived.Outline
import Derived.WalkLawsBesides
import Derived.Deep.QuietTactic
import Derived.BigQuiet
import Derived.IntWalk
import Derived.Deep.RegionWith
import Derived.Laws.BitsAllLaws
import Derived.Deep.RegionHeld3
import Derived.Laws.StructEq
import Derived.Deep.MidRow
import Derived.StillTailTactics

/- Plain facts about bits of natural numbers: counting, the lowest clear bit, fields, powers of two. No program in sight. -/
namespace Go.Proofs.YtkomahekdcaiaaaGreatDoor
namespace WM

def bit (x i : Nat) : Nat := x / 2 ^ i % 2

def ones (x : Nat) : Nat → Nat
  | 0 => 0
  | k + 1 => ones x k + bit x k

def firstFrom (x : Nat) : Nat → Nat → Nat
  | 0, i => i
  | f + 1, i => if bit x i = 0 then i else firstFrom x f (i + 1)

def first (x : Nat) : Nat := firstFrom x 64 0

theorem bit_lt (x i : Nat) : bit x i < 2 := Nat.mod_lt _ (by decide)
theorem bit_01 (x i : Nat) : bit x i = 0 ∨ bit x i = 1 := by have := bit_lt x i; omega

theorem bit_testBit (x i : Nat) : bit x i = (x.testBit i).toNat := by
  unfold bit
  rw [Nat.testBit_eq_decide_div_mod_eq]
  have := Nat.mod_lt (x / 2 ^ i) (show 0 < 2 by decide)
  by_cases h : x / 2 ^ i % 2 = 1
  · simp [h]
  · simp [h]; omega

theorem testBit_bit (x i : Nat) : x.testBit i = decide (bit x i = 1) := by
  rw [bit_testBit]; cases x.testBit i <;> simp

theorem ones_le (x k : Nat) : ones x k ≤ k := by
  induction k with
  | zero => simp [ones]
  | succ k ih => have := bit_lt x k; simp only [ones]; omega

theorem firstFrom_le (x : Nat) : ∀ f i, firstFrom x f i ≤ i + f
  | 0, i => by simp [firstFrom]
  | f + 1, i => by
    simp only [firstFrom]
    split
    · omega
    · have := firstFrom_le x f (i + 1); omega

/-! Sums of digits. -/
def sum (b : Nat → Nat) : Nat → Nat
  | 0 => 0
  | k + 1 => sum b k + b k * 2 ^ k

theorem sum_lt (b : Nat → Nat) (hb : ∀ i, b i < 2) (k : Nat) : sum b k < 2 ^ k := by
  induction k with
  | zero => simp [sum]
  | succ k ih =>
    have h2 : 2 ^ (k + 1) = 2 ^ k * 2 := Nat.pow_succ 2 k
    have h3 := hb k
    simp only [sum]
    rcases (by omega : b k = 0 ∨ b k = 1) with h | h <;> rw [h] <;> omega

theorem sum_congr (b c : Nat → Nat) (k : Nat) (h : ∀ i, i < k → b i = c i) : sum b k = sum c k := by
  induction k with
  | zero => rfl
  | succ k ih => simp only [sum]; rw [ih (fun i hi => h i (by omega)), h k (by omega)]

theorem mod_succ (x k : Nat) : x % 2 ^ (k + 1) = x % 2 ^ k + bit x k * 2 ^ k := by
  unfold bit
  rw [Nat.pow_succ, Nat.mod_mul, Nat.mul_comm]

theorem sum_bit (x k : Nat) : sum (bit x) k = x % 2 ^ k := by
  induction k with
  | zero => simp [sum, Nat.mod_one]
  | succ k ih => simp only [sum]; rw [ih, mod_succ]

theorem bit_add (x lo i : Nat) : bit x (lo + i) = bit (x / 2 ^ lo) i := by
  unfold bit; rw [Nat.div_div_eq_div_mul, Nat.pow_add]

theorem sum_field (x lo k : Nat) : sum (fun i => bit x (lo + i)) k = x / 2 ^ lo % 2 ^ k := by
  rw [sum_congr _ (bit (x / 2 ^ lo)) k (fun i _ => bit_add x lo i), sum_bit]

theorem eq_sum (x k : Nat) (h : x < 2 ^ k) (b : Nat → Nat) (hb : ∀ i, i < k → bit x i = b i) : x = sum b k := by
  rw [← Nat.mod_eq_of_lt h, ← sum_bit, sum_congr _ _ _ hb]

/-! Fields. -/
def mask (lo n : Nat) : Nat := (2 ^ n - 1) * 2 ^ lo

theorem mask_lt (lo n : Nat) (h : lo + n ≤ 64) : mask lo n < 2 ^ 64 := by
  have h1 : 2 ^ (lo + n) ≤ 2 ^ 64 := Nat.pow_le_pow_right (by decide) h
  rw [Nat.pow_add] at h1
  have h2 : 0 < 2 ^ n := Nat.two_pow_pos n
  have h3 : 0 < 2 ^ lo := Nat.two_pow_pos lo
  unfold mask
  rw [Nat.sub_mul, Nat.mul_comm (2 ^ n), Nat.one_mul]
  omega

theorem mask_testBit (lo n i : Nat) : (mask lo n).testBit i = (decide (lo ≤ i) && decide (i < lo + n)) := by
  unfold mask
  rw [Nat.mul_comm, Nat.testBit_two_pow_mul, Nat.testBit_two_pow_sub_one]
  by_cases h : lo ≤ i
  · simp [h]; omega
  · simp [h]

/-- What taking a field gives. -/
def take (x lo n : Nat) : Nat := x / 2 ^ lo % 2 ^ n

theorem take_testBit (x lo n i : Nat) : (take x lo n).testBit i = (decide (i < n) && x.testBit (lo + i)) := by
  unfold take; rw [Nat.testBit_mod_two_pow, Nat.testBit_div_two_pow, Nat.add_comm]

theorem take_and (x lo n : Nat) : (x &&& mask lo n) / 2 ^ lo = take x lo n := by
  apply Nat.eq_of_testBit_eq
  intro i
  rw [take_testBit, Nat.testBit_div_two_pow, Nat.testBit_and, mask_testBit, Nat.add_comm i lo]
  by_cases h : i < n <;> simp [h]

theorem take_lt (x lo n : Nat) : take x lo n < 2 ^ n := Nat.mod_lt _ (Nat.two_pow_pos n)

/-- What laying a field gives. -/
def put (x lo n v : Nat) : Nat := (x &&& (18446744073709551615 - mask lo n)) ||| v * 2 ^ lo

theorem testBit_big (x i : Nat) (h : x < 18446744073709551616) (hi : 64 ≤ i) : x.testBit i = false :=
  Nat.testBit_lt_two_pow (Nat.lt_of_lt_of_le (show x < 2 ^ 64 by simpa using h) (Nat.pow_le_pow_right (by decide) hi))

theorem comp_testBit (m i : Nat) (h : m < 18446744073709551616) : (18446744073709551615 - m).testBit i = (decide (i < 64) && !m.testBit i) := by
  have := @Nat.testBit_two_pow_sub_succ m 64 (by simpa using h) i
  rw [← this]
  congr 1
  omega

theorem put_testBit (x lo n v i : Nat) (hx : x < 18446744073709551616) (h : lo + n ≤ 64) (hv : v < 2 ^ n) :
    (put x lo n v).testBit i = if lo ≤ i ∧ i < lo + n then v.testBit (i - lo) else x.testBit i := by
  unfold put
  rw [Nat.testBit_or, Nat.testBit_and, comp_testBit _ _ (by have := mask_lt lo n h; simpa using this), mask_testBit, Nat.mul_comm v, Nat.testBit_two_pow_mul]
  by_cases h1 : lo ≤ i
  · by_cases h2 : i < lo + n
    · simp [h1, h2]
    · have h3 : v.testBit (i - lo) = false := Nat.testBit_lt_two_pow (Nat.lt_of_lt_of_le hv (Nat.pow_le_pow_right (by decide) (by omega)))
      by_cases h4 : i < 64
      · simp [h1, h2, h3, h4]
      · simp [h1, h2, h3, testBit_big x i hx (by omega)]
  · by_cases h4 : i < 64
    · simp [h1, h4]
    · simp [h1, testBit_big x i hx (by omega)]

theorem put_lt (x lo n v : Nat) (hx : x < 18446744073709551616) (h : lo + n ≤ 64) (hv : v < 2 ^ n) : put x lo n v < 18446744073709551616 := by
  have : put x lo n v < 2 ^ 64 := by
    apply Nat.lt_pow_two_of_testBit
    intro i hi
    rw [put_testBit x lo n v i hx h hv, if_neg (by omega)]
    exact testBit_big x i hx hi
  simpa using this

/-- A digit of a word in which a field was laid. -/
def putBit (x lo n v i : Nat) : Nat := if lo ≤ i ∧ i < lo + n then bit v (i - lo) else bit x i

theorem putBit_lt (x lo n v i : Nat) : putBit x lo n v i < 2 := by
  unfold putBit; split <;> exact bit_lt _ _

theorem put_sum (x lo n v : Nat) (hx : x < 18446744073709551616) (h : lo + n ≤ 64) (hv : v < 2 ^ n) : sum (putBit x lo n v) 64 = put x lo n v := by
  symm
  refine eq_sum _ 64 (by simpa using put_lt x lo n v hx h hv) _ fun i _ => ?_
  rw [bit_testBit, put_testBit x lo n v i hx h hv]
  unfold putBit
  split <;> rw [bit_testBit]

/-- Bits from n on are clear just where the number is below 2 to the n. -/
theorem high_clear (v n : Nat) (hv : v < 18446744073709551616) (h : ∀ i, n ≤ i → i < 64 → bit v i = 0) : v < 2 ^ n := by
  apply Nat.lt_pow_two_of_testBit
  intro i hi
  by_cases h1 : i < 64
  · rw [testBit_bit, h i hi h1]; decide
  · exact testBit_big v i hv (by omega)

theorem high_bit (v n i : Nat) (h : v < 2 ^ n) (hi : n ≤ i) : bit v i = 0 := by
  rw [bit_testBit, Nat.testBit_lt_two_pow (Nat.lt_of_lt_of_le h (Nat.pow_le_pow_right (by decide) hi))]; rfl

/-! Powers. -/
theorem bit_zero_big (x i : Nat) (h : x < 2 ^ i) : bit x i = 0 := by unfold bit; rw [Nat.div_eq_of_lt h]

theorem ones_zero (x : Nat) : ∀ k, ones x k = 0 → x % 2 ^ k = 0
  | 0, _ => Nat.mod_one x
  | k + 1, h => by
    simp only [ones] at h
    rw [mod_succ, ones_zero x k (by omega)]
    have : bit x k = 0 := by omega
    rw [this]; simp

theorem zero_ones (x : Nat) : ∀ k, x % 2 ^ k = 0 → ones x k = 0
  | 0, _ => rfl
  | k + 1, h => by
    rw [mod_succ] at h
    have h2 := Nat.two_pow_pos k
    have h3 : bit x k = 0 := by
      rcases bit_01 x k with h4 | h4
      · exact h4
      · rw [h4] at h; omega
    simp only [ones]
    rw [zero_ones x k (by omega), h3]

/-- One digit set: a power of two. -/
theorem ones_one (x : Nat) : ∀ k, ones x k = 1 → ∃ j, j < k ∧ x % 2 ^ k = 2 ^ j
  | 0, h => by simp [ones] at h
  | k + 1, h => by
    simp only [ones] at h
    rcases bit_01 x k with h1 | h1
    · obtain ⟨j, hj, e⟩ := ones_one x k (by omega)
      exact ⟨j, by omega, by rw [mod_succ, h1, e]; simp⟩
    · exact ⟨k, by omega, by rw [mod_succ, h1, ones_zero x k (by omega)]; simp⟩

theorem ones_pow (j k : Nat) (h : j < k) : ones (2 ^ j) k = 1 := by
  induction k with
  | zero => omega
  | succ k ih =>
    simp only [ones]
    by_cases hj : j < k
    · rw [ih hj]
      have : bit (2 ^ j) k = 0 := by
        unfold bit; rw [Nat.div_eq_of_lt (Nat.pow_lt_pow_right (by decide) hj)]
      rw [this]
    · obtain rfl : j = k := by omega
      have h1 : ones (2 ^ j) j = 0 := zero_ones _ _ (Nat.mod_self _)
      have h2 : bit (2 ^ j) j = 1 := by unfold bit; rw [Nat.div_self (Nat.two_pow_pos j)]
      rw [h1, h2]

theorem power (x : Nat) (hx : x < 18446744073709551616) (h : ones x 64 = 1) : ∃ j, j < 64 ∧ x = 2 ^ j := by
  obtain ⟨j, hj, e⟩ := ones_one x 64 h
  exact ⟨j, hj, by rw [← e]; exact (Nat.mod_eq_of_lt (by simpa using hx)).symm⟩

/-- Clearing the bits below a power: what is left is the multiple. -/
theorem clear_low (x j : Nat) (hx : x < 18446744073709551616) (hj : j < 64) : x &&& (18446744073709551615 - (2 ^ j - 1)) = x - x % 2 ^ j := by
  have hp : 2 ^ j < 2 ^ 64 := Nat.pow_lt_pow_right (by decide) hj
  have hm := Nat.mod_le x (2 ^ j)
  have e : x - x % 2 ^ j = x / 2 ^ j * 2 ^ j := by
    have := Nat.div_add_mod x (2 ^ j)
    rw [Nat.mul_comm] at this; omega
  rw [e]
  apply Nat.eq_of_testBit_eq
  intro i
  rw [Nat.testBit_and, comp_testBit _ _ (by have := Nat.two_pow_pos j; simp at hp; omega), Nat.testBit_two_pow_sub_one, Nat.mul_comm, Nat.testBit_two_pow_mul, Nat.testBit_div_two_pow]
  by_cases h1 : i < j
  · simp [h1]; omega
  · by_cases h2 : i < 64
    · simp [h1, h2]; rw [show i - j + j = i by omega]; simp; omega
    · simp [h1, testBit_big x i hx (by omega)]; rw [show i - j + j = i by omega, testBit_big x i hx (by omega)]; simp

/-- Rounding down, and the next multiple. -/
def down (x to : Nat) : Nat := x - x % to
def up (x to : Nat) : Nat := if x % to = 0 then x else down x to + to

theorem down_clear (x to : Nat) (hx : x < 18446744073709551616) (ht : to < 18446744073709551616) (h : ones to 64 = 1) : x &&& (18446744073709551615 - (to - 1)) = down x to := by
  obtain ⟨j, hj, rfl⟩ := power to ht h
  exact clear_low x j hx hj

theorem pos (to : Nat) (ht : to < 18446744073709551616) (h : ones to 64 = 1) : 0 < to := by
  obtain ⟨j, hj, rfl⟩ := power to ht h
  exact Nat.two_pow_pos j

theorem down_le (x to : Nat) : down x to ≤ x := Nat.sub_le _ _

theorem down_self (x to : Nat) (h : x % to = 0) : down x to = x := by unfold down; omega
theorem down_ne (x to : Nat) (h : x % to ≠ 0) : down x to ≠ x := by
  have := Nat.mod_le x to
  unfold down; omega

theorem down_next (x to : Nat) (ht : to < 18446744073709551616) (h : ones to 64 = 1) (hx : x < 18446744073709551616) : down x to + to ≤ 18446744073709551616 := by
  obtain ⟨j, hj, rfl⟩ := power to ht h
  have h1 : 18446744073709551616 = 2 ^ (64 - j) * 2 ^ j := by rw [← Nat.pow_add, show 64 - j + j = 64 by omega]
  have h2 : down x (2 ^ j) = x / 2 ^ j * 2 ^ j := by
    have := Nat.div_add_mod x (2 ^ j)
    rw [Nat.mul_comm] at this; unfold down; omega
  have h3 : x / 2 ^ j < 2 ^ (64 - j) := by rw [Nat.div_lt_iff_lt_mul (Nat.two_pow_pos j), ← h1]; exact hx
  rw [h2, h1]
  calc x / 2 ^ j * 2 ^ j + 2 ^ j = (x / 2 ^ j + 1) * 2 ^ j := by rw [Nat.add_mul, Nat.one_mul]
    _ ≤ 2 ^ (64 - j) * 2 ^ j := Nat.mul_le_mul_right _ h3

end WM
end Go.Proofs.YtkomahekdcaiaaaGreatDoor

/- Plain facts about addresses' places and the words of page tables' entries. No program in sight. -/
namespace Go.Proofs.YtkomahekdcaiaaaGreatDoor
namespace EN

/-! Places of an address. -/
/-- How far apart the addresses of a level's neighbours are. -/
def sz (k : Nat) : Nat := 4096 * 512 ^ k
def idx (va l : Nat) : Nat := va / sz (l - 1) % 512

theorem sz_succ (k : Nat) : sz (k + 1) = sz k * 512 := by unfold sz; rw [Nat.pow_succ, Nat.mul_assoc]
theorem sz_pos (k : Nat) : 0 < sz k := Nat.mul_pos (by decide) (Nat.pow_pos (by decide))
theorem sz_le (k : Nat) (h : k ≤ 4) : sz k ≤ 281474976710656 := by
  rcases (by omega : k = 0 ∨ k = 1 ∨ k = 2 ∨ k = 3 ∨ k = 4) with rfl | rfl | rfl | rfl | rfl <;> decide
theorem idx_lt (va l : Nat) : idx va l < 512 := Nat.mod_lt _ (by decide)
theorem idx_take (va l : Nat) (h1 : 1 ≤ l) (h4 : l ≤ 4) : WM.take va (12 + 9 * (l - 1)) 9 = idx va l := by
  unfold WM.take idx
  rcases (by omega : l = 1 ∨ l = 2 ∨ l = 3 ∨ l = 4) with rfl | rfl | rfl | rfl <;> rfl
/-- The sum of the places below a level. -/
def low (va k : Nat) : Nat := va % sz k
theorem low_succ (va k : Nat) : low va (k + 1) = low va k + idx va (k + 1) * sz k := by
  unfold low idx
  rw [sz_succ, Nat.mod_mul, show k + 1 - 1 = k by omega, Nat.mul_comm (sz k)]
theorem low_lt (va k : Nat) : low va k < sz k := Nat.mod_lt _ (sz_pos k)
theorem low_all (va : Nat) (h : va < 140737488355328) : low va 4 = va := by
  unfold low; exact Nat.mod_eq_of_lt (Nat.lt_trans h (by decide))
theorem low_zero (va : Nat) : low va 0 = va % 4096 := rfl
theorem div_sz (va k : Nat) : va / 512 ^ k / 4096 = va / sz k := by
  unfold sz; rw [Nat.div_div_eq_div_mul, Nat.mul_comm]
theorem div_succ (va k : Nat) : va / 512 ^ k / 512 = va / 512 ^ (k + 1) := by
  rw [Nat.div_div_eq_div_mul, Nat.pow_succ]

/-! Words of entries. -/
def perms (P : Int) : Prop := P = 1 ∨ P = 3 ∨ P = 5 ∨ P = 7
/-- A valid entry at a level. -/
def right (T H : Bool) (P : Int) (F : Nat) (L : Int) : Prop :=
  1 ≤ L ∧ L ≤ 4 ∧ F < 68719476736 ∧ ((T = true ∧ 2 ≤ L ∧ H = false ∧ P = 7) ∨ (T = false ∧ perms P ∧ ((H = false ∧ L = 1) ∨ (H = true ∧ L = 2 ∧ F % 512 = 0))))
/-- Its word. -/
def wd (H : Bool) (P : Int) (F : Nat) : Nat :=
  5 + 4096 * F + (if P = 3 ∨ P = 7 then 2 else 0) + (if H = true then 128 else 0) + (if P < 4 then 9223372036854775808 else 0)
def perm (w : Nat) : Int := 1 + (if w / 2 % 2 = 1 then 2 else 0) + (if w / 9223372036854775808 = 0 then 4 else 0)
def frame (w : Nat) : Nat := w / 4096 % 68719476736
def page (w : Nat) : Bool := decide (w % 2 = 1 ∧ w / 4 % 1024 = 1 ∧ w / 281474976710656 % 32768 = 0)
def huge (w : Nat) : Bool := decide (w % 2 = 1 ∧ w / 4 % 524288 = 33 ∧ w / 281474976710656 % 32768 = 0)
def table (w : Nat) : Bool := decide (w % 4096 = 7 ∧ w / 281474976710656 = 0)
/-- The entry that a word says at a level. -/
def rd (w : Nat) (L : Int) : Option (Bool × Bool × Int × Nat) :=
  if L = 1 ∧ page w = true then some (false, false, perm w, frame w)
  else if L = 2 ∧ huge w = true then some (false, true, perm w, frame w)
  else if (2 ≤ L ∧ L ≤ 4) ∧ table w = true then some (true, false, perm w, frame w)
  else none

theorem frame_lt (w : Nat) : frame w < 68719476736 := Nat.mod_lt _ (by decide)
theorem perm_perms (w : Nat) : perms (perm w) := by unfold perm perms; split <;> split <;> omega

theorem and_peel (n a b c d : Nat) (ha : a < 2 ^ n) (hc : c < 2 ^ n) : (a + 2 ^ n * b) &&& (c + 2 ^ n * d) = (a &&& c) + 2 ^ n * (b &&& d) := by
  have hac : a &&& c < 2 ^ n := Nat.and_lt_two_pow _ hc
  apply Nat.eq_of_testBit_eq
  intro i
  rw [Nat.add_comm a, Nat.add_comm c, Nat.add_comm (a &&& c), Nat.testBit_and, Nat.testBit_two_pow_mul_add _ ha, Nat.testBit_two_pow_mul_add _ hc, Nat.testBit_two_pow_mul_add _ hac]
  by_cases h : i < n
  · rw [if_pos h, if_pos h, if_pos h, Nat.testBit_and]
  · rw [if_neg h, if_neg h, if_neg h, Nat.testBit_and]
theorem and_full (n x : Nat) : x &&& (2 ^ n - 1) = x % 2 ^ n := Nat.and_two_pow_sub_one_eq_mod x n

theorem page_and (w : Nat) (hw : w < 18446744073709551616) : w &&& 9223090561878069245 = 5 ↔ page w = true := by
  have e : w = w % 2 + 2 ^ 1 * (w / 2 % 2 + 2 ^ 1 * (w / 4 % 1024 + 2 ^ 10 * (w / 4096 % 68719476736 + 2 ^ 36 * (w / 281474976710656 % 32768 + 2 ^ 15 * (w / 9223372036854775808))))) := by omega
  have m : 9223090561878069245 = (2 ^ 1 - 1) + 2 ^ 1 * (0 + 2 ^ 1 * ((2 ^ 10 - 1) + 2 ^ 10 * (0 + 2 ^ 36 * ((2 ^ 15 - 1) + 2 ^ 15 * 0)))) := by decide
  have h : w &&& 9223090561878069245 = w % 2 + 2 * (0 + 2 * (w / 4 % 1024 + 1024 * (0 + 68719476736 * (w / 281474976710656 % 32768 + 32768 * 0)))) := by
    conv => lhs; rw [e, m]
    rw [and_peel _ _ _ _ _ (by omega) (by decide), and_peel _ _ _ _ _ (by omega) (by decide), and_peel _ _ _ _ _ (by omega) (by decide), and_peel _ _ _ _ _ (by omega) (by decide), and_peel _ _ _ _ _ (by omega) (by decide),
      and_full, and_full, and_full, Nat.and_zero, Nat.and_zero, Nat.and_zero]
    omega
  rw [h]
  unfold page
  rw [decide_eq_true_iff]
  omega

theorem huge_and (w : Nat) (hw : w < 18446744073709551616) : w &&& 9223090561880162301 = 133 ↔ huge w = true := by
  have e : w = w % 2 + 2 ^ 1 * (w / 2 % 2 + 2 ^ 1 * (w / 4 % 524288 + 2 ^ 19 * (w / 2097152 % 134217728 + 2 ^ 27 * (w / 281474976710656 % 32768 + 2 ^ 15 * (w / 9223372036854775808))))) := by omega
  have m : 9223090561880162301 = (2 ^ 1 - 1) + 2 ^ 1 * (0 + 2 ^ 1 * ((2 ^ 19 - 1) + 2 ^ 19 * (0 + 2 ^ 27 * ((2 ^ 15 - 1) + 2 ^ 15 * 0)))) := by decide
  have h : w &&& 9223090561880162301 = w % 2 + 2 * (0 + 2 * (w / 4 % 524288 + 524288 * (0 + 134217728 * (w / 281474976710656 % 32768 + 32768 * 0)))) := by
    conv => lhs; rw [e, m]
    rw [and_peel _ _ _ _ _ (by omega) (by decide), and_peel _ _ _ _ _ (by omega) (by decide), and_peel _ _ _ _ _ (by omega) (by decide), and_peel _ _ _ _ _ (by omega) (by decide), and_peel _ _ _ _ _ (by omega) (by decide),
      and_full, and_full, and_full, Nat.and_zero, Nat.and_zero, Nat.and_zero]
    omega
  rw [h]
  unfold huge
  rw [decide_eq_true_iff]
  omega

theorem table_and (w : Nat) (hw : w < 18446744073709551616) : w &&& 18446462598732845055 = 7 ↔ table w = true := by
  have e : w = w % 4096 + 2 ^ 12 * (w / 4096 % 68719476736 + 2 ^ 36 * (w / 281474976710656)) := by omega
  have m : 18446462598732845055 = (2 ^ 12 - 1) + 2 ^ 12 * (0 + 2 ^ 36 * (2 ^ 16 - 1)) := by decide
  have h : w &&& 18446462598732845055 = w % 4096 + 4096 * (0 + 68719476736 * (w / 281474976710656)) := by
    conv => lhs; rw [e, m]
    rw [and_peel _ _ _ _ _ (by omega) (by decide), and_peel _ _ _ _ _ (by omega) (by decide), and_full, and_full, Nat.and_zero]
    omega
  rw [h]
  unfold table
  rw [decide_eq_true_iff]
  omega

/-- What a word says is a valid entry, and the word is that entry's. -/
theorem rd_right {w : Nat} {L : Int} {T H : Bool} {P : Int} {F : Nat} (hw : w < 18446744073709551616) (h : rd w L = some (T, H, P, F)) : right T H P F L ∧ wd H P F = w := by
  have hp := perm_perms w
  have hf := frame_lt w
  unfold rd at h
  by_cases c1 : L = 1 ∧ page w = true
  · rw [if_pos c1] at h
    simp only [Option.some.injEq, Prod.mk.injEq] at h
    obtain ⟨rfl, rfl, rfl, rfl⟩ := h
    obtain ⟨cl, cp⟩ := c1
    refine ⟨⟨by omega, by omega, hf, .inr ⟨rfl, hp, .inl ⟨rfl, cl⟩⟩⟩, ?_⟩
    unfold page at cp
    rw [decide_eq_true_iff] at cp
    unfold wd perm frame
    rw [if_neg (by decide : ¬ (false = true))]
    split <;> split <;> split <;> split <;> omega
  · rw [if_neg c1] at h
    by_cases c2 : L = 2 ∧ huge w = true
    · rw [if_pos c2] at h
      simp only [Option.some.injEq, Prod.mk.injEq] at h
      obtain ⟨rfl, rfl, rfl, rfl⟩ := h
      obtain ⟨cl, cp⟩ := c2
      unfold huge at cp
      rw [decide_eq_true_iff] at cp
      refine ⟨⟨by omega, by omega, hf, .inr ⟨rfl, hp, .inr ⟨rfl, cl, by unfold frame; omega⟩⟩⟩, ?_⟩
      unfold wd perm frame
      rw [if_pos rfl]
      split <;> split <;> split <;> split <;> omega
    · rw [if_neg c2] at h
      by_cases c3 : (2 ≤ L ∧ L ≤ 4) ∧ table w = true
      · rw [if_pos c3] at h
        simp only [Option.some.injEq, Prod.mk.injEq] at h
        obtain ⟨rfl, rfl, rfl, rfl⟩ := h
        obtain ⟨cl, cp⟩ := c3
        unfold table at cp
        rw [decide_eq_true_iff] at cp
        have hp7 : perm w = 7 := by unfold perm; rw [if_pos (by omega), if_pos (by omega)]; rfl
        refine ⟨⟨by omega, by omega, hf, .inl ⟨rfl, cl.1, rfl, hp7⟩⟩, ?_⟩
        rw [hp7]
        unfold wd frame
        rw [if_pos (by decide), if_neg (by decide), if_neg (by decide)]
        omega
      · rw [if_neg c3] at h
        cases h

theorem wd_lt (H : Bool) (P : Int) (F : Nat) (hF : F < 68719476736) : wd H P F < 18446744073709551616 := by
  unfold wd; split <;> split <;> split <;> omega

/-- A valid entry's word says it. -/
theorem right_rd {T H : Bool} {P : Int} {F : Nat} {L : Int} (h : right T H P F L) : rd (wd H P F) L = some (T, H, P, F) := by
  obtain ⟨h1, h4, hF, h⟩ := h
  rcases h with ⟨rfl, h2, rfl, rfl⟩ | ⟨rfl, hp, h⟩
  · have e : wd false 7 F = 7 + 4096 * F := by unfold wd; rw [if_pos (by decide), if_neg (by decide), if_neg (by decide)]; omega
    rw [e]
    have ht : table (7 + 4096 * F) = true := by unfold table; rw [decide_eq_true_iff]; omega
    have hh : ¬ (L = 2 ∧ huge (7 + 4096 * F) = true) := by unfold huge; rw [decide_eq_true_iff]; omega
    unfold rd
    rw [if_neg (by omega), if_neg hh, if_pos ⟨⟨h2, h4⟩, ht⟩]
    have e1 : perm (7 + 4096 * F) = 7 := by unfold perm; rw [if_pos (by omega), if_pos (by omega)]; rfl
    have e2 : frame (7 + 4096 * F) = F := by unfold frame; omega
    rw [e1, e2]
  · obtain ⟨b, c, hb, hc, hP, e⟩ : ∃ b c : Nat, b < 2 ∧ c < 2 ∧ P = 1 + 2 * b + 4 * (1 - c) ∧ ∀ H : Bool, wd H P F = 5 + 2 * b + (if H = true then 128 else 0) + 4096 * F + 9223372036854775808 * c := by
      rcases hp with rfl | rfl | rfl | rfl
      · exact ⟨0, 1, by decide, by decide, by decide, fun H => by unfold wd; rw [if_neg (by decide), if_pos (by decide : (1 : Int) < 4)]; omega⟩
      · exact ⟨1, 1, by decide, by decide, by decide, fun H => by unfold wd; rw [if_pos (by decide : (3 : Int) = 3 ∨ (3 : Int) = 7), if_pos (by decide : (3 : Int) < 4)]; omega⟩
      · exact ⟨0, 0, by decide, by decide, by decide, fun H => by unfold wd; rw [if_neg (by decide), if_neg (by decide : ¬ (5 : Int) < 4)]; omega⟩
      · exact ⟨1, 0, by decide, by decide, by decide, fun H => by unfold wd; rw [if_pos (by decide : (7 : Int) = 3 ∨ (7 : Int) = 7), if_neg (by decide : ¬ (7 : Int) < 4)]; omega⟩
    rw [e]
    rcases h with ⟨rfl, rfl⟩ | ⟨rfl, rfl, h5⟩
    · rw [if_neg (by decide)]
      have hpg : page (5 + 2 * b + 0 + 4096 * F + 9223372036854775808 * c) = true := by unfold page; rw [decide_eq_true_iff]; omega
      unfold rd
      rw [if_pos ⟨rfl, hpg⟩]
      have e1 : perm (5 + 2 * b + 0 + 4096 * F + 9223372036854775808 * c) = P := by unfold perm; split <;> split <;> omega
      have e2 : frame (5 + 2 * b + 0 + 4096 * F + 9223372036854775808 * c) = F := by unfold frame; omega
      rw [e1, e2]
    · rw [if_pos rfl]
      have hpg : huge (5 + 2 * b + 128 + 4096 * F + 9223372036854775808 * c) = true := by unfold huge; rw [decide_eq_true_iff]; omega
      unfold rd
      rw [if_neg (by omega), if_pos ⟨rfl, hpg⟩]
      have e1 : perm (5 + 2 * b + 128 + 4096 * F + 9223372036854775808 * c) = P := by unfold perm; split <;> split <;> omega
      have e2 : frame (5 + 2 * b + 128 + 4096 * F + 9223372036854775808 * c) = F := by unfold frame; omega
      rw [e1, e2]

theorem rd_wd (T H : Bool) (P : Int) (F : Nat) (L : Int) (w : Nat) (hw : w < 18446744073709551616) (h : rd w L = some (T, H, P, F)) : wd H P F = w := (rd_right hw h).2
theorem wd_pos (H : Bool) (P : Int) (F : Nat) : 5 ≤ wd H P F := by unfold wd; omega

theorem or_peel (n a b c d : Nat) (ha : a < 2 ^ n) (hc : c < 2 ^ n) : (a + 2 ^ n * b) ||| (c + 2 ^ n * d) = (a ||| c) + 2 ^ n * (b ||| d) := by
  have hac : a ||| c < 2 ^ n := Nat.or_lt_two_pow ha hc
  apply Nat.eq_of_testBit_eq
  intro i
  rw [Nat.add_comm a, Nat.add_comm c, Nat.add_comm (a ||| c), Nat.testBit_or, Nat.testBit_two_pow_mul_add _ ha, Nat.testBit_two_pow_mul_add _ hc, Nat.testBit_two_pow_mul_add _ hac]
  by_cases h : i < n
  · rw [if_pos h, if_pos h, if_pos h, Nat.testBit_or]
  · rw [if_neg h, if_neg h, if_neg h, Nat.testBit_or]
/-- A frame laid between low bits and high ones. -/
theorem put_frame (a c F : Nat) (ha : a < 4096) (hc : c < 2) (hF : F < 68719476736) : WM.put (a + 9223372036854775808 * c) 12 36 F = a + 4096 * F + 9223372036854775808 * c := by
  unfold WM.put WM.mask
  have e1 : (a + 9223372036854775808 * c) &&& (18446744073709551615 - (2 ^ 36 - 1) * 2 ^ 12) = a + 9223372036854775808 * c := by
    conv => lhs; rw [show a + 9223372036854775808 * c = a + 2 ^ 12 * (0 + 2 ^ 36 * (32768 * c)) by omega, show 18446744073709551615 - (2 ^ 36 - 1) * 2 ^ 12 = (2 ^ 12 - 1) + 2 ^ 12 * (0 + 2 ^ 36 * (2 ^ 16 - 1)) by decide]
    rw [and_peel _ _ _ _ _ (by omega) (by decide), and_peel _ _ _ _ _ (by decide) (by decide), and_full, and_full, Nat.zero_and]
    omega
  rw [e1]
  conv => lhs; rw [show a + 9223372036854775808 * c = a + 2 ^ 12 * (0 + 2 ^ 36 * (32768 * c)) by omega, show F * 2 ^ 12 = 0 + 2 ^ 12 * (F + 2 ^ 36 * 0) by omega]
  rw [or_peel _ _ _ _ _ (by omega) (by decide), or_peel _ _ _ _ _ (by decide) (by omega), Nat.or_zero, Nat.or_zero, Nat.zero_or]
  omega

/-- The entry that the document tries. -/
def cand (w : Nat) (L : Int) : Bool × Bool × Int × Nat := (decide (2 ≤ L) && !decide (w / 128 % 2 = 1), decide (w / 128 % 2 = 1), perm w, frame w)
theorem rd_cand {w : Nat} {L : Int} {x : Bool × Bool × Int × Nat} (h : rd w L = some x) : x = cand w L := by
  unfold rd at h
  unfold cand
  by_cases c1 : L = 1 ∧ page w = true
  · rw [if_pos c1] at h
    obtain ⟨rfl, cp⟩ := c1
    unfold page at cp
    rw [decide_eq_true_iff] at cp
    rw [← Option.some.inj h, decide_eq_false (by omega : ¬ w / 128 % 2 = 1)]
    rfl
  · rw [if_neg c1] at h
    by_cases c2 : L = 2 ∧ huge w = true
    · rw [if_pos c2] at h
      obtain ⟨rfl, cp⟩ := c2
      unfold huge at cp
      rw [decide_eq_true_iff] at cp
      rw [← Option.some.inj h, decide_eq_true (by omega : w / 128 % 2 = 1)]
      rfl
    · rw [if_neg c2] at h
      by_cases c3 : (2 ≤ L ∧ L ≤ 4) ∧ table w = true
      · rw [if_pos c3] at h
        obtain ⟨cl, cp⟩ := c3
        unfold table at cp
        rw [decide_eq_true_iff] at cp
        rw [← Option.some.inj h, decide_eq_false (by omega : ¬ w / 128 % 2 = 1), decide_eq_true cl.1]
        rfl
      · rw [if_neg c3] at h
        cases h

end EN
end Go.Proofs.YtkomahekdcaiaaaGreatDoor

/- Page tables, on plain numbers: tables by level and place, pages by level and place, words. -/
namespace Go.Proofs.YtkomahekdcaiaaaGreatDoor
namespace RX
set_option linter.unusedVariables false

/-- Tables: level, place, frame. Pages: level (1 or 2), place, frame and permissions. -/
abbrev Tabs := Nat → Nat → Option Nat
abbrev Pags := Nat → Nat → Option (Nat × Int)

/-- The word that describes place c at level l. -/
def word (F : Tabs) (G : Pags) (l c : Nat) : Nat :=
  match F (l - 1) c with
  | some f => EN.wd false 7 f
  | none => match G l c with
    | some (f, p) => EN.wd (decide (l = 2)) p f
    | none => 0
/-- What it says. -/
def ent (F : Tabs) (G : Pags) (l c : Nat) : Bool × Bool × Int × Nat :=
  match F (l - 1) c with
  | some f => (true, false, 7, f)
  | none => match G l c with
    | some (f, p) => (false, decide (l = 2), p, f)
    | none => (false, false, 0, 0)
def pres (F : Tabs) (G : Pags) (l c : Nat) : Bool := (F (l - 1) c).isSome || (G l c).isSome

structure Inv (F : Tabs) (G : Pags) (r n : Nat) : Prop where
  n2 : n ≤ 65536
  root : F 4 0 = some r
  lev : ∀ {l j f}, F l j = some f → 1 ≤ l ∧ l ≤ 4 ∧ (l = 4 → j = 0) ∧ f < n
  inj : ∀ {l j l' j' f}, F l j = some f → F l' j' = some f → l = l' ∧ j = j'
  page : ∀ {k c f p}, G k c = some (f, p) → 1 ≤ k ∧ k ≤ 2 ∧ EN.right false (decide (k = 2)) p f k ∧ c * EN.sz (k - 1) < 140737488355328
  up : ∀ {l j f}, F l j = some f → l ≤ 3 → ∃ f', F (l + 1) (j / 512) = some f'
  way : ∀ {k c x}, G k c = some x → ∃ f', F k (c / 512) = some f'
  apart : ∀ {c x}, G 2 c = some x → F 1 c = none

/-- What is in memory is that. -/
structure Rep (M : Nat → Option (Nat → Nat)) (F : Tabs) (G : Pags) : Prop where
  yes : ∀ {l j f}, F l j = some f → ∃ ws, M f = some ws ∧ ∀ i, i < 512 → ws i = word F G l (512 * j + i)
  no : ∀ {f}, (∀ l j, F l j ≠ some f) → M f = none

/-- Every table but the root has a word. -/
def Used (F : Tabs) (G : Pags) : Prop := ∀ l j f, F l j = some f → l ≤ 3 → ∃ i, i < 512 ∧ pres F G l (512 * j + i) = true

theorem at_sz (va l : Nat) (h : 1 ≤ l) : 512 * (va / EN.sz l) + EN.idx va l = va / EN.sz (l - 1) := by
  obtain ⟨k, rfl⟩ : ∃ k, l = k + 1 := ⟨l - 1, by omega⟩
  unfold EN.idx
  rw [Nat.add_sub_cancel, EN.sz_succ, ← Nat.div_div_eq_div_mul]
  omega
theorem sz_down (va l : Nat) (h : 1 ≤ l) : va / EN.sz (l - 1) / 512 = va / EN.sz l := by
  obtain ⟨k, rfl⟩ : ∃ k, l = k + 1 := ⟨l - 1, by omega⟩
  rw [Nat.add_sub_cancel, EN.sz_succ, ← Nat.div_div_eq_div_mul]
theorem top_zero (va : Nat) (h : va < 140737488355328) : va / EN.sz 4 = 0 := Nat.div_eq_of_lt (by unfold EN.sz; omega)

section
variable {F : Tabs} {G : Pags} {r n : Nat}

theorem word_rd (I : Inv F G r n) {l c f0 : Nat} (h0 : F l (c / 512) = some f0) :
    (pres F G l c = true → EN.rd (word F G l c) (l : Int) = some (ent F G l c)) ∧ (pres F G l c = false → word F G l c = 0 ∧ ent F G l c = (false, false, 0, 0)) ∧ word F G l c < 18446744073709551616 := by
  have hl := I.lev h0
  unfold word ent pres
  cases h1 : F (l - 1) c with
  | some f =>
    have h2 := I.lev h1
    have hn := I.n2
    have hr : EN.right true false 7 f (l : Int) := ⟨by omega, by omega, by omega, .inl ⟨rfl, by omega, rfl, rfl⟩⟩
    exact ⟨fun _ => EN.right_rd hr, fun h => by simp at h, EN.wd_lt _ _ _ (by omega)⟩
  | none =>
    cases h2 : G l c with
    | some x =>
      obtain ⟨f, p⟩ := x
      have h3 := I.page h2
      exact ⟨fun _ => EN.right_rd h3.2.2.1, fun h => by simp at h, EN.wd_lt _ _ _ h3.2.2.1.2.2.1⟩
    | none => exact ⟨fun h => by simp at h, fun _ => ⟨rfl, rfl⟩, by simp⟩

theorem word_zero (I : Inv F G r n) {l c : Nat} : word F G l c = 0 ↔ pres F G l c = false := by
  unfold word pres
  cases h1 : F (l - 1) c with
  | some f => have := EN.wd_pos false 7 f; simp; omega
  | none =>
    cases h2 : G l c with
    | some x => obtain ⟨f, p⟩ := x; have := EN.wd_pos (decide (l = 2)) p f; simp; omega
    | none => simp

/-- The frames of the tables on the way to va, down to level L. -/
structure Way (F : Tabs) (va L : Nat) (fr : Nat → Nat) : Prop where
  l1 : 1 ≤ L
  l4 : L ≤ 4
  on : ∀ k, L ≤ k → k ≤ 4 → F k (va / EN.sz k) = some (fr k)
  off : ∀ k, k < L ∨ 4 < k → fr k = 0
/-- A search that may go down to level lo ends at L. -/
structure Desc (F : Tabs) (va lo L : Nat) (fr : Nat → Nat) : Prop extends Way F va L fr where
  ge : lo ≤ L
  stop : L = lo ∨ F (L - 1) (va / EN.sz (L - 1)) = none

theorem desc_from (I : Inv F G r n) (va lo : Nat) (h1 : 1 ≤ lo) : ∀ (d L : Nat) (fr : Nat → Nat), L = lo + d → Way F va L fr → ∃ L fr, Desc F va lo L fr
  | 0, L, fr, e, h => ⟨L, fr, h, by omega, .inl (by omega)⟩
  | d + 1, L, fr, e, h => by
    cases hF : F (L - 1) (va / EN.sz (L - 1)) with
    | none => exact ⟨L, fr, h, by omega, .inr hF⟩
    | some f =>
      have := h.l4
      refine desc_from I va lo h1 d (L - 1) (fun k => if k = L - 1 then f else fr k) (by omega) ⟨by omega, by omega, fun k hk1 hk2 => ?_, fun k hk => ?_⟩
      · by_cases e2 : k = L - 1
        · simp only [if_pos e2]; rw [e2]; exact hF
        · simp only [if_neg e2]; exact h.on k (by omega) hk2
      · rw [if_neg (by omega)]; exact h.off k (by omega)
theorem way_root (I : Inv F G r n) (va : Nat) (hva : va < 140737488355328) : Way F va 4 (fun k => if k = 4 then r else 0) := by
  refine ⟨by omega, by omega, fun k h1 h2 => ?_, fun k hk => ?_⟩
  · obtain rfl : k = 4 := by omega
    rw [top_zero va hva]; exact I.root
  · rw [if_neg (by omega)]
theorem desc_some (I : Inv F G r n) (va lo : Nat) (hva : va < 140737488355328) (h1 : 1 ≤ lo) (h4 : lo ≤ 4) : ∃ L fr, Desc F va lo L fr :=
  desc_from I va lo h1 (4 - lo) 4 _ (by omega) (way_root I va hva)

/-- The word at the level where one stands. -/
theorem Way.word {va L : Nat} {fr : Nat → Nat} (h : Way F va L fr) {M : Nat → Option (Nat → Nat)} (R : Rep M F G) (k : Nat) (h1 : L ≤ k) (h2 : k ≤ 4) :
    ∃ ws, M (fr k) = some ws ∧ ws (EN.idx va k) = RX.word F G k (va / EN.sz (k - 1)) := by
  obtain ⟨ws, hM, hw⟩ := R.yes (h.on k h1 h2)
  have := h.l1
  refine ⟨ws, hM, ?_⟩
  rw [hw _ (EN.idx_lt va k), at_sz va k (by omega)]
theorem Way.lt (I : Inv F G r n) {va L : Nat} {fr : Nat → Nat} (h : Way F va L fr) (k : Nat) : fr k < 65536 := by
  have := I.n2
  by_cases hk : L ≤ k ∧ k ≤ 4
  · have := (I.lev (h.on k hk.1 hk.2)).2.2.2; omega
  · rw [h.off k (by omega)]; omega
end
end RX
end Go.Proofs.YtkomahekdcaiaaaGreatDoor

/- Small words that the texts of all layers share: a fact hidden from the walk, results that are equations, what is known of the elements of slices. -/
namespace Go.Proofs.YtkomahekdcaiaaaGreatDoor
open Go.ChangeShapes Go.WideShapes Go.ChangeAt Go.RowKit

theorem W_hid {p : Prop} (h : p) : Hid p := h
theorem ret_int {k : IntKind} {a b : Int} (h : a = b) : Ending.returned (.int k a) = .returned (.int k b) := by rw [h]
theorem ret_bool {a b : Bool} (h : a = b) : Ending.returned (.bool a) = .returned (.bool b) := by rw [h]
theorem ret_i64 {a b : Int} (h : a = b) : Ending.returned (.int .i64 a) = .returned (.int .i64 b) := by rw [h]
theorem ret_u64 {a b : Int} (h : a = b) : Ending.returned (.int .u64 a) = .returned (.int .u64 b) := by rw [h]
theorem info_byte : (Tryz.prog.info? 5).map (fun i => (i.zero, i.size, i.bytes)) = some (some (.int .u8 0), 1, 1) := by kernel_rfl

theorem own_ge {w : World} {base e size n : Nat} {v : Value} {xs : List Value} (hown : w.ownsRow base e size v n xs) (g : Nat) (hg : v.ownBlock = some g) : base ≤ g := by
  rcases hown.2 with ⟨rfl, _⟩ | ⟨g', cap, cur, rfl, hb, _⟩
  · cases hg
  · cases hg; exact hb
theorem own_base {w : World} {base base' e size : Nat} {v : Value} {n : Nat} {xs : List Value} (h : base' ≤ base) (hown : w.ownsRow base e size v n xs) : w.ownsRow base' e size v n xs := by
  rcases hown.2 with h0 | ⟨g, cap, cur, h1, h2, h3⟩
  · exact ⟨hown.1, .inl h0⟩
  · exact ⟨hown.1, .inr ⟨g, cap, cur, h1, Nat.le_trans h h2, h3⟩⟩

end Go.Proofs.YtkomahekdcaiaaaGreatDoor

/- Blocks of memory known whole (Blk), what a call leaves that writes into two blocks at most (Two), rows that make lays, a slice of integers that came in; free of any program's numbers. -/
namespace Go.Proofs.YtkomahekdcaiaaaGreatDoor
open Go.ChangeShapes Go.WideShapes Go.ChangeAt Go.RowKit
set_option linter.unusedVariables false
set_option linter.unusedSimpArgs false

theorem laidOut : laidOutB Tryz.prog = true := by kernel_rfl
theorem cell_lt {w : World} {p : Addr} {v : Value} (h : w.cell? p = some v) : p.block < w.heap.size := World.block_lt_of_cell? w p h
theorem bundrew {B : Nat} {w w' : World} (h : Below B w.drew w') : Below B w w' := ⟨h.os, h.tape, h.output, h.size, h.block⟩

/-- Block g is these cells. -/
def Blk (w : World) (g : Nat) (e : TypeId) (l : List Value) : Prop := w.heap[g]? = some (.cells l.toArray e (0, 0))

section
variable {w w' : World} {g : Nat} {e : TypeId} {l : List Value}
theorem Blk.cell (h : Blk w g e l) {j : Nat} {v : Value} (hj : l[j]? = some v) : w.cell? ⟨g, j, none⟩ = some v := by
  rw [cell_of_row w g j _ _ _ h]; simpa using hj
theorem Blk.fz (h : Blk w g e l) (i : Nat) : w.frozen? ⟨g, i, none⟩ = false := by unfold Blk at h; simp [World.frozen?, h]
theorem Blk.lt (h : Blk w g e l) : g < w.heap.size := by
  rcases Nat.lt_or_ge g w.heap.size with hlt | hge
  · exact hlt
  · unfold Blk at h; rw [Array.getElem?_eq_none hge] at h; cases h
theorem Blk.below {B : Nat} (h : Blk w g e l) (hb : Below B w w') (hg : g < B) : Blk w' g e l := (hb.block g hg).trans h
theorem Blk.keep (h : Blk w g e l) (hb : Below w.heap.size w w') : Blk w' g e l := h.below hb h.lt
theorem Blk.alloc (h : Blk w g e l) (o : Obj) : Blk (w.alloc o) g e l := (Below.heap_alloc w o g h.lt).trans h
theorem Blk.grown {row : Option Nat} (h : Blk w g e l) (hb : w.grownBy w' row) (hg : some g ≠ row) : Blk w' g e l := (hb.block g h.lt hg).trans h
theorem Blk.far (h : Blk w g e l) {p : Addr} (hp : g ≠ p.block) (u : Value) : Blk (w.setCell p u) g e l := (Below.heap_setCell w p u g hp).trans h
theorem Blk.set (h : Blk w g e l) (j : Nat) (u : Value) : Blk (w.setCell ⟨g, j, none⟩ u) g e (l.set j u) := by
  unfold Blk at h ⊢
  rw [heap_setCell_same w g j _ _ u h]
  simp
theorem Blk.own {base size n cap : Nat} (h : w.ownsRow base e size (.slice (some ⟨g, 0, none⟩) n n) n l) : Blk w g e l := by
  rcases h.2 with ⟨h', _⟩ | ⟨g', cap', cur, h', _, hg, _, _, hcs, htake⟩
  · simp at h'
  · simp only [Value.slice.injEq, Option.some.injEq, Addr.mk.injEq, and_true, true_and] at h'
    obtain ⟨rfl, rfl⟩ := h'
    rw [List.take_of_length_le (by simp; omega)] at htake
    unfold Blk
    rw [hg, ← htake]
end
theorem Blk.new (w : World) (e : TypeId) (l : List Value) {x : Nat} (hx : x = w.heap.size) : Blk (w.alloc (.cells l.toArray e)) x e l := by subst hx; exact heap_alloc_new w _

/-- All that was there is there, but for blocks g and b. -/
structure Two (g b : Nat) (w w' : World) : Prop where
  os : w'.os = w.os
  tape : w'.tape = w.tape
  output : w'.output = w.output
  size : w.heap.size ≤ w'.heap.size
  block : ∀ k, k < w.heap.size → k ≠ g → k ≠ b → w'.heap[k]? = w.heap[k]?

section
variable {w w' w2 : World} {g b : Nat}
theorem Two.of (h : Below w.heap.size w w') : Two g b w w' := ⟨h.os, h.tape, h.output, h.size, fun k hk _ _ => h.block k hk⟩
theorem Two.refl (g b : Nat) (w : World) : Two g b w w := Two.of (Below.refl _ _)
theorem Two.trans (h : Two g b w w') (k : Two g b w' w2) : Two g b w w2 :=
  ⟨k.os.trans h.os, k.tape.trans h.tape, k.output.trans h.output, Nat.le_trans h.size k.size, fun i hi h1 h2 => (k.block i (Nat.lt_of_lt_of_le hi h.size) h1 h2).trans (h.block i hi h1 h2)⟩
theorem Two.setCell (h : Two g b w w') {p : Addr} (hp : p.block = g ∨ p.block = b) (u : Value) : Two g b w (w'.setCell p u) :=
  h.trans ⟨rfl, rfl, rfl, by simp [World.setCell], fun k hk h1 h2 => Below.heap_setCell _ _ _ _ (by rcases hp with hp | hp <;> omega)⟩
theorem Two.drew (h : Two g b w w') (n : Nat) : Two g b w (w'.drewN n) := ⟨h.os, h.tape, h.output, h.size, h.block⟩
theorem Two.wide (h : Two b b w w') : Two g b w w' := ⟨h.os, h.tape, h.output, h.size, fun k hk _ h2 => h.block k hk h2 h2⟩
theorem Two.below {B : Nat} (h : Two g b w w') (hB : B ≤ w.heap.size) (hg : B ≤ g) (hb : B ≤ b) : Below B w w' := ⟨h.os, h.tape, h.output, h.size, fun k hk => h.block k (by omega) (by omega) (by omega)⟩
theorem Blk.two {x : Nat} {e : TypeId} {l : List Value} (h : Blk w x e l) (t : Two g b w w') (h1 : x ≠ g) (h2 : x ≠ b) : Blk w' x e l := (t.block x h.lt h1 h2).trans h
end
theorem Two.undrew {g b : Nat} {w w' : World} (h : Two g b w.drew w') : Two g b w w' := ⟨h.os, h.tape, h.output, h.size, h.block⟩
theorem made_list (z : Value) (n : Nat) : madeCells #[z] n = (List.replicate n z).toArray := by
  apply Array.ext_getElem?
  intro j
  by_cases h : j < n
  · simp [madeCells, h, Nat.mod_one]
  · rw [Array.getElem?_eq_none (by rw [size_madeCells]; omega), Array.getElem?_eq_none (by simp; omega)]

/-- What the walk is told of a slice of integers that came in. -/
def IsRow (k : IntKind) (w : World) (a : Option Addr) (len cap : Nat) (zs : List Int) : Prop :=
  (a = none ∧ len = 0 ∧ cap = 0 ∧ zs = []) ∨
  ∃ x, a = some x ∧ len ≤ cap ∧ cap ≤ maxLen ∧ zs.length = cap ∧ (∀ i, i < zs.length → w.cell? (x.add i) = some (.int k (zs.getD i 0))) ∧ ∀ n ∈ zs, (Lit.int k n).wf = true

/-- Its numbers, one by one. -/
theorem row_at {w : World} {a : Option Addr} {len cap : Nat} {zs : List Int} (h : IsRow .i64 w a len cap zs) :
    len ≤ maxLen ∧ ∀ j, j < len → ∃ blk off, a = some ⟨blk, off, none⟩ ∧ blk < w.heap.size ∧ w.cell? ⟨blk, off + j, none⟩ = some (.int .i64 (zs.getD j 0)) ∧ -9223372036854775808 ≤ zs.getD j 0 ∧ zs.getD j 0 ≤ 9223372036854775807 := by
  rcases h with ⟨rfl, rfl, rfl, rfl⟩ | ⟨x, rfl, hl, hm, hz, hc, hwf⟩
  · exact ⟨Nat.zero_le _, fun j hj => by omega⟩
  · refine ⟨Nat.le_trans hl hm, fun j hj => ?_⟩
    have h1 := hc j (by omega)
    obtain ⟨b, off, spot⟩ := x
    have h0 := hc 0 (by omega)
    have hs : spot = none := by simpa [Addr.add] using World.cell?_spot h0
    subst hs
    rw [Addr.add_lit] at h1
    have h2 : zs.getD j 0 ∈ zs := by
      rw [List.getD, List.getElem?_eq_getElem (by omega : j < zs.length)]
      exact List.getElem_mem _
    have h3 := bounds_i64 (hwf _ h2)
    exact ⟨b, off, rfl, cell_lt h1, h1, h3.1, h3.2⟩

end Go.Proofs.YtkomahekdcaiaaaGreatDoor

/- The map of tables in memory: a block that is a map of numbers to tables of 512 words. -/
namespace Go.Proofs.YtkomahekdcaiaaaGreatDoor
open Go.ChangeShapes Go.WideShapes Go.ChangeAt Go.RowKit Go.Maps
open Go.WideElems (Fit rd rg pl rd_val rd_key rg_of)
set_option linter.unusedVariables false
set_option linter.unusedSimpArgs false

/-- A table's words, as cells. -/
def tw (ws : Nat → Nat) : List Value := (List.range 512).map fun i => .int .u64 ((ws i : Nat) : Int)
theorem tw_len (ws : Nat → Nat) : (tw ws).length = 512 := by simp [tw]
theorem tw_get (ws : Nat → Nat) (i : Nat) (hi : i < 512) : (tw ws)[i]? = some (.int .u64 ((ws i : Nat) : Int)) := by simp [tw, hi]
theorem tw_congr {ws vs : Nat → Nat} (h : ∀ i, i < 512 → ws i = vs i) : tw ws = tw vs := by
  unfold tw
  exact List.map_congr_left fun i hi => by rw [h i (List.mem_range.1 hi)]
def wset (ws : Nat → Nat) (i v : Nat) : Nat → Nat := fun j => if j = i then v else ws j
theorem tw_set (ws : Nat → Nat) (i v : Nat) (hi : i < 512) : (tw ws).set i (.int .u64 (v : Int)) = tw (wset ws i v) := by
  apply List.ext_getElem?
  intro j
  rw [List.getElem?_set]
  by_cases hj : j < 512
  · rw [tw_get (wset ws i v) j hj]
    by_cases e : i = j
    · subst e
      rw [if_pos rfl, if_pos (by rw [tw_len]; exact hi)]
      simp [wset]
    · rw [if_neg e, tw_get _ _ hj]
      simp [wset, Ne.symm e]
  · have e1 : (tw (wset ws i v))[j]? = none := by rw [List.getElem?_eq_none]; rw [tw_len]; omega
    rw [e1, if_neg (by omega), List.getElem?_eq_none]
    rw [tw_len]; omega
def zero : Nat → Nat := fun _ => 0

/-- How a table reads. -/
def litOf : Value → DataW Unit
  | .int k a => .lit (.int k a)
  | _ => .nil
def TR : Value → Option (DataW Unit × List MemPlace)
  | .agg vs => some (.agg (vs.toList.map litOf), [])
  | _ => none
theorem lit_inv : ∀ {vs : List Value} {zs : List Int}, vs.map litOf = zs.map (fun a => .lit (.int .u64 a)) → vs = zs.map (.int .u64 ·)
  | [], [], _ => rfl
  | [], _ :: _, h => by simp at h
  | _ :: _, [], h => by simp at h
  | v :: vs, a :: zs, h => by
    simp only [List.map_cons, List.cons.injEq] at h
    have h1 : v = .int .u64 a := by
      cases v <;> simp [litOf] at h
      obtain ⟨⟨rfl, rfl⟩, -⟩ := h
      rfl
    rw [List.map_cons, h1, lit_inv h.2]
def td (ws : Nat → Nat) : DataW Unit := .agg ((tw ws).map litOf)
theorem TR_tw (ws : Nat → Nat) : TR (.agg (tw ws).toArray) = some (td ws, []) := by simp [TR, td]
theorem TR_inv {v : Value} {ws : Nat → Nat} {ps : List MemPlace} (h : TR v = some (td ws, ps)) : v = .agg (tw ws).toArray := by
  cases v <;> simp [TR] at h
  rename_i vs
  obtain ⟨h, -⟩ := h
  simp only [td, DataW.agg.injEq] at h
  have e : (tw ws).map litOf = ((List.range 512).map fun i => ((ws i : Nat) : Int)).map (fun a => .lit (.int .u64 a)) := by
    simp [tw, litOf, Function.comp_def]
  rw [e] at h
  have := lit_inv h
  have e2 : tw ws = ((List.range 512).map fun i => ((ws i : Nat) : Int)).map (.int .u64 ·) := by simp [tw, Function.comp_def]
  rw [e2, ← this]

theorem und_map : Tryz.prog.underlying 124 = some (.map 36 156) := by kernel_rfl
theorem und_u64 : Tryz.prog.underlying 36 = some (.int .u64) := by kernel_rfl
theorem keyed_u64 : Keyed Tryz.prog 36 := int_keyed und_u64
def key (f : Nat) : Lit := .int .u64 (f : Int)
theorem wf_u64 {f : Nat} (h : f < 18446744073709551616) : (Lit.int .u64 (f : Int)).wf = true := by simp [Lit.wf, IntKind.min, IntKind.max, IntKind.signed, IntKind.bits]; omega
theorem wf_u64_bounds {x : Int} (h : (Lit.int .u64 x).wf = true) : 0 ≤ x ∧ x < 18446744073709551616 := by
  simp [Lit.wf, IntKind.min, IntKind.max, IntKind.signed, IntKind.bits] at h; omega
theorem key_of (f : Nat) (h : f < 18446744073709551616) : keyOf Tryz.prog 36 (.int .u64 (f : Int)) = some (key f) := keyOf_int_mk und_u64 (wf_u64 h)
theorem key_ne {f g : Nat} (h : f ≠ g) : key f ≠ key g := by
  intro e
  simp only [key, Lit.int.injEq, true_and] at e
  omega
theorem isKey (f : Nat) (h : f < 18446744073709551616) : WideAt.IsKeyLit (key f) := keyed_u64.key (key_of f h)
theorem zero_table (w : World) : (zeroValue 156).run Tryz.prog w = .ok (.agg (tw zero).toArray) w := by kernel_rfl

theorem nodup_le : ∀ (N : Nat) (l : List Nat), l.Nodup → (∀ x ∈ l, x < N) → l.length ≤ N
  | 0, l, _, h => by
    cases l with
    | nil => simp
    | cons a l => have := h a (by simp); omega
  | N + 1, l, hn, h => by
    by_cases hm : N ∈ l
    · have h1 := nodup_le N (l.erase N) (hn.erase N) (fun x hx => by
        have := (hn.mem_erase_iff).1 hx
        have := h x this.2
        omega)
      rw [List.length_erase_of_mem hm] at h1
      omega
    · have := nodup_le N l hn (fun x hx => by
        have h2 := h x hx
        have : x ≠ N := fun e => hm (e ▸ hx)
        omega)
      omega

/-- Block b is a map of these tables. -/
structure MB (w : World) (b : Nat) (M : Nat → Option (Nat → Nat)) : Prop where
  ex : ∃ D : DataW Unit, w.ownsMap Tryz.prog 36 TR b (Maps.size D) D ∧ (∀ f, f < 18446744073709551616 → Maps.has D (key f) = (M f).isSome) ∧ (∀ f ws, f < 18446744073709551616 → M f = some ws → ∀ z, D.atKey (key f) z = td ws)
  bound : ∀ f, M f ≠ none → f < 65536

section
variable {w w' : World} {b : Nat} {M : Nat → Option (Nat → Nat)}

theorem own_tight {n : Nat} {D : DataW Unit} (h : w.ownsMap Tryz.prog 36 TR b n D) : w.ownsMap Tryz.prog 36 TR b (Maps.size D) D := by
  obtain ⟨es, clock, hb, F, hs, rfl⟩ := h
  exact ⟨es, clock, hb, F, by simp [Maps.size, length_sorted], rfl⟩

theorem own_size {n : Nat} {D : DataW Unit} (h : w.ownsMap Tryz.prog 36 TR b n D) (hf : ∀ f, f < 18446744073709551616 → Maps.has D (key f) = true → f < 65536) : Maps.size D ≤ 65536 := by
  obtain ⟨es0, rfl, hne, -⟩ := h.entries keyed_u64
  obtain ⟨es, clock, hb, F, hs, hD⟩ := h
  simp only [DataW.map.injEq] at hD
  have hk : ∀ p ∈ es0, ∃ f : Nat, f < 18446744073709551616 ∧ p.1 = key f := by
    intro p hp
    rw [hD] at hp
    obtain ⟨v, hv⟩ := fit_keys F p (mem_sorted.1 hp)
    obtain ⟨x, rfl, hx, hwf⟩ := Maps.keyOf_int_inv und_u64 hv
    have := wf_u64_bounds hwf
    exact ⟨x.toNat, by omega, by rw [hx]; simp only [key, Lit.int.injEq, true_and]; omega⟩
  have e : (es0.map fun p => match p.1 with | .int _ x => x.toNat | _ => 0).length ≤ 65536 := by
    apply nodup_le
    · unfold List.Nodup
      rw [List.pairwise_map]
      refine hne.imp_of_mem ?_
      intro p q hp hq hpq
      obtain ⟨f, -, e1⟩ := hk p hp
      obtain ⟨g, -, e2⟩ := hk q hq
      rw [e1, e2] at hpq
      rw [e1, e2]
      intro hfg
      apply hpq
      simp only [key, Int.toNat_natCast] at hfg
      rw [hfg]
    · intro x hx
      obtain ⟨p, hp, rfl⟩ := List.mem_map.1 hx
      obtain ⟨f, hf1, e1⟩ := hk p hp
      have := hf f hf1 (by
        rw [Maps.has_eq]
        exact List.any_eq_true.2 ⟨p, hp, by rw [e1]; exact WideAt.sameKey_self (isKey f hf1)⟩)
      rw [e1]
      simpa [key] using this
  simpa [Maps.size] using e

theorem MB.congr (h : MB w b M) {M' : Nat → Option (Nat → Nat)} (hM : ∀ f, (M f = none ↔ M' f = none) ∧ ∀ ws vs, M f = some ws → M' f = some vs → ∀ i, i < 512 → ws i = vs i) : MB w b M' := by
  obtain ⟨⟨D, ho, h1, h2⟩, hb⟩ := h
  refine ⟨⟨D, ho, fun f hf => ?_, fun f vs hf hv z => ?_⟩, fun f hf => hb f fun e => hf ((hM f).1.1 e)⟩
  · rw [h1 f hf]
    have := (hM f).1
    cases hm : M f <;> cases hm' : M' f <;> simp_all
  · cases hm : M f with
    | none => rw [(hM f).1.1 hm] at hv; cases hv
    | some ws =>
      rw [h2 f ws hf hm z]
      unfold td
      rw [tw_congr ((hM f).2 ws vs hm hv)]
theorem MB.lt (h : MB w b M) : b < w.heap.size := by obtain ⟨D, ho, _⟩ := h.ex; exact ho.lt
theorem MB.grown (h : MB w b M) {row : Option Nat} (hg : w.grownBy w' row) (hne : some b ≠ row) : MB w' b M := by
  obtain ⟨⟨D, ho, h1, h2⟩, hb⟩ := h
  exact ⟨⟨D, ho.kept hg hne, h1, h2⟩, hb⟩
theorem MB.heap (h : MB w b M) (e : w'.heap[b]? = w.heap[b]?) : MB w' b M := by
  obtain ⟨⟨D, ⟨es, clock, hb, F, hs, hD⟩, h1, h2⟩, hbd⟩ := h
  exact ⟨⟨D, ⟨es, clock, e.trans hb, F, hs, hD⟩, h1, h2⟩, hbd⟩
theorem MB.keep (h : MB w b M) (hb : Below w.heap.size w w') : MB w' b M := h.heap (hb.block b h.lt)
theorem MB.far (h : MB w b M) {p : Addr} (hp : b ≠ p.block) (u : Value) : MB (w.setCell p u) b M := h.heap (Below.heap_setCell w p u b hp)
theorem MB.alloc (h : MB w b M) (o : Obj) : MB (w.alloc o) b M := h.heap (Below.heap_alloc w o b h.lt)
theorem MB.drew (h : MB w b M) (t : Nat) : MB (w.drewN t) b M := h.heap rfl

/-- A look-up. -/
theorem MB.look (h : MB w b M) (f : Nat) (hf : f < 18446744073709551616) :
    (Instr.lookup 124 (.map (some b)) (.int .u64 (f : Int)) false).run Tryz.prog w = .ok (.agg (tw ((M f).getD zero)).toArray) w := by
  obtain ⟨⟨D, ho, h1, h2⟩, hb⟩ := h
  obtain ⟨v, ps, hrun, hv⟩ := ho.lookup keyed_u64 und_map (zero_table w) (TR_tw zero) (key_of f hf)
  have e : v = .agg (tw ((M f).getD zero)).toArray := by
    apply TR_inv (ps := ps)
    rw [hv]
    cases hm : M f with
    | none => have := h1 f hf; rw [hm] at this; rw [Maps.atKey_of_not_has (by simpa using this)]; rfl
    | some ws => rw [h2 f ws hf hm]; rfl
  rw [hrun, e]
theorem MB.look_ok (h : MB w b M) (f : Nat) (hf : f < 18446744073709551616) :
    (Instr.lookup 124 (.map (some b)) (.int .u64 (f : Int)) true).run Tryz.prog w = .ok (.tuple #[.agg (tw ((M f).getD zero)).toArray, .bool (M f).isSome]) w := by
  obtain ⟨⟨D, ho, h1, h2⟩, hb⟩ := h
  obtain ⟨v, ps, hrun, hv⟩ := ho.look_ok keyed_u64 und_map (zero_table w) (TR_tw zero) (key_of f hf)
  rw [hrun, h1 f hf]
  have e : v = .agg (tw ((M f).getD zero)).toArray := by
    apply TR_inv (ps := ps)
    rw [hv]
    cases hm : M f with
    | none => have := h1 f hf; rw [hm] at this; rw [Maps.atKey_of_not_has (by simpa using this)]; rfl
    | some ws => rw [h2 f ws hf hm]; rfl
  rw [e]

def upd (M : Nat → Option (Nat → Nat)) (f : Nat) (x : Option (Nat → Nat)) : Nat → Option (Nat → Nat) := fun g => if g = f then x else M g

/-- A store. -/
theorem MB.put (h : MB w b M) (f : Nat) (ws : Nat → Nat) (hf : f < 65536) :
    ∃ w', (Instr.mapUpdate 124 (.map (some b)) (.int .u64 (f : Int)) (.agg (tw ws).toArray)).run Tryz.prog w = .ok () w' ∧ MB w' b (upd M f (some ws)) ∧ w.grownBy w' (some b) ∧ w'.heap.size = w.heap.size := by
  obtain ⟨⟨D, ho, h1, h2⟩, hb⟩ := h
  have hf2 : f < 18446744073709551616 := by omega
  have hsz : Maps.size D ≤ 65536 := own_size ho (fun g hg hh => hb g (by rw [h1 g hg] at hh; intro e; rw [e] at hh; simp at hh))
  obtain ⟨w', hrun, ho', ht⟩ := ho.store keyed_u64 und_map (by unfold maxLen; omega) (key_of f hf2) (TR_tw ws)
  refine ⟨w', hrun, ⟨⟨_, own_tight ho', fun g hg => ?_, fun g vs hg hv z => ?_⟩, fun g hg => ?_⟩, ht.grown, ?_⟩
  · unfold upd
    by_cases e : g = f
    · subst e; rw [if_pos rfl, Maps.has_put_same ho.isMap (isKey g hg)]; rfl
    · rw [if_neg e, Maps.has_put_other (key_ne e), h1 g hg]
  · unfold upd at hv
    by_cases e : g = f
    · subst e; rw [if_pos rfl] at hv; cases hv; exact Maps.atKey_put_same ho.isMap (isKey g hg) _ _
    · rw [if_neg e] at hv; rw [Maps.atKey_put_other (key_ne e)]; exact h2 g vs hg hv z
  · unfold upd at hg
    by_cases e : g = f
    · omega
    · rw [if_neg e] at hg; exact hb g hg
  · obtain ⟨es, c, es', c', hbb, rfl⟩ := ht
    simp [ChangeMaps.setBlock]

/-- A key is struck. -/
theorem MB.del (h : MB w b M) (f : Nat) (hf : f < 18446744073709551616) (ty : TypeId) :
    ∃ w', (Builtin.delete_ #[124, 36] ty #[.map (some b), .int .u64 (f : Int)]).run Tryz.prog w = .ok (.tuple #[]) w' ∧ MB w' b (upd M f none) ∧ w.grownBy w' (some b) ∧ w'.heap.size = w.heap.size := by
  obtain ⟨⟨D, ho, h1, h2⟩, hb⟩ := h
  obtain ⟨w', hrun, ho', ht⟩ := ho.drop keyed_u64 und_map (key_of f hf) ty
  refine ⟨w', hrun, ⟨⟨_, own_tight ho', fun g hg => ?_, fun g vs hg hv z => ?_⟩, fun g hg => ?_⟩, ht.grown, ?_⟩
  · unfold upd
    by_cases e : g = f
    · subst e; rw [if_pos rfl, Maps.has_del_same]; rfl
    · rw [if_neg e, Maps.has_del_other (key_ne e), h1 g hg]
  · unfold upd at hv
    by_cases e : g = f
    · rw [if_pos e] at hv; cases hv
    · rw [if_neg e] at hv; rw [Maps.atKey_del_other (key_ne e)]; exact h2 g vs hg hv z
  · unfold upd at hg
    by_cases e : g = f
    · rw [if_pos e] at hg; exact absurd rfl hg
    · rw [if_neg e] at hg; exact hb g hg
  · obtain ⟨es, c, es', c', hbb, rfl⟩ := ht
    simp [ChangeMaps.setBlock]

theorem MB.new (w : World) : MB (w.alloc (.map #[] 0)) w.heap.size (fun _ => none) :=
  ⟨⟨.map [], own_tight (World.ownsMap_made w _ _ TR), fun _ _ => rfl, fun _ _ _ h => by cases h⟩, fun _ h => absurd rfl h⟩
end
end Go.Proofs.YtkomahekdcaiaaaGreatDoor

/- Contracts of the functions of package word: what each returns, for all arguments; memory that was there is unchanged. -/
namespace Go.Proofs.YtkomahekdcaiaaaGreatDoor
open Go.ChangeShapes Go.WideShapes Go.ChangeAt Go.RowKit
set_option linter.unusedVariables false


theorem and_one (x i : Nat) (hx : x < 18446744073709551616) : bits BinOp.and IntKind.u64 ((x : Int) / 2 ^ i) 1 = ((WM.bit x i : Nat) : Int) := by
  have e : ((x : Int) / 2 ^ i) = ((x / 2 ^ i : Nat) : Int) := by simp
  have h : x / 2 ^ i < 18446744073709551616 := Nat.lt_of_le_of_lt (Nat.div_le_self _ _) hx
  have h1 : (1 : Int) = ((1 : Nat) : Int) := rfl
  rw [e, h1, u64_and_nat _ _ h (by decide), nat_mask1]; rfl

theorem wrap_in (n : Nat) (h : n < 18446744073709551616) : IntKind.u64.wrap (n : Int) = n := by
  rw [IntKind.wrap_u64]; omega

theorem and_is1 (x i : Nat) (hx : x < 18446744073709551616) (h : WM.bit x i = 1) :
    (bits BinOp.and IntKind.u64 ((x : Int) / 2 ^ i) 1 == 1) = true ∧ (bits BinOp.and IntKind.u64 ((x : Int) / 2 ^ i) 1 == 0) = false := by
  rw [and_one x i hx, h]; decide
theorem and_is0 (x i : Nat) (hx : x < 18446744073709551616) (h : WM.bit x i = 0) :
    (bits BinOp.and IntKind.u64 ((x : Int) / 2 ^ i) 1 == 1) = false ∧ (bits BinOp.and IntKind.u64 ((x : Int) / 2 ^ i) 1 == 0) = true := by
  rw [and_one x i hx, h]; decide

set_option maxRecDepth 100000 in
set_option maxHeartbeats 400000 in
theorem ones_any (x : Nat) (hx : x < 18446744073709551616) (w : World) :
    Calls Tryz.prog 159 #[.int .u64 x] w fun e w' => e = .returned (.int .i64 ((WM.ones x 64 : Nat) : Int)) ∧ w = w' := by
  go_enter Tryz.func159, Tryz.ntmps159
  go_wp2
  go_loop [3, 4, 5] (fun o v i => ∃ k : Nat, k ≤ 64 ∧ i = .int .i64 k ∧ o = .int .i64 ((WM.ones x k : Nat) : Int)) (fun _ _ i => (64 - intOf i).toNat)
  case atStart => exact ⟨0, by omega, rfl, rfl⟩
  case round =>
    obtain ⟨k, hk, rfl, rfl⟩ := hrel
    have hl := WM.ones_le x k
    by_cases hlt : k < 64
    · rcases WM.bit_01 x k with h01 | h01
      · have hb := (and_is0 x k hx h01).1
        have hs : Hid (WM.ones x (k + 1) = WM.ones x k) := by show WM.ones x k + WM.bit x k = _; rw [h01]; rfl
        clear h01
        go_wp2
        go_round
        case rel => exact ⟨k + 1, by omega, by go_num, by rw [hs.out]⟩
        case measure => simp [intOf]; omega
      · have hb := (and_is1 x k hx h01).1
        have hs : Hid (WM.ones x (k + 1) = WM.ones x k + 1) := by show WM.ones x k + WM.bit x k = _; rw [h01]
        clear h01
        go_wp2
        go_round
        case rel => exact ⟨k + 1, by omega, by go_num, by rw [hs.out]; go_num⟩
        case measure => simp [intOf]; omega
    · have h64 : Hid (k = 64) := (by omega : k = 64)
      go_wp2
      go_ret
      exact ⟨ret_i64 (by rw [h64.out]), rfl⟩

/-! ### Fields -/
theorem ret_tmp_world {w0 w w' : World} {r : Ending} (h : Below w0.heap.size w0 w') : r = r ∧ Below w0.heap.size w0 w' := ⟨rfl, h⟩

set_option maxRecDepth 100000 in
set_option maxHeartbeats 400000 in
theorem valid_yes (lo n : Nat) (h : lo + n ≤ 64) (w : World) :
    Calls Tryz.prog 126 #[.agg #[.int .i64 lo, .int .i64 n]] w fun e w' => e = .returned (.bool true) ∧ Below w.heap.size w w' := by
  have h1 : (0 : Int) ≤ (lo : Int) := by omega
  have h2 : (0 : Int) ≤ (n : Int) := by omega
  have h3 : decide ((n : Int) ≤ 64 - (lo : Int)) = true := by simp; omega
  go_enter Tryz.func126, Tryz.ntmps126
  go_wp2
  go_ret
  exact ⟨rfl, (Below.refl _ _).alloc (Nat.le_refl _) _⟩

set_option maxRecDepth 100000 in
set_option maxHeartbeats 400000 in
theorem valid_no (lo n : Int) (hlo : -9223372036854775808 ≤ lo ∧ lo ≤ 9223372036854775807) (h : ¬ (0 ≤ lo ∧ 0 ≤ n ∧ n ≤ 64 - lo)) (w : World) :
    Calls Tryz.prog 126 #[.agg #[.int .i64 lo, .int .i64 n]] w fun e w' => e = .returned (.bool false) ∧ Below w.heap.size w w' := by
  obtain ⟨hl1, hl2⟩ := hlo
  by_cases c1 : 0 ≤ lo
  · by_cases c2 : 0 ≤ n
    · have c3 : decide (n ≤ 64 - lo) = false := by simp; omega
      clear h
      go_enter Tryz.func126, Tryz.ntmps126
      go_wp2
      go_ret
      exact ⟨rfl, (Below.refl _ _).alloc (Nat.le_refl _) _⟩
    · have c4 : decide (0 ≤ n) = false := by simp; omega
      clear h c2
      go_enter Tryz.func126, Tryz.ntmps126
      go_wp2
      go_ret
      exact ⟨rfl, (Below.refl _ _).alloc (Nat.le_refl _) _⟩
  · have c4 : decide (0 ≤ lo) = false := by simp; omega
    clear h c1
    go_enter Tryz.func126, Tryz.ntmps126
    go_wp2
    go_ret
    exact ⟨rfl, (Below.refl _ _).alloc (Nat.le_refl _) _⟩

theorem mask_wraps (lo n : Nat) (h : lo + n ≤ 64) :
    IntKind.u64.wrap (IntKind.u64.wrap (IntKind.u64.wrap (2 ^ n) - 1) * 2 ^ lo) = ((WM.mask lo n : Nat) : Int) := by
  have hm := WM.mask_lt lo n h
  have hp := Nat.two_pow_pos n
  have e2 : ∀ k : Nat, ((2 : Int) ^ k) = ((2 ^ k : Nat) : Int) := by intro k; simp
  rw [IntKind.wrap_u64, IntKind.wrap_u64, IntKind.wrap_u64, e2, e2]
  by_cases h64 : n = 64
  · subst h64
    obtain rfl : lo = 0 := by omega
    rfl
  · have hn : 2 ^ n < 2 ^ 64 := Nat.pow_lt_pow_right (by decide) (by omega)
    have e1 : (((2 ^ n : Nat) : Int) % 18446744073709551616 - 1) % 18446744073709551616 = ((2 ^ n - 1 : Nat) : Int) := by omega
    rw [e1, ← Int.natCast_mul]
    unfold WM.mask
    unfold WM.mask at hm
    omega

set_option maxRecDepth 100000 in
set_option maxHeartbeats 400000 in
theorem mask_yes (lo n : Nat) (h : lo + n ≤ 64) (w : World) :
    Calls Tryz.prog 127 #[.agg #[.int .i64 lo, .int .i64 n]] w fun e w' => e = .returned (.int .u64 ((WM.mask lo n : Nat) : Int)) ∧ Below w.heap.size w w' := by
  have hm := W_hid (mask_wraps lo n h)
  go_enter Tryz.func127, Tryz.ntmps127
  go_wp2
  go_quiet (fail)
  go_wp2
  go_ret
  exact ⟨ret_u64 hm.out, below_drewN ((Below.refl _ _).alloc (Nat.le_refl _) _) _⟩

set_option maxRecDepth 100000 in
set_option maxHeartbeats 400000 in
theorem demand_valid_yes (lo n : Nat) (h : lo + n ≤ 64) (w : World) :
    Calls Tryz.prog 125 #[.func (Fn.func 126) #[.agg #[.int .i64 lo, .int .i64 n]] #[]] w fun e w' => e = .returned (.int .i64 0) ∧ Below w.heap.size w w' := by
  go_enter Tryz.func125, Tryz.ntmps125
  go_wp2_with (go_at_call 126; refine (valid_yes lo n h _).mono ?_; rintro e w' ⟨rfl, hb⟩)
  go_ret
  exact ⟨rfl, hb⟩

set_option maxRecDepth 100000 in
set_option maxHeartbeats 400000 in
theorem demand_valid_no (lo n : Int) (hlo : -9223372036854775808 ≤ lo ∧ lo ≤ 9223372036854775807) (h : ¬ (0 ≤ lo ∧ 0 ≤ n ∧ n ≤ 64 - lo)) (w : World) :
    Calls Tryz.prog 125 #[.func (Fn.func 126) #[.agg #[.int .i64 lo, .int .i64 n]] #[]] w fun e w' => e = .returned (.int .i64 2) ∧ Below w.heap.size w w' := by
  have c := fun w => valid_no lo n hlo h w
  clear h
  go_enter Tryz.func125, Tryz.ntmps125
  go_wp2_with (go_at_call 126; refine (c _).mono ?_; rintro e w' ⟨rfl, hb⟩)
  go_ret
  exact ⟨rfl, hb⟩

/-- Behind a call that made memory: old cells read as before. -/
theorem bcell {W w1 : World} (hb : Below W.heap.size W w1) : (∀ b o, b < W.heap.size → w1.cell? ⟨b, o, none⟩ = W.cell? ⟨b, o, none⟩) ∧ (∀ b o, b < W.heap.size → w1.frozen? ⟨b, o, none⟩ = W.frozen? ⟨b, o, none⟩) :=
  ⟨fun b o h => hb.cell (p := ⟨b, o, none⟩) h, fun b o h => hb.frozen (p := ⟨b, o, none⟩) h⟩

set_option maxRecDepth 100000 in
set_option maxHeartbeats 400000 in
theorem take_yes (x lo n : Nat) (hx : x < 18446744073709551616) (h : lo + n ≤ 64) (w : World) :
    Calls Tryz.prog 84 #[.int .u64 x, .int .i64 lo, .int .i64 n] w fun e w' => e = .returned (.tuple #[.int .u64 ((WM.take x lo n : Nat) : Int), .int .i64 0]) ∧ Below w.heap.size w w' := by
  go_enter Tryz.func84, Tryz.ntmps84
  go_wp2_with (first | (go_at_call 125; refine (demand_valid_yes lo n h _).mono ?_; rintro e w1 ⟨rfl, hb⟩; obtain ⟨hc, hf⟩ := bcell hb) | (go_at_call 127; refine (mask_yes lo n h _).mono ?_; rintro e w2 ⟨rfl, hb2⟩))
  go_ret2
  have ht : Hid (bits BinOp.and IntKind.u64 (x : Int) ((WM.mask lo n : Nat) : Int) / 2 ^ lo = ((WM.take x lo n : Nat) : Int)) := by
    have hm := WM.mask_lt lo n h
    show _ = _
    rw [u64_and_nat _ _ hx (by simpa using hm), ← WM.take_and]
    simp
  exact ⟨by rw [ht.out]; rfl, (((Below.refl _ _).alloc (Nat.le_refl _) _).trans (hb.mono (by simp))).trans (hb2.mono (by have := hb.size; simp at this; omega))⟩

set_option maxRecDepth 100000 in
set_option maxHeartbeats 400000 in
theorem take_no (x : Int) (lo n : Int) (hlo : -9223372036854775808 ≤ lo ∧ lo ≤ 9223372036854775807) (h : ¬ (0 ≤ lo ∧ 0 ≤ n ∧ n ≤ 64 - lo)) (w : World) :
    Calls Tryz.prog 84 #[.int .u64 x, .int .i64 lo, .int .i64 n] w fun e w' => e = .returned (.tuple #[.int .u64 0, .int .i64 2]) ∧ Below w.heap.size w w' := by
  have c := fun w => demand_valid_no lo n hlo h w
  clear h
  go_enter Tryz.func84, Tryz.ntmps84
  go_wp2_with (first | (go_at_call 125; refine (c _).mono ?_; rintro e w1 ⟨rfl, hb⟩; obtain ⟨hc, hf⟩ := bcell hb))
  go_ret2
  exact ⟨rfl, (((Below.refl _ _).alloc (Nat.le_refl _) _).trans (hb.mono (by simp)))⟩

set_option maxRecDepth 100000 in
set_option maxHeartbeats 400000 in
theorem put_no (x lo n v : Int) (hlo : -9223372036854775808 ≤ lo ∧ lo ≤ 9223372036854775807) (h : ¬ (0 ≤ lo ∧ 0 ≤ n ∧ n ≤ 64 - lo)) (w : World) :
    Calls Tryz.prog 145 #[.int .u64 x, .int .i64 lo, .int .i64 n, .int .u64 v] w fun e w' => e = .returned (.tuple #[.int .u64 0, .int .i64 2]) ∧ Below w.heap.size w w' := by
  have c := fun w => demand_valid_no lo n hlo h w
  clear h
  go_enter Tryz.func145, Tryz.ntmps145
  go_wp2_with (first | (go_at_call 125; refine (c _).mono ?_; rintro e w1 ⟨rfl, hb⟩; obtain ⟨hc, hf⟩ := bcell hb))
  go_ret2
  exact ⟨rfl, (((Below.refl _ _).alloc (Nat.le_refl _) _).trans (hb.mono (by simp)))⟩

theorem div_pow_ne (v n : Nat) (h : 2 ^ n ≤ v) : (((v : Int) / 2 ^ n) != 0) = true := by
  have e : ((v : Int) / 2 ^ n) = ((v / 2 ^ n : Nat) : Int) := by simp
  have : 0 < v / 2 ^ n := Nat.div_pos h (Nat.two_pow_pos n)
  rw [e]; simp; omega
theorem div_pow_eq (v n : Nat) (h : v < 2 ^ n) : (((v : Int) / 2 ^ n) != 0) = false := by
  have e : ((v : Int) / 2 ^ n) = ((v / 2 ^ n : Nat) : Int) := by simp
  rw [e, Nat.div_eq_of_lt h]; rfl

set_option maxRecDepth 100000 in
set_option maxHeartbeats 400000 in
theorem put_high (x : Int) (lo n v : Nat) (h : lo + n ≤ 64) (hv : 2 ^ n ≤ v) (w : World) :
    Calls Tryz.prog 145 #[.int .u64 x, .int .i64 lo, .int .i64 n, .int .u64 v] w fun e w' => e = .returned (.tuple #[.int .u64 0, .int .i64 2]) ∧ Below w.heap.size w w' := by
  have hq := div_pow_ne v n hv
  clear hv
  go_enter Tryz.func145, Tryz.ntmps145
  go_wp2_with (first | (go_at_call 125; refine (demand_valid_yes lo n h _).mono ?_; rintro e w1 ⟨rfl, hb⟩; obtain ⟨hc, hf⟩ := bcell hb))
  go_ret2
  exact ⟨rfl, (((Below.refl _ _).alloc (Nat.le_refl _) _).trans (hb.mono (by simp)))⟩

theorem put_spell (x lo n v : Nat) (hx : x < 18446744073709551616) (h : lo + n ≤ 64) (hv : v < 2 ^ n) :
    bits BinOp.or IntKind.u64 (bits BinOp.andNot IntKind.u64 (x : Int) ((WM.mask lo n : Nat) : Int)) (IntKind.u64.wrap ((v : Int) * 2 ^ lo)) = ((WM.put x lo n v : Nat) : Int) := by
  have hm := WM.mask_lt lo n h
  have e2 : ∀ k : Nat, ((2 : Int) ^ k) = ((2 ^ k : Nat) : Int) := by intro k; simp
  have h3 : v * 2 ^ lo < 2 ^ 64 := by
    calc v * 2 ^ lo < 2 ^ n * 2 ^ lo := Nat.mul_lt_mul_of_pos_right hv (Nat.two_pow_pos lo)
      _ = 2 ^ (n + lo) := (Nat.pow_add 2 n lo).symm
      _ ≤ 2 ^ 64 := Nat.pow_le_pow_right (by decide) (by omega)
  rw [u64_andNot_nat _ _ hx (by simpa using hm), e2, ← Int.natCast_mul, wrap_in _ (by simpa using h3)]
  exact u64_or_nat _ _ (Nat.lt_of_le_of_lt Nat.and_le_left hx) (by simpa using h3)

set_option maxRecDepth 100000 in
set_option maxHeartbeats 400000 in
theorem put_yes (x lo n v : Nat) (hx : x < 18446744073709551616) (h : lo + n ≤ 64) (hv : v < 2 ^ n) (w : World) :
    Calls Tryz.prog 145 #[.int .u64 x, .int .i64 lo, .int .i64 n, .int .u64 v] w fun e w' => e = .returned (.tuple #[.int .u64 ((WM.put x lo n v : Nat) : Int), .int .i64 0]) ∧ Below w.heap.size w w' := by
  have hq := div_pow_eq v n hv
  have hv' := W_hid hv
  clear hv
  go_enter Tryz.func145, Tryz.ntmps145
  go_wp2_with (first | (go_at_call 125; refine (demand_valid_yes lo n h _).mono ?_; rintro e w1 ⟨rfl, hb⟩; obtain ⟨hc, hf⟩ := bcell hb))
  go_region_with (go_at_call 127; refine (mask_yes lo n h _).mono ?_; rintro e w2 ⟨rfl, hb2⟩; obtain ⟨hc2, hf2⟩ := bcell hb2)
  all_goals
    go_wp2
    go_ret2
    have ht : Hid (bits BinOp.or IntKind.u64 (bits BinOp.andNot IntKind.u64 (x : Int) ((WM.mask lo n : Nat) : Int)) (IntKind.u64.wrap ((v : Int) * 2 ^ lo)) = ((WM.put x lo n v : Nat) : Int)) := put_spell x lo n v hx h hv'.out
    exact ⟨by rw [ht.out]; rfl, (((Below.refl _ _).alloc (Nat.le_refl _) _).trans (hb.mono (by simp))).trans (Below.drew (Below.refl _ _) |>.trans (hb2.mono (by have := hb.size; simp at this; show w.heap.size ≤ w1.heap.size; omega)))⟩

/-! ### Rounding -/
set_option maxRecDepth 100000 in
set_option maxHeartbeats 400000 in
theorem power_yes (x : Nat) (hx : x < 18446744073709551616) (h : WM.ones x 64 = 1) (w : World) :
    Calls Tryz.prog 132 #[.int .u64 x] w fun e w' => e = .returned (.bool true) ∧ w = w' := by
  have hh : (((WM.ones x 64 : Nat) : Int) == 1) = true := by rw [h]; rfl
  clear h
  go_enter Tryz.func132, Tryz.ntmps132
  go_wp2_with (go_at_call 159; refine (ones_any x hx _).mono ?_; rintro e w' ⟨rfl, rfl⟩)
  go_ret
  exact ⟨rfl, rfl⟩

set_option maxRecDepth 100000 in
set_option maxHeartbeats 400000 in
theorem power_no (x : Nat) (hx : x < 18446744073709551616) (h : WM.ones x 64 ≠ 1) (w : World) :
    Calls Tryz.prog 132 #[.int .u64 x] w fun e w' => e = .returned (.bool false) ∧ w = w' := by
  have hh : (((WM.ones x 64 : Nat) : Int) == 1) = false := by simp; omega
  clear h
  go_enter Tryz.func132, Tryz.ntmps132
  go_wp2_with (go_at_call 159; refine (ones_any x hx _).mono ?_; rintro e w' ⟨rfl, rfl⟩)
  go_ret
  exact ⟨rfl, rfl⟩

set_option maxRecDepth 100000 in
set_option maxHeartbeats 400000 in
theorem demand_power_yes (x : Nat) (hx : x < 18446744073709551616) (h : WM.ones x 64 = 1) (w : World) :
    Calls Tryz.prog 125 #[.func (Fn.func 132) #[.int .u64 x] #[]] w fun e w' => e = .returned (.int .i64 0) ∧ w = w' := by
  have hh := W_hid h
  clear h
  go_enter Tryz.func125, Tryz.ntmps125
  go_wp2_with (go_at_call 132; refine (power_yes x hx hh.out _).mono ?_; rintro e w' ⟨rfl, rfl⟩)
  go_ret
  exact ⟨rfl, rfl⟩

set_option maxRecDepth 100000 in
set_option maxHeartbeats 400000 in
theorem demand_power_no (x : Nat) (hx : x < 18446744073709551616) (h : WM.ones x 64 ≠ 1) (w : World) :
    Calls Tryz.prog 125 #[.func (Fn.func 132) #[.int .u64 x] #[]] w fun e w' => e = .returned (.int .i64 2) ∧ w = w' := by
  have hh := W_hid h
  clear h
  go_enter Tryz.func125, Tryz.ntmps125
  go_wp2_with (go_at_call 132; refine (power_no x hx hh.out _).mono ?_; rintro e w' ⟨rfl, rfl⟩)
  go_ret
  exact ⟨rfl, rfl⟩

theorem andNot_spell (x to : Nat) (hx : x < 18446744073709551616) (ht : to < 18446744073709551616) (h : WM.ones to 64 = 1) :
    bits BinOp.andNot IntKind.u64 (x : Int) (IntKind.u64.wrap ((to : Int) - 1)) = ((WM.down x to : Nat) : Int) := by
  have hp := WM.pos to ht h
  have e : ((to : Int) - 1) = ((to - 1 : Nat) : Int) := by omega
  rw [e, wrap_in _ (by omega), u64_andNot_nat _ _ hx (by omega), WM.down_clear x to hx ht h]

set_option maxRecDepth 100000 in
set_option maxHeartbeats 400000 in
theorem down_yes (x to : Nat) (hx : x < 18446744073709551616) (ht : to < 18446744073709551616) (h : WM.ones to 64 = 1) (w : World) :
    Calls Tryz.prog 89 #[.int .u64 x, .int .u64 to] w fun e w' => e = .returned (.tuple #[.int .u64 ((WM.down x to : Nat) : Int), .int .i64 0]) ∧ w = w' := by
  have hs := W_hid (andNot_spell x to hx ht h)
  have hh := W_hid h
  clear h
  go_enter Tryz.func89, Tryz.ntmps89
  go_wp2_with (go_at_call 125; refine (demand_power_yes to ht hh.out _).mono ?_; rintro e w' ⟨rfl, rfl⟩)
  go_ret2
  exact ⟨by rw [hs.out]; rfl, rfl⟩

set_option maxRecDepth 100000 in
set_option maxHeartbeats 400000 in
theorem down_no (x : Int) (to : Nat) (ht : to < 18446744073709551616) (h : WM.ones to 64 ≠ 1) (w : World) :
    Calls Tryz.prog 89 #[.int .u64 x, .int .u64 to] w fun e w' => e = .returned (.tuple #[.int .u64 0, .int .i64 2]) ∧ w = w' := by
  have hh := W_hid h
  clear h
  go_enter Tryz.func89, Tryz.ntmps89
  go_wp2_with (go_at_call 125; refine (demand_power_no to ht hh.out _).mono ?_; rintro e w' ⟨rfl, rfl⟩)
  go_ret2
  exact ⟨rfl, rfl⟩

set_option maxRecDepth 100000 in
set_option maxHeartbeats 400000 in
theorem up_no (x : Int) (to : Nat) (ht : to < 18446744073709551616) (h : WM.ones to 64 ≠ 1) (w : World) :
    Calls Tryz.prog 51 #[.int .u64 x, .int .u64 to] w fun e w' => e = .returned (.tuple #[.int .u64 0, .int .i64 2]) ∧ w = w' := by
  have hh := W_hid h
  clear h
  go_enter Tryz.func51, Tryz.ntmps51
  go_wp2_with (go_at_call 89; refine (down_no x to ht hh.out _).mono ?_; rintro e w' ⟨rfl, rfl⟩)
  go_ret2
  exact ⟨rfl, rfl⟩

set_option maxRecDepth 100000 in
set_option maxHeartbeats 400000 in
theorem up_same (x to : Nat) (hx : x < 18446744073709551616) (ht : to < 18446744073709551616) (h : WM.ones to 64 = 1) (h0 : x % to = 0) (w : World) :
    Calls Tryz.prog 51 #[.int .u64 x, .int .u64 to] w fun e w' => e = .returned (.tuple #[.int .u64 x, .int .i64 0]) ∧ w = w' := by
  have hh := W_hid h
  have hq := W_hid (WM.down_self x to h0)
  have he : (((WM.down x to : Nat) : Int) == (x : Int)) = true := by rw [hq.out]; simp
  clear h h0
  go_enter Tryz.func51, Tryz.ntmps51
  go_wp2_with (go_at_call 89; refine (down_yes x to hx ht hh.out _).mono ?_; rintro e w' ⟨rfl, rfl⟩)
  go_ret2
  exact ⟨by rw [hq.out]; rfl, rfl⟩

set_option maxRecDepth 100000 in
set_option maxHeartbeats 400000 in
theorem up_next (x to : Nat) (hx : x < 18446744073709551616) (ht : to < 18446744073709551616) (h : WM.ones to 64 = 1) (h0 : x % to ≠ 0) (hm : WM.down x to + to < 18446744073709551616) (w : World) :
    Calls Tryz.prog 51 #[.int .u64 x, .int .u64 to] w fun e w' => e = .returned (.tuple #[.int .u64 ((WM.down x to + to : Nat) : Int), .int .i64 0]) ∧ w = w' := by
  have hh := W_hid h
  have hp := WM.pos to ht h
  have hq := WM.down_ne x to h0
  have he : (((WM.down x to : Nat) : Int) == (x : Int)) = false := by simp; omega
  have hw' : Hid (IntKind.u64.wrap (((WM.down x to : Nat) : Int) + (to : Int)) = ((WM.down x to + to : Nat) : Int)) := by
    show _ = _
    rw [← Int.natCast_add, wrap_in _ hm]
  have hz : (IntKind.u64.wrap (((WM.down x to : Nat) : Int) + (to : Int)) == 0) = false := by rw [hw'.out]; simp; omega
  clear h h0 hq hm
  go_enter Tryz.func51, Tryz.ntmps51
  go_wp2_with (go_at_call 89; refine (down_yes x to hx ht hh.out _).mono ?_; rintro e w' ⟨rfl, rfl⟩)
  go_ret2
  exact ⟨by rw [hw'.out]; rfl, rfl⟩

set_option maxRecDepth 100000 in
set_option maxHeartbeats 400000 in
theorem up_over (x to : Nat) (hx : x < 18446744073709551616) (ht : to < 18446744073709551616) (h : WM.ones to 64 = 1) (h0 : x % to ≠ 0) (hm : ¬ WM.down x to + to < 18446744073709551616) (w : World) :
    Calls Tryz.prog 51 #[.int .u64 x, .int .u64 to] w fun e w' => e = .returned (.tuple #[.int .u64 0, .int .i64 2]) ∧ w = w' := by
  have hh := W_hid h
  have hp := WM.pos to ht h
  have hq := WM.down_ne x to h0
  have he : (((WM.down x to : Nat) : Int) == (x : Int)) = false := by simp; omega
  have hn := WM.down_next x to ht h hx
  have hz : (IntKind.u64.wrap (((WM.down x to : Nat) : Int) + (to : Int)) == 0) = true := by
    have e : WM.down x to + to = 18446744073709551616 := by omega
    rw [← Int.natCast_add, e]; rfl
  clear h h0 hq hm hn
  go_enter Tryz.func51, Tryz.ntmps51
  go_wp2_with (go_at_call 89; refine (down_yes x to hx ht hh.out _).mono ?_; rintro e w' ⟨rfl, rfl⟩)
  go_ret2
  exact ⟨rfl, rfl⟩

end Go.Proofs.YtkomahekdcaiaaaGreatDoor

/- Contracts of package entry's fits, perm, read: which entry a word says at a level, for every word and level; the table of kinds is as its initialiser lays it. -/
namespace Go.Proofs.YtkomahekdcaiaaaGreatDoor
open Go.ChangeShapes Go.WideShapes Go.ChangeAt Go.RowKit
set_option linter.unusedVariables false
set_option linter.unusedSimpArgs false

/-- The cells of the table of kinds. -/
def kcl : List Value := [.bool false, .bool false, .int .i64 1, .int .i64 1, .int .u64 9223090561878069245, .int .u64 5, .bool false, .bool true, .int .i64 2, .int .i64 2, .int .u64 9223090561880162301, .int .u64 133, .bool true, .bool false, .int .i64 2, .int .i64 4, .int .u64 18446462598732845055, .int .u64 7]
def KT (w : World) : Prop := ∃ e fr, w.heap[0]? = some (.cells kcl.toArray e fr)
section
variable {w w' : World}
theorem KT.lt (h : KT w) : 0 < w.heap.size := by
  obtain ⟨e, fr, h⟩ := h
  rcases Nat.lt_or_ge 0 w.heap.size with hlt | hge
  · exact hlt
  · rw [Array.getElem?_eq_none hge] at h; cases h
theorem KT.below {B : Nat} (h : KT w) (hb : Below B w w') (hB : 0 < B) : KT w' := by
  obtain ⟨e, fr, h⟩ := h
  exact ⟨e, fr, (hb.block _ hB).trans h⟩
theorem KT.keep (h : KT w) (hb : Below w.heap.size w w') : KT w' := h.below hb h.lt
theorem KT.alloc (h : KT w) (o : Obj) : KT (w.alloc o) := h.keep ((Below.refl _ _).alloc (Nat.le_refl _) o)
end

/-- The answer of a call that reads a word. -/
def said : Option (Bool × Bool × Int × Nat) → Value
  | some (t, h, p, f) => .tuple #[.agg #[.bool t, .bool h, .int .i64 p, .int .u64 (f : Int)], .bool true]
  | none => .tuple #[.agg #[.bool false, .bool false, .int .i64 0, .int .u64 0], .bool false]

set_option maxRecDepth 100000 in
set_option maxHeartbeats 400000 in
theorem kfits_any (tb hg b : Bool) (lo hi L : Int) (K S x : Nat) (hx : x < 18446744073709551616) (hK : K < 18446744073709551616) (hb : b = true ↔ lo ≤ L ∧ L ≤ hi ∧ x &&& K = S) (w : World) :
    Calls Tryz.prog 163 #[.agg #[.bool tb, .bool hg, .int .i64 lo, .int .i64 hi, .int .u64 K, .int .u64 S], .int .u64 x, .int .i64 L] w fun e w' => e = .returned (.bool b) ∧ Below w.heap.size w w' := by
  have hand : bits BinOp.and IntKind.u64 (x : Int) (K : Int) = ((x &&& K : Nat) : Int) := u64_and_nat _ _ hx hK
  by_cases c1 : lo ≤ L
  · have d1 : decide (lo ≤ L) = true := by simp; omega
    by_cases c2 : L ≤ hi
    · have d2 : decide (L ≤ hi) = true := by simp; omega
      have d3 : (bits BinOp.and IntKind.u64 (x : Int) (K : Int) == (S : Int)) = b := by
        rw [hand, Bool.eq_iff_iff, beq_iff_eq, hb]; omega
      clear hb hand c1 c2
      go_enter Tryz.func163, Tryz.ntmps163
      go_wp2
      go_ret
      exact ⟨rfl, (Below.refl _ _).alloc (Nat.le_refl _) _⟩
    · have d2 : decide (L ≤ hi) = false := by simp; omega
      obtain rfl : b = false := by
        cases b
        · rfl
        · exact absurd (hb.1 rfl).2.1 c2
      clear hb hand c1 c2
      go_enter Tryz.func163, Tryz.ntmps163
      go_wp2
      go_ret
      exact ⟨rfl, (Below.refl _ _).alloc (Nat.le_refl _) _⟩
  · have d1 : decide (lo ≤ L) = false := by simp; omega
    obtain rfl : b = false := by
      cases b
      · rfl
      · exact absurd (hb.1 rfl).1 c1
    clear hb hand c1
    go_enter Tryz.func163, Tryz.ntmps163
    go_wp2
    go_ret
    exact ⟨rfl, (Below.refl _ _).alloc (Nat.le_refl _) _⟩

theorem bit1_test (x : Nat) (hx : x < 18446744073709551616) : (bits BinOp.and IntKind.u64 (x : Int) 2 != 0) = decide (x / 2 % 2 = 1) := by
  have h : x &&& 2 = 2 * (x / 2 % 2) := by
    conv => lhs; rw [show x = x % 2 + 2 ^ 1 * (x / 2 % 2 + 2 ^ 1 * (x / 4)) by omega, show 2 = 0 + 2 ^ 1 * ((2 ^ 1 - 1) + 2 ^ 1 * 0) by decide]
    rw [EN.and_peel _ _ _ _ _ (by omega) (by decide), EN.and_peel _ _ _ _ _ (by omega) (by decide), EN.and_full, Nat.and_zero, Nat.and_zero]
    omega
  rw [show (2 : Int) = ((2 : Nat) : Int) from rfl, u64_and_nat _ _ hx (by decide), h]
  rw [Bool.eq_iff_iff, bne_iff_ne, decide_eq_true_iff]; omega
theorem bit63_test (x : Nat) (hx : x < 18446744073709551616) : (bits BinOp.and IntKind.u64 (x : Int) 9223372036854775808 == 0) = decide (x / 9223372036854775808 = 0) := by
  have h : x &&& 9223372036854775808 = 9223372036854775808 * (x / 9223372036854775808) := by
    conv => lhs; rw [show x = x % 9223372036854775808 + 2 ^ 63 * (x / 9223372036854775808) by omega, show 9223372036854775808 = 0 + 2 ^ 63 * (2 ^ 1 - 1) by decide]
    rw [EN.and_peel _ _ _ _ _ (by omega) (by decide), EN.and_full, Nat.and_zero]
    omega
  rw [show (9223372036854775808 : Int) = ((9223372036854775808 : Nat) : Int) from rfl, u64_and_nat _ _ hx (by decide), h]
  rw [Bool.eq_iff_iff, beq_iff_eq, decide_eq_true_iff]; omega

set_option maxRecDepth 100000 in
set_option maxHeartbeats 400000 in
theorem perm_any (x : Nat) (hx : x < 18446744073709551616) (w : World) :
    Calls Tryz.prog 164 #[.int .u64 x] w fun e w' => e = .returned (.int .i64 (EN.perm x)) ∧ w = w' := by
  have h1 := bit1_test x hx
  have h2 := bit63_test x hx
  have hp : Hid (EN.perm x = 1 + (if x / 2 % 2 = 1 then 2 else 0) + (if x / 9223372036854775808 = 0 then 4 else 0)) := rfl
  by_cases c1 : x / 2 % 2 = 1
  · rw [decide_eq_true c1] at h1
    rw [if_pos c1] at hp
    by_cases c2 : x / 9223372036854775808 = 0
    · rw [decide_eq_true c2] at h2
      rw [if_pos c2] at hp
      clear c1 c2
      go_enter Tryz.func164, Tryz.ntmps164
      go_wp2
      go_ret
      exact ⟨ret_i64 hp.out.symm, rfl⟩
    · rw [decide_eq_false c2] at h2
      rw [if_neg c2] at hp
      clear c1 c2
      go_enter Tryz.func164, Tryz.ntmps164
      go_wp2
      go_ret
      exact ⟨ret_i64 hp.out.symm, rfl⟩
  · rw [decide_eq_false c1] at h1
    rw [if_neg c1] at hp
    by_cases c2 : x / 9223372036854775808 = 0
    · rw [decide_eq_true c2] at h2
      rw [if_pos c2] at hp
      clear c1 c2
      go_enter Tryz.func164, Tryz.ntmps164
      go_wp2
      go_ret
      exact ⟨ret_i64 hp.out.symm, rfl⟩
    · rw [decide_eq_false c2] at h2
      rw [if_neg c2] at hp
      clear c1 c2
      go_enter Tryz.func164, Tryz.ntmps164
      go_wp2
      go_ret
      exact ⟨ret_i64 hp.out.symm, rfl⟩

end Go.Proofs.YtkomahekdcaiaaaGreatDoor

/- Contract of package entry's read: which entry a word says at a level, for every word and level. -/
namespace Go.Proofs.YtkomahekdcaiaaaGreatDoor
open Go.ChangeShapes Go.WideShapes Go.ChangeAt Go.RowKit
set_option linter.unusedVariables false
set_option linter.unusedSimpArgs false

theorem res_ent {fn : Func} {r t : Tmp} (hres : fn.results = #[.cell r 131, .tmp t]) (tmps : Array Value) (w : World) {g : Nat} {v0 v1 v2 v3 : Value} (hr : tmps.getD r undef = .pointer (some ⟨g, 0, none⟩)) (hp : Blk w g 131 [v0, v1, v2, v3])
    (h0 : v0.oneCell' = true) (h1 : v1.oneCell' = true) (h2 : v2.oneCell' = true) (h3 : v3.oneCell' = true) :
    (results fn tmps).run Tryz.prog w = .ok (.tuple #[.agg #[v0, v1, v2, v3], tmps.getD t undef]) w := by
  have c0 : w.cell? ⟨g, 0, none⟩ = some v0 := hp.cell rfl
  have c1 : w.cell? ⟨g, 1, none⟩ = some v1 := hp.cell rfl
  have c2 : w.cell? ⟨g, 2, none⟩ = some v2 := hp.cell rfl
  have c3 : w.cell? ⟨g, 3, none⟩ = some v3 := hp.cell rfl
  rw [Array.getD_eq_getD_getElem?] at hr
  simp [results, hres, go_sem, hr, c0, c1, c2, c3]

def kind1 : Value := .agg #[.bool false, .bool false, .int .i64 1, .int .i64 1, .int .u64 9223090561878069245, .int .u64 5]
def kind2 : Value := .agg #[.bool false, .bool true, .int .i64 2, .int .i64 2, .int .u64 9223090561880162301, .int .u64 133]
def kind3 : Value := .agg #[.bool true, .bool false, .int .i64 2, .int .i64 4, .int .u64 18446462598732845055, .int .u64 7]
theorem at_kind1 (w : World) : (Instr.index 196 (.agg kcl.toArray) (.int .i64 0)).run Tryz.prog w = .ok (.agg #[.bool false, .bool false, .int .i64 1, .int .i64 1, .int .u64 9223090561878069245, .int .u64 5]) w := by kernel_rfl
theorem at_kind2 (w : World) : (Instr.index 196 (.agg kcl.toArray) (.int .i64 1)).run Tryz.prog w = .ok (.agg #[.bool false, .bool true, .int .i64 2, .int .i64 2, .int .u64 9223090561880162301, .int .u64 133]) w := by kernel_rfl
theorem at_kind3 (w : World) : (Instr.index 196 (.agg kcl.toArray) (.int .i64 2)).run Tryz.prog w = .ok (.agg #[.bool true, .bool false, .int .i64 2, .int .i64 4, .int .u64 18446462598732845055, .int .u64 7]) w := by kernel_rfl
theorem kinds_info : (Tryz.prog.info? 196).map (·.size) = some kcl.toArray.size := by kernel_rfl

set_option maxRecDepth 100000 in
set_option maxHeartbeats 2000000 in
theorem read_one (x : Nat) (L : Int) (hx : x < 18446744073709551616) (y1 : (1 : Int) ≤ L ∧ L ≤ 1 ∧ EN.page x = true) (w : World) (hk : KT w) :
    Calls Tryz.prog 141 #[.int .u64 x, .int .i64 L] w fun e w' => e = .returned (.tuple #[.agg #[.bool false, .bool false, .int .i64 (EN.perm x), .int .u64 ((EN.frame x : Nat) : Int)], .bool true]) ∧ Below w.heap.size w w' := by
  have hlt := hk.lt
  obtain ⟨e0, fr0, hk⟩ := hk
  have i1 := at_kind1
  have hf1 := W_hid (fun w => kfits_any false false true 1 1 L 9223090561878069245 5 x hx (by decide) ⟨fun _ => ⟨y1.1, y1.2.1, (EN.page_and x hx).2 y1.2.2⟩, fun _ => rfl⟩ w)
  have ht := W_hid (fun w => take_yes x 12 36 hx (by decide) w)
  rw [show WM.take x 12 36 = EN.frame x from rfl] at ht
  have hpm := W_hid (fun w => perm_any x hx w)
  clear y1
  go_enter Tryz.func141, Tryz.ntmps141
  go_wp2_with (refine wpList_load_row rfl 196 _ rfl 0 rfl e0 kcl.toArray fr0 _ ((Below.heap_alloc _ _ _ hlt).trans hk) Tryz.underlying196 rfl kinds_info ?_)
  refine wp_loop_rounds 1 ?_
  rw [rounds_succ]
  go_wp2_with fail
  refine (hf1.out _).mono ?_
  rintro e w1 ⟨rfl, bel1⟩
  have b0 : Blk w1 w.heap.size 131 [.bool false, .bool false, .int .i64 0, .int .u64 0] := Blk.keep (Blk.alloc (Blk.new w _ _ rfl) _) bel1
  have b1 : Blk w1 (w.heap.size + 1) 195 [.bool false, .bool false, .int .i64 1, .int .i64 1, .int .u64 9223090561878069245, .int .u64 5] := Blk.keep (Blk.new (w.alloc _) _ _ (by simp)) bel1
  have hg1 : w.heap.size + 1 < w1.heap.size := b1.lt
  have bel : Below w.heap.size w w1 := ((((Below.refl _ _).alloc (Nat.le_refl _) _).alloc (by simp) _).trans (bel1.mono (by simp; omega)))
  clear bel1
  obtain ⟨g1, hgg1⟩ : ∃ g1, w.heap.size + 1 = g1 := ⟨_, rfl⟩
  rw [hgg1] at b1 hg1
  subst hgg1
  go_wp2_with fail
  refine (ht.out _).mono ?_
  rintro e wt ⟨rfl, belt⟩
  replace b0 := b0.keep belt
  replace b1 := b1.keep belt
  replace bel := bel.trans (belt.mono bel.size)
  clear belt
  have c0 : wt.cell? ⟨w.heap.size + 1, 0, none⟩ = some (.bool false) := b1.cell rfl
  have c1 : wt.cell? ⟨w.heap.size + 1, 1, none⟩ = some (.bool false) := b1.cell rfl
  have z0 : wt.cell? ⟨w.heap.size, 0, none⟩ = some (.bool false) := b0.cell rfl
  have z1 : wt.cell? ⟨w.heap.size, 1, none⟩ = some (.bool false) := b0.cell rfl
  have z2 : wt.cell? ⟨w.heap.size, 2, none⟩ = some (.int .i64 0) := b0.cell rfl
  have z3 : wt.cell? ⟨w.heap.size, 3, none⟩ = some (.int .u64 0) := b0.cell rfl
  have zf : ∀ i, wt.frozen? ⟨w.heap.size, i, none⟩ = false := b0.fz
  go_wp2_with fail
  go_region_held3 (fun w' => w'.cell? ⟨w.heap.size + 1, 0, none⟩ = some (.bool false) ∧ w'.cell? ⟨w.heap.size + 1, 1, none⟩ = some (.bool false)) (first | assumption | go_keep)
    (first | (go_at_call 164; refine (hpm.out _).mono ?_; rintro e w3 ⟨rfl, rfl⟩))
  go_wp2
  have hB : Blk _ w.heap.size 131 [.bool false, .bool false, .int .i64 (EN.perm x), .int .u64 ((EN.frame x : Nat) : Int)] := ((((b0.set 0 (.bool false)).set 1 (.bool false)).set 2 (.int .i64 (EN.perm x))).set 3 (.int .u64 ((EN.frame x : Nat) : Int)))
  refine bodyPost_ret (res_ent rfl _ _ rfl hB rfl rfl rfl rfl) rfl ⟨rfl, Below.drew ((((bel.setCell (Nat.le_refl _) _).setCell (Nat.le_refl _) _).setCell (Nat.le_refl _) _).setCell (Nat.le_refl _) _)⟩

set_option maxRecDepth 100000 in
set_option maxHeartbeats 2000000 in
theorem read_two (x : Nat) (L : Int) (hx : x < 18446744073709551616) (n1 : ¬ ((1 : Int) ≤ L ∧ L ≤ 1 ∧ EN.page x = true)) (y2 : (2 : Int) ≤ L ∧ L ≤ 2 ∧ EN.huge x = true) (w : World) (hk : KT w) :
    Calls Tryz.prog 141 #[.int .u64 x, .int .i64 L] w fun e w' => e = .returned (.tuple #[.agg #[.bool false, .bool true, .int .i64 (EN.perm x), .int .u64 ((EN.frame x : Nat) : Int)], .bool true]) ∧ Below w.heap.size w w' := by
  have hlt := hk.lt
  obtain ⟨e0, fr0, hk⟩ := hk
  have i1 := at_kind1
  have i2 := at_kind2
  have hf1 := W_hid (fun w => kfits_any false false false 1 1 L 9223090561878069245 5 x hx (by decide) ⟨fun h => absurd h (by decide), fun h => absurd ⟨h.1, h.2.1, (EN.page_and x hx).1 h.2.2⟩ n1⟩ w)
  have hf2 := W_hid (fun w => kfits_any false true true 2 2 L 9223090561880162301 133 x hx (by decide) ⟨fun _ => ⟨y2.1, y2.2.1, (EN.huge_and x hx).2 y2.2.2⟩, fun _ => rfl⟩ w)
  have ht := W_hid (fun w => take_yes x 12 36 hx (by decide) w)
  rw [show WM.take x 12 36 = EN.frame x from rfl] at ht
  have hpm := W_hid (fun w => perm_any x hx w)
  clear n1 y2
  go_enter Tryz.func141, Tryz.ntmps141
  go_wp2_with (refine wpList_load_row rfl 196 _ rfl 0 rfl e0 kcl.toArray fr0 _ ((Below.heap_alloc _ _ _ hlt).trans hk) Tryz.underlying196 rfl kinds_info ?_)
  refine wp_loop_rounds 2 ?_
  rw [rounds_succ]
  go_wp2_with fail
  refine (hf1.out _).mono ?_
  rintro e w1 ⟨rfl, bel1⟩
  have b0 : Blk w1 w.heap.size 131 [.bool false, .bool false, .int .i64 0, .int .u64 0] := Blk.keep (Blk.alloc (Blk.new w _ _ rfl) _) bel1
  have b1 : Blk w1 (w.heap.size + 1) 195 [.bool false, .bool false, .int .i64 1, .int .i64 1, .int .u64 9223090561878069245, .int .u64 5] := Blk.keep (Blk.new (w.alloc _) _ _ (by simp)) bel1
  have hg1 : w.heap.size + 1 < w1.heap.size := b1.lt
  have bel : Below w.heap.size w w1 := ((((Below.refl _ _).alloc (Nat.le_refl _) _).alloc (by simp) _).trans (bel1.mono (by simp; omega)))
  clear bel1
  obtain ⟨g1, hgg1⟩ : ∃ g1, w.heap.size + 1 = g1 := ⟨_, rfl⟩
  rw [hgg1] at b1 hg1
  go_wp2_with fail
  rw [rounds_succ]
  go_wp2_with fail
  refine (hf2.out _).mono ?_
  rintro e w2 ⟨rfl, bel2⟩
  have b2 : Blk w2 w1.heap.size 195 [.bool false, .bool true, .int .i64 2, .int .i64 2, .int .u64 9223090561880162301, .int .u64 133] := Blk.keep (Blk.new w1 _ _ rfl) bel2
  replace b0 := Blk.keep (Blk.alloc b0 _) bel2
  have hh2 : w.heap.size < w1.heap.size := by omega
  replace bel := (bel.alloc bel.size _).trans (bel2.mono (Nat.le_trans bel.size (by simp)))
  have hg2 : w.heap.size < w2.heap.size := Nat.lt_of_lt_of_le (show w.heap.size < w1.heap.size by omega) (Nat.le_trans (by simp) bel2.size)
  clear bel2
  go_wp2_with fail
  refine (ht.out _).mono ?_
  rintro e wt ⟨rfl, belt⟩
  replace b0 := b0.keep belt
  replace b2 := b2.keep belt
  replace bel := bel.trans (belt.mono bel.size)
  clear belt
  have c0 : wt.cell? ⟨w1.heap.size, 0, none⟩ = some (.bool false) := b2.cell rfl
  have c1 : wt.cell? ⟨w1.heap.size, 1, none⟩ = some (.bool true) := b2.cell rfl
  have z0 : wt.cell? ⟨w.heap.size, 0, none⟩ = some (.bool false) := b0.cell rfl
  have z1 : wt.cell? ⟨w.heap.size, 1, none⟩ = some (.bool false) := b0.cell rfl
  have z2 : wt.cell? ⟨w.heap.size, 2, none⟩ = some (.int .i64 0) := b0.cell rfl
  have z3 : wt.cell? ⟨w.heap.size, 3, none⟩ = some (.int .u64 0) := b0.cell rfl
  have zf : ∀ i, wt.frozen? ⟨w.heap.size, i, none⟩ = false := b0.fz
  have ne1 : ¬ w1.heap.size = w.heap.size := by omega
  have ne2 : ¬ w.heap.size = w1.heap.size := by omega
  go_wp2_with fail
  go_region_held3 (fun w' => w'.cell? ⟨w1.heap.size, 0, none⟩ = some (.bool false) ∧ w'.cell? ⟨w1.heap.size, 1, none⟩ = some (.bool true)) (first | assumption | go_keep)
    (first | (go_at_call 164; refine (hpm.out _).mono ?_; rintro e w3 ⟨rfl, rfl⟩))
  go_wp2
  have hB : Blk _ w.heap.size 131 [.bool false, .bool true, .int .i64 (EN.perm x), .int .u64 ((EN.frame x : Nat) : Int)] := ((((b0.set 0 (.bool false)).set 1 (.bool true)).set 2 (.int .i64 (EN.perm x))).set 3 (.int .u64 ((EN.frame x : Nat) : Int)))
  refine bodyPost_ret (res_ent rfl _ _ rfl hB rfl rfl rfl rfl) rfl ⟨rfl, Below.drew ((((bel.setCell (Nat.le_refl _) _).setCell (Nat.le_refl _) _).setCell (Nat.le_refl _) _).setCell (Nat.le_refl _) _)⟩

set_option maxRecDepth 100000 in
set_option maxHeartbeats 2000000 in
theorem read_three (x : Nat) (L : Int) (hx : x < 18446744073709551616) (n1 : ¬ ((1 : Int) ≤ L ∧ L ≤ 1 ∧ EN.page x = true)) (n2 : ¬ ((2 : Int) ≤ L ∧ L ≤ 2 ∧ EN.huge x = true)) (y3 : (2 : Int) ≤ L ∧ L ≤ 4 ∧ EN.table x = true) (w : World) (hk : KT w) :
    Calls Tryz.prog 141 #[.int .u64 x, .int .i64 L] w fun e w' => e = .returned (.tuple #[.agg #[.bool true, .bool false, .int .i64 (EN.perm x), .int .u64 ((EN.frame x : Nat) : Int)], .bool true]) ∧ Below w.heap.size w w' := by
  have hlt := hk.lt
  obtain ⟨e0, fr0, hk⟩ := hk
  have i1 := at_kind1
  have i2 := at_kind2
  have i3 := at_kind3
  have hf1 := W_hid (fun w => kfits_any false false false 1 1 L 9223090561878069245 5 x hx (by decide) ⟨fun h => absurd h (by decide), fun h => absurd ⟨h.1, h.2.1, (EN.page_and x hx).1 h.2.2⟩ n1⟩ w)
  have hf2 := W_hid (fun w => kfits_any false true false 2 2 L 9223090561880162301 133 x hx (by decide) ⟨fun h => absurd h (by decide), fun h => absurd ⟨h.1, h.2.1, (EN.huge_and x hx).1 h.2.2⟩ n2⟩ w)
  have hf3 := W_hid (fun w => kfits_any true false true 2 4 L 18446462598732845055 7 x hx (by decide) ⟨fun _ => ⟨y3.1, y3.2.1, (EN.table_and x hx).2 y3.2.2⟩, fun _ => rfl⟩ w)
  have ht := W_hid (fun w => take_yes x 12 36 hx (by decide) w)
  rw [show WM.take x 12 36 = EN.frame x from rfl] at ht
  have hpm := W_hid (fun w => perm_any x hx w)
  clear n1 n2 y3
  go_enter Tryz.func141, Tryz.ntmps141
  go_wp2_with (refine wpList_load_row rfl 196 _ rfl 0 rfl e0 kcl.toArray fr0 _ ((Below.heap_alloc _ _ _ hlt).trans hk) Tryz.underlying196 rfl kinds_info ?_)
  refine wp_loop_rounds 3 ?_
  rw [rounds_succ]
  go_wp2_with fail
  refine (hf1.out _).mono ?_
  rintro e w1 ⟨rfl, bel1⟩
  have b0 : Blk w1 w.heap.size 131 [.bool false, .bool false, .int .i64 0, .int .u64 0] := Blk.keep (Blk.alloc (Blk.new w _ _ rfl) _) bel1
  have b1 : Blk w1 (w.heap.size + 1) 195 [.bool false, .bool false, .int .i64 1, .int .i64 1, .int .u64 9223090561878069245, .int .u64 5] := Blk.keep (Blk.new (w.alloc _) _ _ (by simp)) bel1
  have hg1 : w.heap.size + 1 < w1.heap.size := b1.lt
  have bel : Below w.heap.size w w1 := ((((Below.refl _ _).alloc (Nat.le_refl _) _).alloc (by simp) _).trans (bel1.mono (by simp; omega)))
  clear bel1
  obtain ⟨g1, hgg1⟩ : ∃ g1, w.heap.size + 1 = g1 := ⟨_, rfl⟩
  rw [hgg1] at b1 hg1
  go_wp2_with fail
  rw [rounds_succ]
  go_wp2_with fail
  refine (hf2.out _).mono ?_
  rintro e w2 ⟨rfl, bel2⟩
  have b2 : Blk w2 w1.heap.size 195 [.bool false, .bool true, .int .i64 2, .int .i64 2, .int .u64 9223090561880162301, .int .u64 133] := Blk.keep (Blk.new w1 _ _ rfl) bel2
  replace b0 := Blk.keep (Blk.alloc b0 _) bel2
  have hh2 : w.heap.size < w1.heap.size := by omega
  replace bel := (bel.alloc bel.size _).trans (bel2.mono (Nat.le_trans bel.size (by simp)))
  have hg2 : w.heap.size < w2.heap.size := Nat.lt_of_lt_of_le (show w.heap.size < w1.heap.size by omega) (Nat.le_trans (by simp) bel2.size)
  clear bel2
  go_wp2_with fail
  rw [rounds_succ]
  go_wp2_with fail
  refine (hf3.out _).mono ?_
  rintro e w3 ⟨rfl, bel3⟩
  have b3 : Blk w3 w2.heap.size 195 [.bool true, .bool false, .int .i64 2, .int .i64 4, .int .u64 18446462598732845055, .int .u64 7] := Blk.keep (Blk.new w2 _ _ rfl) bel3
  replace b0 := Blk.keep (Blk.alloc b0 _) bel3
  have hh3 : w.heap.size < w2.heap.size := by omega
  replace bel := (bel.alloc bel.size _).trans (bel3.mono (Nat.le_trans bel.size (by simp)))
  have hg3 : w.heap.size < w3.heap.size := Nat.lt_of_lt_of_le hg2 (Nat.le_trans (by simp) bel3.size)
  clear bel3
  go_wp2_with fail
  refine (ht.out _).mono ?_
  rintro e wt ⟨rfl, belt⟩
  replace b0 := b0.keep belt
  replace b3 := b3.keep belt
  replace bel := bel.trans (belt.mono bel.size)
  clear belt
  have c0 : wt.cell? ⟨w2.heap.size, 0, none⟩ = some (.bool true) := b3.cell rfl
  have c1 : wt.cell? ⟨w2.heap.size, 1, none⟩ = some (.bool false) := b3.cell rfl
  have z0 : wt.cell? ⟨w.heap.size, 0, none⟩ = some (.bool false) := b0.cell rfl
  have z1 : wt.cell? ⟨w.heap.size, 1, none⟩ = some (.bool false) := b0.cell rfl
  have z2 : wt.cell? ⟨w.heap.size, 2, none⟩ = some (.int .i64 0) := b0.cell rfl
  have z3 : wt.cell? ⟨w.heap.size, 3, none⟩ = some (.int .u64 0) := b0.cell rfl
  have zf : ∀ i, wt.frozen? ⟨w.heap.size, i, none⟩ = false := b0.fz
  have ne1 : ¬ w2.heap.size = w.heap.size := by omega
  have ne2 : ¬ w.heap.size = w2.heap.size := by omega
  go_wp2_with fail
  go_region_held3 (fun w' => w'.cell? ⟨w2.heap.size, 0, none⟩ = some (.bool true) ∧ w'.cell? ⟨w2.heap.size, 1, none⟩ = some (.bool false)) (first | assumption | go_keep)
    (first | (go_at_call 164; refine (hpm.out _).mono ?_; rintro e w3 ⟨rfl, rfl⟩))
  go_wp2
  have hB : Blk _ w.heap.size 131 [.bool true, .bool false, .int .i64 (EN.perm x), .int .u64 ((EN.frame x : Nat) : Int)] := ((((b0.set 0 (.bool true)).set 1 (.bool false)).set 2 (.int .i64 (EN.perm x))).set 3 (.int .u64 ((EN.frame x : Nat) : Int)))
  refine bodyPost_ret (res_ent rfl _ _ rfl hB rfl rfl rfl rfl) rfl ⟨rfl, Below.drew ((((bel.setCell (Nat.le_refl _) _).setCell (Nat.le_refl _) _).setCell (Nat.le_refl _) _).setCell (Nat.le_refl _) _)⟩

set_option maxRecDepth 100000 in
set_option maxHeartbeats 2000000 in
theorem read_none (x : Nat) (L : Int) (hx : x < 18446744073709551616) (n1 : ¬ ((1 : Int) ≤ L ∧ L ≤ 1 ∧ EN.page x = true)) (n2 : ¬ ((2 : Int) ≤ L ∧ L ≤ 2 ∧ EN.huge x = true)) (n3 : ¬ ((2 : Int) ≤ L ∧ L ≤ 4 ∧ EN.table x = true)) (w : World) (hk : KT w) :
    Calls Tryz.prog 141 #[.int .u64 x, .int .i64 L] w fun e w' => e = .returned (.tuple #[.agg #[.bool false, .bool false, .int .i64 0, .int .u64 0], .bool false]) ∧ Below w.heap.size w w' := by
  have hlt := hk.lt
  obtain ⟨e0, fr0, hk⟩ := hk
  have i1 := at_kind1
  have i2 := at_kind2
  have i3 := at_kind3
  have hf1 := W_hid (fun w => kfits_any false false false 1 1 L 9223090561878069245 5 x hx (by decide) ⟨fun h => absurd h (by decide), fun h => absurd ⟨h.1, h.2.1, (EN.page_and x hx).1 h.2.2⟩ n1⟩ w)
  have hf2 := W_hid (fun w => kfits_any false true false 2 2 L 9223090561880162301 133 x hx (by decide) ⟨fun h => absurd h (by decide), fun h => absurd ⟨h.1, h.2.1, (EN.huge_and x hx).1 h.2.2⟩ n2⟩ w)
  have hf3 := W_hid (fun w => kfits_any true false false 2 4 L 18446462598732845055 7 x hx (by decide) ⟨fun h => absurd h (by decide), fun h => absurd ⟨h.1, h.2.1, (EN.table_and x hx).1 h.2.2⟩ n3⟩ w)
  clear n1 n2 n3
  go_enter Tryz.func141, Tryz.ntmps141
  go_wp2_with (refine wpList_load_row rfl 196 _ rfl 0 rfl e0 kcl.toArray fr0 _ ((Below.heap_alloc _ _ _ hlt).trans hk) Tryz.underlying196 rfl kinds_info ?_)
  refine wp_loop_rounds 4 ?_
  rw [rounds_succ]
  go_wp2_with fail
  refine (hf1.out _).mono ?_
  rintro e w1 ⟨rfl, bel1⟩
  have b0 : Blk w1 w.heap.size 131 [.bool false, .bool false, .int .i64 0, .int .u64 0] := Blk.keep (Blk.alloc (Blk.new w _ _ rfl) _) bel1
  have b1 : Blk w1 (w.heap.size + 1) 195 [.bool false, .bool false, .int .i64 1, .int .i64 1, .int .u64 9223090561878069245, .int .u64 5] := Blk.keep (Blk.new (w.alloc _) _ _ (by simp)) bel1
  have hg1 : w.heap.size + 1 < w1.heap.size := b1.lt
  have bel : Below w.heap.size w w1 := ((((Below.refl _ _).alloc (Nat.le_refl _) _).alloc (by simp) _).trans (bel1.mono (by simp; omega)))
  clear bel1
  obtain ⟨g1, hgg1⟩ : ∃ g1, w.heap.size + 1 = g1 := ⟨_, rfl⟩
  rw [hgg1] at b1 hg1
  go_wp2_with fail
  rw [rounds_succ]
  go_wp2_with fail
  refine (hf2.out _).mono ?_
  rintro e w2 ⟨rfl, bel2⟩
  have b2 : Blk w2 w1.heap.size 195 [.bool false, .bool true, .int .i64 2, .int .i64 2, .int .u64 9223090561880162301, .int .u64 133] := Blk.keep (Blk.new w1 _ _ rfl) bel2
  replace b0 := Blk.keep (Blk.alloc b0 _) bel2
  have hh2 : w.heap.size < w1.heap.size := by omega
  replace bel := (bel.alloc bel.size _).trans (bel2.mono (Nat.le_trans bel.size (by simp)))
  have hg2 : w.heap.size < w2.heap.size := Nat.lt_of_lt_of_le (show w.heap.size < w1.heap.size by omega) (Nat.le_trans (by simp) bel2.size)
  clear bel2
  go_wp2_with fail
  rw [rounds_succ]
  go_wp2_with fail
  refine (hf3.out _).mono ?_
  rintro e w3 ⟨rfl, bel3⟩
  have b3 : Blk w3 w2.heap.size 195 [.bool true, .bool false, .int .i64 2, .int .i64 4, .int .u64 18446462598732845055, .int .u64 7] := Blk.keep (Blk.new w2 _ _ rfl) bel3
  replace b0 := Blk.keep (Blk.alloc b0 _) bel3
  have hh3 : w.heap.size < w2.heap.size := by omega
  replace bel := (bel.alloc bel.size _).trans (bel3.mono (Nat.le_trans bel.size (by simp)))
  have hg3 : w.heap.size < w3.heap.size := Nat.lt_of_lt_of_le hg2 (Nat.le_trans (by simp) bel3.size)
  clear bel3
  go_wp2_with fail
  rw [rounds_succ]
  have z0 : w3.cell? ⟨w.heap.size, 0, none⟩ = some (.bool false) := b0.cell rfl
  have z1 : w3.cell? ⟨w.heap.size, 1, none⟩ = some (.bool false) := b0.cell rfl
  have z2 : w3.cell? ⟨w.heap.size, 2, none⟩ = some (.int .i64 0) := b0.cell rfl
  have z3 : w3.cell? ⟨w.heap.size, 3, none⟩ = some (.int .u64 0) := b0.cell rfl
  have zf : ∀ i, w3.frozen? ⟨w.heap.size, i, none⟩ = false := b0.fz
  go_wp2
  have hB : Blk _ w.heap.size 131 [.bool false, .bool false, .int .i64 0, .int .u64 0] := ((((b0.set 0 (.bool false)).set 1 (.bool false)).set 2 (.int .i64 0)).set 3 (.int .u64 0))
  refine bodyPost_ret (res_ent rfl _ _ rfl hB rfl rfl rfl rfl) rfl ⟨rfl, ((((bel.setCell (Nat.le_refl _) _).setCell (Nat.le_refl _) _).setCell (Nat.le_refl _) _).setCell (Nat.le_refl _) _)⟩

/-- What a word says at a level, whatever they are. -/
theorem read_any (x : Nat) (L : Int) (hx : x < 18446744073709551616) (w : World) (hk : KT w) :
    Calls Tryz.prog 141 #[.int .u64 x, .int .i64 L] w fun e w' => e = .returned (said (EN.rd x L)) ∧ Below w.heap.size w w' := by
  by_cases c1 : L = 1 ∧ EN.page x = true
  · have e1 : EN.rd x L = some (false, false, EN.perm x, EN.frame x) := by unfold EN.rd; rw [if_pos c1]
    rw [e1]
    exact read_one x L hx ⟨by omega, by omega, c1.2⟩ w hk
  · have n1 : ¬ ((1 : Int) ≤ L ∧ L ≤ 1 ∧ EN.page x = true) := fun h => c1 ⟨by omega, h.2.2⟩
    by_cases c2 : L = 2 ∧ EN.huge x = true
    · have e1 : EN.rd x L = some (false, true, EN.perm x, EN.frame x) := by unfold EN.rd; rw [if_neg c1, if_pos c2]
      rw [e1]
      exact read_two x L hx n1 ⟨by omega, by omega, c2.2⟩ w hk
    · have n2 : ¬ ((2 : Int) ≤ L ∧ L ≤ 2 ∧ EN.huge x = true) := fun h => c2 ⟨by omega, h.2.2⟩
      by_cases c3 : (2 ≤ L ∧ L ≤ 4) ∧ EN.table x = true
      · have e1 : EN.rd x L = some (true, false, EN.perm x, EN.frame x) := by unfold EN.rd; rw [if_neg c1, if_neg c2, if_pos c3]
        rw [e1]
        exact read_three x L hx n1 n2 ⟨c3.1.1, c3.1.2, c3.2⟩ w hk
      · have n3 : ¬ ((2 : Int) ≤ L ∧ L ≤ 4 ∧ EN.table x = true) := fun h => c3 ⟨⟨h.1, h.2.1⟩, h.2.2⟩
        have e1 : EN.rd x L = none := by unfold EN.rd; rw [if_neg c1, if_neg c2, if_neg c3]
        rw [e1]
        exact read_none x L hx n1 n2 n3 w hk

end Go.Proofs.YtkomahekdcaiaaaGreatDoor

/- Contracts of package entry's write, Encode, isLevel, Decode: for every entry, word and level. -/
namespace Go.Proofs.YtkomahekdcaiaaaGreatDoor
open Go.ChangeShapes Go.WideShapes Go.ChangeAt Go.RowKit
set_option linter.unusedVariables false
set_option linter.unusedSimpArgs false

/-- The bits of an entry's word beside its frame. -/
def base (b1 H b2 : Bool) : Nat := (5 + (if b1 = true then 2 else 0) + (if H = true then 128 else 0)) + 9223372036854775808 * (if b2 = true then 1 else 0)
theorem base_lt (b1 H b2 : Bool) : base b1 H b2 < 18446744073709551616 := by cases b1 <;> cases H <;> cases b2 <;> decide
theorem base_wd (H : Bool) (P : Int) (F : Nat) (hP : EN.perms P) (hF : F < 68719476736) (b1 b2 : Bool) (h1 : b1 = true ↔ P = 3 ∨ P = 7) (h2 : b2 = true ↔ P < 4) : WM.put (base b1 H b2) 12 36 F = EN.wd H P F := by
  unfold base EN.wd
  rw [EN.put_frame _ _ _ (by split <;> split <;> decide) (by split <;> decide) hF]
  by_cases c1 : P = 3 ∨ P = 7
  · rw [if_pos (h1.2 c1), if_pos c1]
    by_cases c2 : P < 4
    · rw [if_pos (h2.2 c2), if_pos c2]; omega
    · rw [if_neg (fun h => c2 (h2.1 h)), if_neg c2]; omega
  · rw [if_neg (fun h => c1 (h1.1 h)), if_neg c1]
    by_cases c2 : P < 4
    · rw [if_pos (h2.2 c2), if_pos c2]; omega
    · rw [if_neg (fun h => c2 (h2.1 h)), if_neg c2]; omega
theorem perm_bits (P : Int) (hP : EN.perms P) : ((bits BinOp.and IntKind.i64 P 2 != 0) = true ↔ P = 3 ∨ P = 7) ∧ ((bits BinOp.and IntKind.i64 P 4 == 0) = true ↔ P < 4) := by
  rcases hP with rfl | rfl | rfl | rfl <;> decide

set_option maxRecDepth 100000 in
set_option maxHeartbeats 1000000 in
theorem write_walk (T H b1 b2 : Bool) (P : Int) (F : Nat) (hb1 : (bits BinOp.and IntKind.i64 P 2 != 0) = b1) (hb2 : (bits BinOp.and IntKind.i64 P 4 == 0) = b2) (v E : Int)
    (hput : Hid (∀ (r : Int), r = (base b1 H b2 : Int) → ∀ w, Calls Tryz.prog 145 #[.int .u64 r, .int .i64 12, .int .i64 36, .int .u64 F] w fun e w' => e = .returned (.tuple #[.int .u64 v, .int .i64 E]) ∧ Below w.heap.size w w')) (w : World) :
    Calls Tryz.prog 140 #[.agg #[.bool T, .bool H, .int .i64 P, .int .u64 F]] w fun e w' => e = .returned (.tuple #[.int .u64 v, .int .i64 E]) ∧ Below w.heap.size w w' := by
  cases b1 <;> cases b2 <;> cases H
  all_goals
    go_enter Tryz.func140, Tryz.ntmps140
    go_wp2_with fail
    refine (hput.out _ (by decide) _).mono ?_
    rintro e w1 ⟨rfl, bel⟩
    go_wp2
    go_ret2
    exact ⟨rfl, ((Below.refl _ _).alloc (Nat.le_refl _) _).trans (bel.mono (by simp))⟩

theorem write_high (T H : Bool) (P : Int) (F : Nat) (hF : ¬ F < 68719476736) (w : World) :
    Calls Tryz.prog 140 #[.agg #[.bool T, .bool H, .int .i64 P, .int .u64 F]] w fun e w' => e = .returned (.tuple #[.int .u64 0, .int .i64 2]) ∧ Below w.heap.size w w' := by
  refine write_walk T H _ _ P F rfl rfl 0 2 ?_ w
  intro r hr w
  exact put_high r 12 36 F (by decide) (by omega) w

theorem write_low (T H : Bool) (P : Int) (F : Nat) (hF : F < 68719476736) : ∃ x : Nat, x < 18446744073709551616 ∧ (EN.perms P → x = EN.wd H P F) ∧ ∀ w : World,
    Calls Tryz.prog 140 #[.agg #[.bool T, .bool H, .int .i64 P, .int .u64 F]] w fun e w' => e = .returned (.tuple #[.int .u64 (x : Int), .int .i64 0]) ∧ Below w.heap.size w w' := by
  refine ⟨WM.put (base (bits BinOp.and IntKind.i64 P 2 != 0) H (bits BinOp.and IntKind.i64 P 4 == 0)) 12 36 F, WM.put_lt _ _ _ _ (base_lt _ _ _) (by decide) (by omega), fun hP => ?_, fun w => ?_⟩
  · exact base_wd H P F hP hF _ _ (perm_bits P hP).1 (perm_bits P hP).2
  · refine write_walk T H _ _ P F rfl rfl _ 0 ?_ w
    intro r hr w
    subst hr
    exact put_yes _ 12 36 F (base_lt _ _ _) (by decide) (by omega) w

end Go.Proofs.YtkomahekdcaiaaaGreatDoor

/- Contracts of package entry's isLevel and Index, and of the document's own Index: for all arguments. -/
namespace Go.Proofs.YtkomahekdcaiaaaGreatDoor
open Go.ChangeShapes Go.WideShapes Go.ChangeAt Go.RowKit
set_option linter.unusedVariables false
set_option linter.unusedSimpArgs false

set_option maxRecDepth 100000 in
set_option maxHeartbeats 400000 in
theorem isLevel_yes (L : Int) (h1 : 1 ≤ L) (h4 : L ≤ 4) (w : World) :
    Calls Tryz.prog 152 #[.int .i64 L] w fun e w' => e = .returned (.bool true) ∧ w = w' := by
  have d1 : decide (1 ≤ L) = true := by simp; omega
  have d2 : decide (L ≤ 4) = true := by simp; omega
  clear h1 h4
  go_enter Tryz.func152, Tryz.ntmps152
  go_wp2
  go_ret
  exact ⟨rfl, rfl⟩

set_option maxRecDepth 100000 in
set_option maxHeartbeats 400000 in
theorem isLevel_no (L : Int) (h : ¬ (1 ≤ L ∧ L ≤ 4)) (w : World) :
    Calls Tryz.prog 152 #[.int .i64 L] w fun e w' => e = .returned (.bool false) ∧ w = w' := by
  by_cases c1 : 1 ≤ L
  · have d2 : decide (L ≤ 4) = false := by simp; omega
    clear h
    go_enter Tryz.func152, Tryz.ntmps152
    go_wp2
    go_ret
    exact ⟨rfl, rfl⟩
  · have d1 : decide (1 ≤ L) = false := by simp; omega
    clear h c1
    go_enter Tryz.func152, Tryz.ntmps152
    go_wp2
    go_ret
    exact ⟨rfl, rfl⟩

set_option maxRecDepth 100000 in
set_option maxHeartbeats 1000000 in
theorem Index_yes (va l : Nat) (hva : va < 140737488355328) (h1 : 1 ≤ l) (h4 : l ≤ 4) (w : World) :
    Calls Tryz.prog 142 #[.int .u64 va, .int .i64 l] w fun e w' => e = .returned (.tuple #[.int .i64 ((EN.idx va l : Nat) : Int), .int .i64 0]) ∧ Below w.heap.size w w' := by
  have hT : Hid (∀ (lo : Int), lo = ((12 + 9 * (l - 1) : Nat) : Int) → ∀ w : World, Calls Tryz.prog 84 #[.int .u64 va, .int .i64 lo, .int .i64 9] w fun e w' => e = .returned (.tuple #[.int .u64 ((EN.idx va l : Nat) : Int), .int .i64 0]) ∧ Below w.heap.size w w') := by
    intro lo h w
    subst h
    rw [← EN.idx_take va l h1 h4]
    exact take_yes va (12 + 9 * (l - 1)) 9 (by omega) (by omega) w
  have hL := W_hid (fun w => isLevel_yes l (by omega) (by omega) w)
  have d : decide (140737488355328 ≤ (va : Int)) = false := by simp; omega
  have hi := EN.idx_lt va l
  go_enter Tryz.func142, Tryz.ntmps142
  go_wp2_with fail
  refine (hL.out _).mono ?_
  rintro e w1 ⟨rfl, rfl⟩
  go_wp2_with fail
  refine (hT.out _ (by omega) _).mono ?_
  rintro e w2 ⟨rfl, bel⟩
  go_wp2
  go_ret2
  exact ⟨rfl, bel⟩

set_option maxRecDepth 100000 in
set_option maxHeartbeats 1000000 in
theorem Index_no (va : Nat) (L : Int) (h : ¬ (1 ≤ L ∧ L ≤ 4 ∧ va < 140737488355328)) (w : World) :
    Calls Tryz.prog 142 #[.int .u64 va, .int .i64 L] w fun e w' => e = .returned (.tuple #[.int .i64 0, .int .i64 2]) ∧ w = w' := by
  by_cases c : 1 ≤ L ∧ L ≤ 4
  · have hL := W_hid (fun w => isLevel_yes L c.1 c.2 w)
    have d : decide (140737488355328 ≤ (va : Int)) = true := by simp; omega
    clear h c
    go_enter Tryz.func142, Tryz.ntmps142
    go_wp2_with fail
    refine (hL.out _).mono ?_
    rintro e w1 ⟨rfl, rfl⟩
    go_wp2
    go_ret2
    exact ⟨rfl, rfl⟩
  · have hL := W_hid (fun w => isLevel_no L c w)
    clear h c
    go_enter Tryz.func142, Tryz.ntmps142
    go_wp2_with fail
    refine (hL.out _).mono ?_
    rintro e w1 ⟨rfl, rfl⟩
    go_wp2
    go_ret2
    exact ⟨rfl, rfl⟩

end Go.Proofs.YtkomahekdcaiaaaGreatDoor

/- Contracts of package entry's Encode and Decode: for every entry, word and level. -/
namespace Go.Proofs.YtkomahekdcaiaaaGreatDoor
open Go.ChangeShapes Go.WideShapes Go.ChangeAt Go.RowKit
set_option linter.unusedVariables false
set_option linter.unusedSimpArgs false

/-- Entries are compared field by field. -/
theorem ent_neq (t h t' h' : Bool) (p p' f f' : Int) (b : Bool) (hb : b = true ↔ ¬ (t = t' ∧ h = h' ∧ p = p' ∧ f = f')) (w : World) :
    (binOp .neq 131 (.agg #[.bool t, .bool h, .int .i64 p, .int .u64 f]) (.agg #[.bool t', .bool h', .int .i64 p', .int .u64 f'])).run Tryz.prog w = .ok (.bool b) w := by
  have e : b = !(decide (t = t' ∧ h = h' ∧ p = p' ∧ f = f')) := by
    rw [Bool.eq_iff_iff, hb, Bool.not_eq_true', decide_eq_false_iff_not]
  rw [e]
  by_cases c0 : t = t'
  · by_cases c1 : h = h'
    · by_cases c2 : p = p'
      · by_cases c3 : f = f' <;> simp [go_sem, c0, c1, c2, c3]
      · simp [go_sem, c0, c1, c2]
    · simp [go_sem, c0, c1]
  · simp [go_sem, c0]

theorem res_ent3 {fn : Func} {r t u : Tmp} (hres : fn.results = #[.cell r 131, .tmp t, .tmp u]) (tmps : Array Value) (w : World) {g : Nat} {v0 v1 v2 v3 : Value} (hr : tmps.getD r undef = .pointer (some ⟨g, 0, none⟩)) (hp : Blk w g 131 [v0, v1, v2, v3]) :
    (results fn tmps).run Tryz.prog w = .ok (.tuple #[.agg #[v0, v1, v2, v3], tmps.getD t undef, tmps.getD u undef]) w := by
  have c0 : w.cell? ⟨g, 0, none⟩ = some v0 := hp.cell rfl
  have c1 : w.cell? ⟨g, 1, none⟩ = some v1 := hp.cell rfl
  have c2 : w.cell? ⟨g, 2, none⟩ = some v2 := hp.cell rfl
  have c3 : w.cell? ⟨g, 3, none⟩ = some v3 := hp.cell rfl
  rw [Array.getD_eq_getD_getElem?] at hr
  simp [results, hres, go_sem, hr, c0, c1, c2, c3]

/-- Where the word that is laid says an entry, and which. -/
theorem read_some {x : Nat} {L : Int} {t h : Bool} {p : Int} {f : Nat} (hx : x < 18446744073709551616) (hr : EN.rd x L = some (t, h, p, f)) (w : World) (hk : KT w) :
    Calls Tryz.prog 141 #[.int .u64 x, .int .i64 L] w fun e w' => e = .returned (.tuple #[.agg #[.bool t, .bool h, .int .i64 p, .int .u64 (f : Int)], .bool true]) ∧ Below w.heap.size w w' := by
  have := read_any x L hx w hk
  rw [hr] at this
  exact this
theorem read_not {x : Nat} {L : Int} (hx : x < 18446744073709551616) (hr : EN.rd x L = none) (w : World) (hk : KT w) :
    Calls Tryz.prog 141 #[.int .u64 x, .int .i64 L] w fun e w' => e = .returned (.tuple #[.agg #[.bool false, .bool false, .int .i64 0, .int .u64 0], .bool false]) ∧ Below w.heap.size w w' := by
  have := read_any x L hx w hk
  rw [hr] at this
  exact this

set_option maxRecDepth 100000 in
set_option maxHeartbeats 1000000 in
theorem Encode_fit (T H t h : Bool) (P p : Int) (F f x : Nat) (L : Int) (b : Bool) (v E : Int) (hb : b = true ↔ ¬ (t = T ∧ h = H ∧ p = P ∧ f = F)) (hv : v = if b = true then 0 else (x : Int)) (hE : E = if b = true then 2 else 0)
    (hwr : Hid (∀ w : World, Calls Tryz.prog 140 #[.agg #[.bool T, .bool H, .int .i64 P, .int .u64 F]] w fun e w' => e = .returned (.tuple #[.int .u64 (x : Int), .int .i64 0]) ∧ Below w.heap.size w w'))
    (hrd : Hid (∀ w : World, KT w → Calls Tryz.prog 141 #[.int .u64 x, .int .i64 L] w fun e w' => e = .returned (.tuple #[.agg #[.bool t, .bool h, .int .i64 p, .int .u64 (f : Int)], .bool true]) ∧ Below w.heap.size w w')) (w : World) (hk : KT w) :
    Calls Tryz.prog 106 #[.agg #[.bool T, .bool H, .int .i64 P, .int .u64 F], .int .i64 L] w fun e w' => e = .returned (.tuple #[.int .u64 v, .int .i64 E]) ∧ Below w.heap.size w w' := by
  have hn := ent_neq t h T H p P f F b (by rw [hb, Int.natCast_inj])
  replace hk := W_hid hk
  clear hb
  cases b
  all_goals
    go_enter Tryz.func106, Tryz.ntmps106
    go_wp2_with fail
    refine (hwr.out _).mono ?_
    rintro e w1 ⟨rfl, bel1⟩
    have b0 : Blk w1 w.heap.size 131 [.bool T, .bool H, .int .i64 P, .int .u64 F] := Blk.keep (Blk.new w _ _ rfl) bel1
    replace bel1 : Below w.heap.size w w1 := ((Below.refl _ _).alloc (Nat.le_refl _) _).trans (bel1.mono (by simp))
    go_wp2_with fail
    refine (hrd.out _ (hk.out.keep bel1)).mono ?_
    rintro e w2 ⟨rfl, bel2⟩
    replace b0 := b0.keep bel2
    have bel := bel1.trans (bel2.mono bel1.size)
    clear bel1 bel2
    have c0 : w2.cell? ⟨w.heap.size, 0, none⟩ = some (.bool T) := b0.cell rfl
    have c1 : w2.cell? ⟨w.heap.size, 1, none⟩ = some (.bool H) := b0.cell rfl
    have c2 : w2.cell? ⟨w.heap.size, 2, none⟩ = some (.int .i64 P) := b0.cell rfl
    have c3 : w2.cell? ⟨w.heap.size, 3, none⟩ = some (.int .u64 F) := b0.cell rfl
    have hlt : w.heap.size < w2.heap.size := b0.lt
    go_wp2
    go_ret2
    exact ⟨by rw [hv, hE]; rfl, bel.alloc bel.size _⟩

set_option maxRecDepth 100000 in
set_option maxHeartbeats 1000000 in
theorem Encode_none (T H : Bool) (P : Int) (F x : Nat) (L : Int)
    (hwr : Hid (∀ w : World, Calls Tryz.prog 140 #[.agg #[.bool T, .bool H, .int .i64 P, .int .u64 F]] w fun e w' => e = .returned (.tuple #[.int .u64 (x : Int), .int .i64 0]) ∧ Below w.heap.size w w'))
    (hrd : Hid (∀ w : World, KT w → Calls Tryz.prog 141 #[.int .u64 x, .int .i64 L] w fun e w' => e = .returned (.tuple #[.agg #[.bool false, .bool false, .int .i64 0, .int .u64 0], .bool false]) ∧ Below w.heap.size w w')) (w : World) (hk : KT w) :
    Calls Tryz.prog 106 #[.agg #[.bool T, .bool H, .int .i64 P, .int .u64 F], .int .i64 L] w fun e w' => e = .returned (.tuple #[.int .u64 0, .int .i64 2]) ∧ Below w.heap.size w w' := by
  replace hk := W_hid hk
  go_enter Tryz.func106, Tryz.ntmps106
  go_wp2_with fail
  refine (hwr.out _).mono ?_
  rintro e w1 ⟨rfl, bel1⟩
  replace bel1 : Below w.heap.size w w1 := ((Below.refl _ _).alloc (Nat.le_refl _) _).trans (bel1.mono (by simp))
  go_wp2_with fail
  refine (hrd.out _ (hk.out.keep bel1)).mono ?_
  rintro e w2 ⟨rfl, bel2⟩
  have bel := bel1.trans (bel2.mono bel1.size)
  clear bel1 bel2
  go_wp2
  go_ret2
  exact ⟨rfl, bel.alloc bel.size _⟩

set_option maxRecDepth 100000 in
set_option maxHeartbeats 1000000 in
theorem Encode_high (T H : Bool) (P : Int) (F : Nat) (L : Int) (hF : ¬ F < 68719476736) (w : World) :
    Calls Tryz.prog 106 #[.agg #[.bool T, .bool H, .int .i64 P, .int .u64 F], .int .i64 L] w fun e w' => e = .returned (.tuple #[.int .u64 0, .int .i64 2]) ∧ Below w.heap.size w w' := by
  have hwr := W_hid (fun w => write_high T H P F hF w)
  clear hF
  go_enter Tryz.func106, Tryz.ntmps106
  go_wp2_with fail
  refine (hwr.out _).mono ?_
  rintro e w1 ⟨rfl, bel1⟩
  replace bel1 : Below w.heap.size w w1 := ((Below.refl _ _).alloc (Nat.le_refl _) _).trans (bel1.mono (by simp))
  go_wp2
  go_ret2
  exact ⟨rfl, bel1⟩

/-- A valid entry has its word. -/
theorem Encode_yes (T H : Bool) (P : Int) (F : Nat) (L : Int) (h : EN.right T H P F L) (w : World) (hk : KT w) :
    Calls Tryz.prog 106 #[.agg #[.bool T, .bool H, .int .i64 P, .int .u64 F], .int .i64 L] w fun e w' => e = .returned (.tuple #[.int .u64 ((EN.wd H P F : Nat) : Int), .int .i64 0]) ∧ Below w.heap.size w w' := by
  have hF : F < 68719476736 := h.2.2.1
  have hP : EN.perms P := by rcases h.2.2.2 with ⟨-, -, -, e⟩ | ⟨-, e, -⟩; exact .inr (.inr (.inr e)); exact e
  obtain ⟨x, hx, hxw, hwr⟩ := write_low T H P F hF
  obtain rfl := hxw hP
  exact Encode_fit T H T H P P F F _ L false _ _ (by simp) (by simp) (by simp) (W_hid hwr) (W_hid (fun w hk => read_some hx (EN.right_rd h) w hk)) w hk

/-- What is none has none. -/
theorem Encode_no (T H : Bool) (P : Int) (F : Nat) (L : Int) (h : ¬ EN.right T H P F L) (w : World) (hk : KT w) :
    Calls Tryz.prog 106 #[.agg #[.bool T, .bool H, .int .i64 P, .int .u64 F], .int .i64 L] w fun e w' => e = .returned (.tuple #[.int .u64 0, .int .i64 2]) ∧ Below w.heap.size w w' := by
  by_cases hF : F < 68719476736
  · obtain ⟨x, hx, -, hwr⟩ := write_low T H P F hF
    rcases hr : EN.rd x L with _ | ⟨t, g, p, f⟩
    · exact Encode_none T H P F x L (W_hid hwr) (W_hid (fun w hk => read_not hx hr w hk)) w hk
    · refine Encode_fit T H t g P p F f x L true _ _ ?_ (by simp) (by simp) (W_hid hwr) (W_hid (fun w hk => read_some hx hr w hk)) w hk
      refine ⟨fun _ => ?_, fun _ => rfl⟩
      rintro ⟨rfl, rfl, rfl, rfl⟩
      exact h (EN.rd_right hx hr).1
  · exact Encode_high T H P F L hF w

/-! ### Decode -/
theorem below_four {w w2 : World} (h : Below w.heap.size w w2) (u0 u1 u2 u3 : Value) (o : Obj) :
    Below w.heap.size w (((((w2.setCell ⟨w.heap.size, 0, none⟩ u0).setCell ⟨w.heap.size, 1, none⟩ u1).setCell ⟨w.heap.size, 2, none⟩ u2).setCell ⟨w.heap.size, 3, none⟩ u3).alloc o) := by
  have h4 := ((((h.setCell (p := ⟨w.heap.size, 0, none⟩) (Nat.le_refl _) u0).setCell (p := ⟨w.heap.size, 1, none⟩) (Nat.le_refl _) u1).setCell (p := ⟨w.heap.size, 2, none⟩) (Nat.le_refl _) u2).setCell (p := ⟨w.heap.size, 3, none⟩) (Nat.le_refl _) u3)
  exact h4.alloc h4.size o

set_option maxRecDepth 100000 in
set_option maxHeartbeats 1000000 in
theorem Decode_level (x L : Int) (h : ¬ (1 ≤ L ∧ L ≤ 4)) (w : World) :
    Calls Tryz.prog 121 #[.int .u64 x, .int .i64 L] w fun e w' => e = .returned (.tuple #[.agg #[.bool false, .bool false, .int .i64 0, .int .u64 0], .bool false, .int .i64 2]) ∧ Below w.heap.size w w' := by
  have hL := W_hid (fun w => isLevel_no L h w)
  clear h
  go_enter Tryz.func121, Tryz.ntmps121
  go_wp2_with fail
  refine (hL.out _).mono ?_
  rintro e w1 ⟨rfl, rfl⟩
  go_wp2
  refine bodyPost_ret (res_ent3 rfl _ _ rfl (Blk.new w _ _ rfl)) rfl ⟨rfl, (Below.refl _ _).alloc (Nat.le_refl _) _⟩

set_option maxRecDepth 100000 in
set_option maxHeartbeats 1000000 in
theorem Decode_zero (L : Int) (h : 1 ≤ L ∧ L ≤ 4) (w : World) :
    Calls Tryz.prog 121 #[.int .u64 0, .int .i64 L] w fun e w' => e = .returned (.tuple #[.agg #[.bool false, .bool false, .int .i64 0, .int .u64 0], .bool false, .int .i64 0]) ∧ Below w.heap.size w w' := by
  have hL := W_hid (fun w => isLevel_yes L h.1 h.2 w)
  clear h
  go_enter Tryz.func121, Tryz.ntmps121
  go_wp2_with fail
  refine (hL.out _).mono ?_
  rintro e w1 ⟨rfl, rfl⟩
  go_wp2
  refine bodyPost_ret (res_ent3 rfl _ _ rfl (Blk.new w _ _ rfl)) rfl ⟨rfl, (Below.refl _ _).alloc (Nat.le_refl _) _⟩

set_option maxRecDepth 100000 in
set_option maxHeartbeats 1000000 in
theorem Decode_none (x : Nat) (L : Int) (hx : x < 18446744073709551616) (h : 1 ≤ L ∧ L ≤ 4) (h0 : x ≠ 0) (hr : EN.rd x L = none) (w : World) (hk : KT w) :
    Calls Tryz.prog 121 #[.int .u64 x, .int .i64 L] w fun e w' => e = .returned (.tuple #[.agg #[.bool false, .bool false, .int .i64 0, .int .u64 0], .bool false, .int .i64 106]) ∧ Below w.heap.size w w' := by
  have hL := W_hid (fun w => isLevel_yes L h.1 h.2 w)
  have hR := W_hid (fun w hk => read_not hx hr w hk)
  have e0 : ((x : Int) == 0) = false := by simp; omega
  replace hk := W_hid hk
  clear h hr h0
  go_enter Tryz.func121, Tryz.ntmps121
  go_wp2_with fail
  refine (hL.out _).mono ?_
  rintro e w1 ⟨rfl, rfl⟩
  go_wp2_with fail
  refine (hR.out _ (hk.out.alloc _)).mono ?_
  rintro e w2 ⟨rfl, bel2⟩
  have b0 : Blk w2 w.heap.size 131 [.bool false, .bool false, .int .i64 0, .int .u64 0] := Blk.keep (Blk.new w _ _ rfl) bel2
  replace bel2 : Below w.heap.size w w2 := ((Below.refl _ _).alloc (Nat.le_refl _) _).trans (bel2.mono (by simp))
  have hlt : w.heap.size < w2.heap.size := b0.lt
  have ne1 : ¬ w2.heap.size = w.heap.size := by omega
  have ne2 : ¬ w.heap.size = w2.heap.size := by omega
  have z0 : w2.cell? ⟨w.heap.size, 0, none⟩ = some (.bool false) := b0.cell rfl
  have z1 : w2.cell? ⟨w.heap.size, 1, none⟩ = some (.bool false) := b0.cell rfl
  have z2 : w2.cell? ⟨w.heap.size, 2, none⟩ = some (.int .i64 0) := b0.cell rfl
  have z3 : w2.cell? ⟨w.heap.size, 3, none⟩ = some (.int .u64 0) := b0.cell rfl
  have zf : ∀ i, w2.frozen? ⟨w.heap.size, i, none⟩ = false := b0.fz
  go_wp2
  have hB : Blk _ w.heap.size 131 [.bool false, .bool false, .int .i64 0, .int .u64 0] := (((((b0.set 0 (.bool false)).set 1 (.bool false)).set 2 (.int .i64 0)).set 3 (.int .u64 0)).alloc (.cells #[.bool false, .bool false, .int .i64 0, .int .u64 0] 131))
  refine bodyPost_ret (res_ent3 rfl _ _ rfl hB) rfl ⟨rfl, below_four bel2 _ _ _ _ _⟩

set_option maxRecDepth 100000 in
set_option maxHeartbeats 1000000 in
theorem Decode_some (x : Nat) (L : Int) (hx : x < 18446744073709551616) (t h : Bool) (p : Int) (f : Nat) (hr : EN.rd x L = some (t, h, p, f)) (w : World) (hk : KT w) :
    Calls Tryz.prog 121 #[.int .u64 x, .int .i64 L] w fun e w' => e = .returned (.tuple #[.agg #[.bool t, .bool h, .int .i64 p, .int .u64 (f : Int)], .bool true, .int .i64 0]) ∧ Below w.heap.size w w' := by
  have hrr := EN.rd_right hx hr
  have hL := W_hid (fun w => isLevel_yes L hrr.1.1 hrr.1.2.1 w)
  have hR := W_hid (fun w hk => read_some hx hr w hk)
  have e0 : ((x : Int) == 0) = false := by have := EN.wd_pos h p f; rw [hrr.2] at this; simp; omega
  replace hk := W_hid hk
  clear hrr hr
  go_enter Tryz.func121, Tryz.ntmps121
  go_wp2_with fail
  refine (hL.out _).mono ?_
  rintro e w1 ⟨rfl, rfl⟩
  go_wp2_with fail
  refine (hR.out _ (hk.out.alloc _)).mono ?_
  rintro e w2 ⟨rfl, bel2⟩
  have b0 : Blk w2 w.heap.size 131 [.bool false, .bool false, .int .i64 0, .int .u64 0] := Blk.keep (Blk.new w _ _ rfl) bel2
  replace bel2 : Below w.heap.size w w2 := ((Below.refl _ _).alloc (Nat.le_refl _) _).trans (bel2.mono (by simp))
  have hlt : w.heap.size < w2.heap.size := b0.lt
  have ne1 : ¬ w2.heap.size = w.heap.size := by omega
  have ne2 : ¬ w.heap.size = w2.heap.size := by omega
  have z0 : w2.cell? ⟨w.heap.size, 0, none⟩ = some (.bool false) := b0.cell rfl
  have z1 : w2.cell? ⟨w.heap.size, 1, none⟩ = some (.bool false) := b0.cell rfl
  have z2 : w2.cell? ⟨w.heap.size, 2, none⟩ = some (.int .i64 0) := b0.cell rfl
  have z3 : w2.cell? ⟨w.heap.size, 3, none⟩ = some (.int .u64 0) := b0.cell rfl
  have zf : ∀ i, w2.frozen? ⟨w.heap.size, i, none⟩ = false := b0.fz
  go_wp2
  have hB : Blk _ w.heap.size 131 [.bool t, .bool h, .int .i64 p, .int .u64 (f : Int)] := (((((b0.set 0 (.bool t)).set 1 (.bool h)).set 2 (.int .i64 p)).set 3 (.int .u64 (f : Int))).alloc (.cells #[.bool t, .bool h, .int .i64 p, .int .u64 (f : Int)] 131))
  refine bodyPost_ret (res_ent3 rfl _ _ rfl hB) rfl ⟨rfl, below_four bel2 _ _ _ _ _⟩

end Go.Proofs.YtkomahekdcaiaaaGreatDoor

/- Contracts of package radix: span, mapping, none, and the search that goes down from the root. -/
namespace Go.Proofs.YtkomahekdcaiaaaGreatDoor
open Go.ChangeShapes Go.WideShapes Go.ChangeAt Go.RowKit
set_option linter.unusedVariables false
set_option linter.unusedSimpArgs false

/-- A tree's own memory. -/
structure TM (w : World) (g pg r b : Nat) (M : Nat → Option (Nat → Nat)) : Prop where
  box : Blk w g 126 [.pointer (some ⟨pg, 0, none⟩), .int .u64 (r : Int), .map (some b)]
  mb : MB w b M
  kt : KT w
theorem TM.keep {w w' : World} {g pg r b : Nat} {M : Nat → Option (Nat → Nat)} (h : TM w g pg r b M) (hb : Below w.heap.size w w') : TM w' g pg r b M := ⟨h.box.keep hb, h.mb.keep hb, h.kt.keep hb⟩

/-- A way, as cells. -/
def wl (va : Nat) (fr : Nat → Nat) (L : Nat) (e : Bool × Bool × Int × Nat) (p : Bool) : List Value :=
  [.int .u64 (va : Int), .int .u64 (fr 0 : Int), .int .u64 (fr 1 : Int), .int .u64 (fr 2 : Int), .int .u64 (fr 3 : Int), .int .u64 (fr 4 : Int), .int .i64 (L : Int), .bool e.1, .bool e.2.1, .int .i64 e.2.2.1, .int .u64 (e.2.2.2 : Int), .bool p]

set_option maxRecDepth 100000 in
set_option maxHeartbeats 400000 in
theorem span_any (l : Nat) (h1 : 1 ≤ l) (h4 : l ≤ 4) (w : World) :
    Calls Tryz.prog 120 #[.int .i64 (l : Int)] w fun e w' => e = .returned (.int .u64 ((EN.sz (l - 1) : Nat) : Int)) ∧ w = w' := by
  have hl : l = 1 ∨ l = 2 ∨ l = 3 ∨ l = 4 := by omega
  rcases hl with rfl | rfl | rfl | rfl <;>
  · go_enter Tryz.func120, Tryz.ntmps120
    go_wp2
    go_ret
    exact ⟨rfl, rfl⟩

theorem none_nilT (w : World) : Calls Tryz.prog 76 #[.pointer none] w fun e w' => e = .returned (.bool true) ∧ w = w' := by
  go_enter Tryz.func76, Tryz.ntmps76
  go_wp2
  go_ret
  exact ⟨rfl, rfl⟩
set_option maxRecDepth 100000 in
theorem none_tree (g pg r b : Nat) (M : Nat → Option (Nat → Nat)) (w : World) (h : TM w g pg r b M) : Calls Tryz.prog 76 #[.pointer (some ⟨g, 0, none⟩)] w fun e w' => e = .returned (.bool false) ∧ w = w' := by
  have c2 := h.box.cell (j := 2) rfl
  have H := W_hid h
  have hb : ∀ w, (binOp .eql 124 (.map (some b)) (.map none)).run Tryz.prog w = .ok (.bool false) w := fun w => by kernel_rfl
  clear h
  go_enter Tryz.func76, Tryz.ntmps76
  go_wp2
  go_ret
  exact ⟨rfl, rfl⟩

theorem res_way {fn : Func} {r : Tmp} (hres : fn.results = #[.cell r 133]) (tmps : Array Value) (w : World) {g : Nat} {l : List Value} (hr : tmps.getD r undef = .pointer (some ⟨g, 0, none⟩)) (hp : Blk w g 133 l) (hl : l.length = 12) :
    (results fn tmps).run Tryz.prog w = .ok (.agg l.toArray) w :=
  results_cell_row hres tmps w g _ _ _ _ hr hp Tryz.underlying133 rfl (by simp only [List.size_toArray, hl]; kernel_rfl)
theorem res_map {fn : Func} {r : Tmp} (hres : fn.results = #[.cell r 59]) (tmps : Array Value) (w : World) {g : Nat} {l : List Value} (hr : tmps.getD r undef = .pointer (some ⟨g, 0, none⟩)) (hp : Blk w g 59 l) (hl : l.length = 4) :
    (results fn tmps).run Tryz.prog w = .ok (.agg l.toArray) w :=
  results_cell_row hres tmps w g _ _ _ _ hr hp Tryz.underlying59 rfl (by simp only [List.size_toArray, hl]; kernel_rfl)

set_option maxRecDepth 100000 in
set_option maxHeartbeats 400000 in
theorem mapping_any (va p f : Int) (t h : Bool) (w : World) :
    Calls Tryz.prog 122 #[.int .u64 va, .agg #[.bool t, .bool h, .int .i64 p, .int .u64 f]] w fun e w' => e = .returned (.agg #[.int .u64 va, .int .u64 f, .int .i64 p, .bool h]) ∧ Below w.heap.size w w' := by
  go_enter Tryz.func122, Tryz.ntmps122
  go_wp2
  refine bodyPost_ret (res_map rfl _ _ rfl (Blk.new (w.alloc _) _ [.int .u64 va, .int .u64 f, .int .i64 p, .bool h] (by simp)) rfl) rfl ⟨rfl, ((Below.refl _ _).alloc (Nat.le_refl _) _).alloc (by simp) _⟩

/-- What an entry says of a word of ours. -/
theorem decode_word {F : RX.Tabs} {G : RX.Pags} {r n l c f0 : Nat} (I : RX.Inv F G r n) (h0 : F l (c / 512) = some f0) (w : World) (hk : KT w) :
    Calls Tryz.prog 121 #[.int .u64 ((RX.word F G l c : Nat) : Int), .int .i64 (l : Int)] w fun e w' =>
      e = .returned (.tuple #[.agg #[.bool (RX.ent F G l c).1, .bool (RX.ent F G l c).2.1, .int .i64 (RX.ent F G l c).2.2.1, .int .u64 ((RX.ent F G l c).2.2.2 : Int)], .bool (RX.pres F G l c), .int .i64 0]) ∧ Below w.heap.size w w' := by
  obtain ⟨h1, h2, h3⟩ := RX.word_rd I h0
  have hl := I.lev h0
  cases hp : RX.pres F G l c with
  | true => exact Decode_some _ _ h3 _ _ _ _ (h1 hp) w hk
  | false =>
    obtain ⟨e1, e2⟩ := h2 hp
    rw [e1, e2]
    exact Decode_zero _ (by omega) w

/-- A number in a cell. -/
def cn (w : World) (g i : Nat) : Nat := match w.cell? ⟨g, i, none⟩ with
  | some (.int _ x) => x.toNat
  | _ => 0
def cut (fr : Nat → Nat) (k : Nat) : Nat → Nat := fun i => if k ≤ i then fr i else 0

/-- The tree's block and its map are as they were, and so are the first seven cells of block x. -/
structure PS (g b x : Nat) (w w' : World) : Prop where
  hg : w'.heap[g]? = w.heap[g]?
  hb : w'.heap[b]? = w.heap[b]?
  hx : ∀ j, j ≤ 6 → w'.cell? ⟨x, j, none⟩ = w.cell? ⟨x, j, none⟩
theorem PS.below {g b x : Nat} {w w' : World} (h1 : g < w.heap.size) (h2 : b < w.heap.size) (h3 : x < w.heap.size) (h : Below w.heap.size w w') : PS g b x w w' :=
  ⟨h.block g h1, h.block b h2, fun j _ => by simp only [World.cell?]; rw [h.block x h3]⟩
theorem PS.set {g b x : Nat} {w w' : World} (h : PS g b x w w') (j : Nat) (v : Value) (hj : 7 ≤ j) (h1 : g ≠ x) (h2 : b ≠ x) : PS g b x w (w'.setCell ⟨x, j, none⟩ v) :=
  ⟨(Below.heap_setCell w' ⟨x, j, none⟩ v g h1).trans h.hg, (Below.heap_setCell w' ⟨x, j, none⟩ v b h2).trans h.hb, fun i hi => by
    have e : (⟨x, j, none⟩ : Addr) ≠ ⟨x, i, none⟩ := by intro e; simp only [Addr.mk.injEq, true_and, and_true] at e; omega
    exact (World.cell?_setCell_other _ _ _ _ e).trans (h.hx i hi)⟩
theorem PS.row {g b x y : Nat} {w w' : World} (h : PS g b x w w') (cs : Array Value) (h1 : g ≠ y) (h2 : b ≠ y) (h3 : x ≠ y) : PS g b x w (w'.setRow y cs) :=
  ⟨(setRow_other w' y g cs h1).trans h.hg, (setRow_other w' y b cs h2).trans h.hb, fun j hj => (cell_setRow_other w' y cs _ h3).trans (h.hx j hj)⟩
theorem Blk.cells {g : Nat} {t : TypeId} : ∀ (vs : List Value) {w : World} (pre old : List Value) (o : Nat), Blk w g t (pre ++ old) → pre.length = o → old.length = vs.length → Blk (w.setCells g o vs) g t (pre ++ vs)
  | [], w, pre, old, o, h, _, hl => by
    have : old = [] := List.length_eq_zero_iff.1 hl
    subst this; exact h
  | v :: vs, w, pre, [], o, h, _, hl => by simp at hl
  | v :: vs, w, pre, x :: old, o, h, hp, hl => by
    have h1 := h.set o v
    have e1 : (pre ++ x :: old).set o v = (pre ++ [v]) ++ old := by subst hp; simp
    rw [e1] at h1
    have := Blk.cells vs (pre ++ [v]) old (o + 1) h1 (by simp; omega) (by simpa using hl)
    rw [List.append_assoc] at this
    exact this
theorem Blk.cells0 {w : World} {g : Nat} {t : TypeId} {old : List Value} (h : Blk w g t old) (vs : List Value) (hl : old.length = vs.length) : Blk (w.setCells g 0 vs) g t vs := Blk.cells vs [] old 0 h rfl hl
theorem setCells_far {g k : Nat} (hk : k ≠ g) : ∀ (vs : List Value) (o : Nat) (w : World), (w.setCells g o vs).heap[k]? = w.heap[k]?
  | [], _, _ => rfl
  | v :: vs, o, w => (setCells_far hk vs (o + 1) _).trans (Below.heap_setCell w ⟨g, o, none⟩ v k hk)
theorem below_cells {B g : Nat} (hg : B ≤ g) : ∀ (vs : List Value) (o : Nat) {w w' : World}, Below B w w' → Below B w (w'.setCells g o vs)
  | [], _, _, _, h => h
  | v :: vs, o, w, w', h => below_cells hg vs (o + 1) (h.setCell (p := ⟨g, o, none⟩) hg v)
theorem Blk.there {w : World} {g : Nat} {t : TypeId} {l : List Value} (h : Blk w g t l) (n : Nat) (hn : n = l.length) : w.there g 0 n := fun j hj => by
  refine ⟨?_, h.fz _⟩
  rw [Nat.zero_add]
  have : l[j]? = some l[j] := List.getElem?_eq_getElem (by omega)
  rw [h.cell this]; rfl
theorem cell_heap {w w' : World} {g : Nat} (h : w'.heap[g]? = w.heap[g]?) (j : Nat) : w'.cell? ⟨g, j, none⟩ = w.cell? ⟨g, j, none⟩ := by simp only [World.cell?]; rw [h]
/-- The world at hand is given a letter, and what is known of it. -/
theorem then_world {K : Act → World → Prop} {Q : Exit → Act → World → Prop} {a : Act} {W : World} (R : World → Prop) (h : R W) (k : ∀ W, R W → Exit.then K Q Exit.normal a W) : Exit.then K Q Exit.normal a W := k W h
theorem Blk.row {w : World} {g : Nat} {e : TypeId} {l : List Value} (h : Blk w g e l) (cs : List Value) : Blk (w.setRow g cs.toArray) g e cs := setRow_heap w g _ _ _ _ h
theorem Blk.rowFar {w : World} {g k : Nat} {e : TypeId} {l : List Value} (h : Blk w k e l) (hk : k ≠ g) (cs : Array Value) : Blk (w.setRow g cs) k e l := (setRow_other w g k cs hk).trans h
theorem below_row {B : Nat} {w w' : World} (h : Below B w w') {g : Nat} (hg : B ≤ g) (cs : Array Value) : Below B w (w'.setRow g cs) :=
  ⟨h.os, h.tape, h.output, by rw [setRow_size]; exact h.size, fun k hk => (setRow_other w' g k cs (by omega)).trans (h.block k hk)⟩
/-- A whole block is written: the world is a letter behind it. -/
theorem wpList_store_b {P : Program} {ops : Array Oper} {rest : List Oper} {o : Oper} {a : Act} {w : World} {Q : Exit → Act → World → Prop} (hgd : o.guard = none) (ty : TypeId) (x y : Operand) (ho : o.op = .store ty x y)
    (g : Nat) (cells : List Value) (hx : a.eval x = .pointer (some ⟨g, 0, none⟩)) (hy : a.eval y = .agg cells.toArray) (t : TypeId) (old : List Value) (hg : Blk w g t old) (hi : (P.info? ty).map (·.size) = some cells.toArray.size)
    (hold : old.toArray.size = cells.toArray.size) (h1 : cells.toArray.all (·.oneCell') = true)
    (h : ∀ w', Blk w' g t cells → (∀ B w0, B ≤ g → Below B w0 w → Below B w0 w') → Hid (w' = w.setRow g cells.toArray) → wpList P ops Q rest (a.put o.dst undef) w') : wpList P ops Q (o :: rest) a w :=
  wpList_store_row hgd ty x y ho g cells.toArray hx hy t _ hg hi hold h1 (h _ (hg.row _) (fun B w0 hB hb => below_row hb hB _) (W_hid rfl))
theorem step_store_b {P : Program} {ops : Array Oper} {o : Oper} {a : Act} {w : World} {K : Act → World → Prop} {Q : Exit → Act → World → Prop} {E : Prop} (hgd : o.guard = none) (ty : TypeId) (x y : Operand) (ho : o.op = .store ty x y)
    (g : Nat) (cells : List Value) (hx : a.eval x = .pointer (some ⟨g, 0, none⟩)) (hy : a.eval y = .agg cells.toArray) (t : TypeId) (old : List Value) (hg : Blk w g t old) (hi : (P.info? ty).map (·.size) = some cells.toArray.size)
    (hold : old.toArray.size = cells.toArray.size) (h1 : cells.toArray.all (·.oneCell') = true)
    (hK : ∀ w', Blk w' g t cells → (∀ B w0, B ≤ g → Below B w0 w → Below B w0 w') → Hid (w' = w.setRow g cells.toArray) → K (a.put o.dst undef) w') :
    if Region.wanted o (yielded ops a.tmps) = true then Oper.wp P o a w K Q else E := by
  have hw : Region.wanted o (yielded ops a.tmps) = true := by simp [Region.wanted, hgd]
  rw [if_pos hw]
  exact wp_store_row ty x y ho g cells.toArray hx hy t _ hg hi hold h1 (hK _ (hg.row _) (fun B w0 hB hb => below_row hb hB _) (W_hid rfl))
theorem step_alloc_b {P : Program} {ops : Array Oper} {o : Oper} {a : Act} {w : World} {K : Act → World → Prop} {Q : Exit → Act → World → Prop} {E : Prop} (hgd : o.guard = none) (ty : TypeId) (ho : o.op = .alloc ty) (cells : List Value)
    (hrun : ∀ w : World, (Instr.alloc ty true (.tuple #[])).run P w = .ok (.pointer (some ⟨w.heap.size, 0, none⟩)) (w.alloc (.cells cells.toArray ty))) (x : Nat) (hx : w.heap.size = x)
    (hK : ∀ w', Blk w' x ty cells → Hid (w' = w.alloc (.cells cells.toArray ty)) → K (a.put o.dst (.pointer (some ⟨x, 0, none⟩))) w') :
    if Region.wanted o (yielded ops a.tmps) = true then Oper.wp P o a w K Q else E := by
  have hw : Region.wanted o (yielded ops a.tmps) = true := by simp [Region.wanted, hgd]
  rw [if_pos hw]
  unfold Oper.wp
  simp [execOp, ho, hrun, hx, Result.andThen]
  exact hK _ (Blk.new w _ _ hx.symm) (W_hid rfl)
theorem still_load_row {P : Program} {ops : Array Oper} {o : Oper} {a : Act} {w : World} {K : Act → Prop} (hgd : o.guard = none) (ty : TypeId) (x : Operand) (ho : o.op = .load ty x)
    (g : Nat) (hx : a.eval x = .pointer (some ⟨g, 0, none⟩)) (t : TypeId) (cs : List Value) (d : TypeDesc) (hg : Blk w g t cs)
    (hu : P.underlying ty = some d) (hd : (match d with | .struct _ | .array _ _ => true | _ => false) = true) (hi : (P.info? ty).map (·.size) = some cs.toArray.size)
    (h : K (a.put o.dst (.agg cs.toArray))) : if Region.wanted o (yielded ops a.tmps) then o.still P a w K else K (a.put o.dst undef) := by
  have hw : Region.wanted o (yielded ops a.tmps) = true := by simp [Region.wanted, hgd]
  rw [if_pos hw]
  unfold Oper.still execOp
  simp only [ho, hx, Instr.loadAt, Instr.sureAddr, Sem.run_bind, Sem.run_pure, Result.andThen_ok, run_loadVar_row w g t ty cs.toArray (0, 0) d hg hu hd hi]
  exact ⟨rfl, h⟩
/-- A store into the map of tables, at the operation. -/
theorem wpList_put_b {ops : Array Oper} {rest : List Oper} {o : Oper} {a : Act} {w : World} {Q : Exit → Act → World → Prop} (hg : o.guard = none) (m x v : Operand) (hop : o.op = Op.mapUpdate 124 m x v)
    (b f : Nat) (ws : Nat → Nat) (M : Nat → Option (Nat → Nat)) (hm : a.eval m = .map (some b)) (hx : a.eval x = .int .u64 (f : Int)) (hv : a.eval v = .agg (tw ws).toArray) (h : MB w b M) (hf : f < 65536)
    (hK : ∀ w', MB w' b (upd M f (some ws)) → w.grownBy w' (some b) → w'.heap.size = w.heap.size → wpList Tryz.prog ops Q rest (a.put o.dst undef) w') : wpList Tryz.prog ops Q (o :: rest) a w := by
  refine wpList_plain hg fun K' hK' => ?_
  obtain ⟨w', hrun, r1, r2, r3⟩ := h.put f ws hf
  unfold Oper.wp
  simp [execOp, hop, hm, hx, hv, hrun, Result.andThen]
  exact hK' _ _ (hK w' r1 r2 r3)
theorem two_grown {b : Nat} {w w1 w2 : World} (h : Below w.heap.size w w1) (hg : w1.grownBy w2 (some b)) : Two b b w w2 :=
  ⟨hg.os.trans h.os, hg.tape.trans h.tape, hg.output.trans h.output, Nat.le_trans h.size hg.size, fun k hk h1 _ => (hg.block k (Nat.lt_of_lt_of_le hk h.size) (fun e => h1 (Option.some.inj e))).trans (h.block k hk)⟩
theorem store_far {w w' : World} {g k : Nat} {e : TypeId} {l : List Value} {cs : Array Value} (he : w' = w.setRow g cs) (h : Blk w k e l) (hk : k ≠ g) : Blk w' k e l := by rw [he]; exact h.rowFar hk cs
theorem wl_info (va : Nat) (fr : Nat → Nat) (L : Nat) (e : Bool × Bool × Int × Nat) (p : Bool) : (Tryz.prog.info? 133).map (·.size) = some (wl va fr L e p).toArray.size := by
  show _ = some 12
  kernel_rfl
theorem wl_one (va : Nat) (fr : Nat → Nat) (L : Nat) (e : Bool × Bool × Int × Nat) (p : Bool) : (wl va fr L e p).toArray.all (·.oneCell') = true := by simp [wl, Value.oneCell']
theorem wl_get {va L m : Nat} {fr : Nat → Nat} {e : Bool × Bool × Int × Nat} {p : Bool} (hm : m ≤ 4) : (wl va fr L e p)[1 + m]? = some (.int .u64 (fr m : Int)) := by
  have : m = 0 ∨ m = 1 ∨ m = 2 ∨ m = 3 ∨ m = 4 := by omega
  rcases this with rfl | rfl | rfl | rfl | rfl <;> rfl
theorem wl_step {va m : Nat} {fr : Nat → Nat} {e : Bool × Bool × Int × Nat} {p : Bool} (hm : m ≤ 3) :
    ((wl va (cut fr (m + 1)) (m + 1) e p).set 6 (.int .i64 (m : Int))).set (1 + m) (.int .u64 (fr m : Int)) = wl va (cut fr m) m e p := by
  have : m = 0 ∨ m = 1 ∨ m = 2 ∨ m = 3 := by omega
  rcases this with rfl | rfl | rfl | rfl <;> simp [wl, cut]
theorem cn_of {w : World} {g i : Nat} {k : IntKind} {x : Int} {n : Nat} (h : w.cell? ⟨g, i, none⟩ = some (.int k x)) (hx : x = n) : cn w g i = n := by
  unfold cn; rw [h, hx]; rfl
theorem wl_set (va : Nat) (fr : Nat → Nat) (L : Nat) (e e' : Bool × Bool × Int × Nat) (p p' : Bool) :
    (((((wl va fr L e p).set 7 (.bool e'.1)).set 8 (.bool e'.2.1)).set 9 (.int .i64 e'.2.2.1)).set 10 (.int .u64 (e'.2.2.2 : Int))).set 11 (.bool p') = wl va fr L e' p' := rfl
theorem cut_cell {va k L : Nat} {fr : Nat → Nat} {e : Bool × Bool × Int × Nat} {p : Bool} (hk : k ≤ 4) (hL : L ≤ k) : (wl va (cut fr L) k e p)[1 + k]? = some (.int .u64 (fr k : Int)) := by
  have : k = 0 ∨ k = 1 ∨ k = 2 ∨ k = 3 ∨ k = 4 := by omega
  rcases this with rfl | rfl | rfl | rfl | rfl <;> simp [wl, cut, hL]
theorem tw_index (ws : Nat → Nat) (i : Nat) (hi : i < 512) (w : World) : (Instr.index 156 (.agg (tw ws).toArray) (.int .i64 (i : Int))).run Tryz.prog w = .ok (.int .u64 ((ws i : Nat) : Int)) w := by
  have h := tw_get ws i hi
  simp [Instr.index, go_sem, hi, h]
end Go.Proofs.YtkomahekdcaiaaaGreatDoor

/- Contract of package radix's descend: a search goes down from the root to the level where it ends. -/
namespace Go.Proofs.YtkomahekdcaiaaaGreatDoor
open Go.ChangeShapes Go.WideShapes Go.ChangeAt Go.RowKit
set_option linter.unusedVariables false
set_option linter.unusedSimpArgs false

set_option maxRecDepth 100000 in
set_option maxHeartbeats 2000000 in
theorem descend_any (g pg r b n va lo L : Nat) (fr : Nat → Nat) (M : Nat → Option (Nat → Nat)) (F : RX.Tabs) (G : RX.Pags) (I : RX.Inv F G r n) (R : RX.Rep M F G) (hva : va < 140737488355328) (hd : RX.Desc F va lo L fr) (w : World) (h : TM w g pg r b M) :
    Calls Tryz.prog 124 #[.pointer (some ⟨g, 0, none⟩), .int .u64 (va : Int), .int .i64 (lo : Int)] w fun e w' =>
      e = .returned (.agg (wl va fr L (RX.ent F G L (va / EN.sz (L - 1))) (RX.pres F G L (va / EN.sz (L - 1)))).toArray) ∧ Below w.heap.size w w' := by
  have c1 := h.box.cell (j := 1) rfl
  have fz := h.box.fz
  have H := W_hid h
  have hlt := h.box.lt
  have ne1 : ¬ g = w.heap.size := by omega
  have ne2 : ¬ w.heap.size = g := by omega
  have ne3 : ¬ g = w.heap.size + 1 := by omega
  have ne4 : ¬ w.heap.size + 1 = g := by omega
  have neb : ¬ b = w.heap.size + 1 := by have := h.mb.lt; omega
  clear h
  go_enter Tryz.func124, Tryz.ntmps124
  go_wp2_with fail
  go_loopw [8] (fun x wr => ∃ k : Nat, L ≤ k ∧ k ≤ 4 ∧ cn wr (w.heap.size + 1) 6 = k ∧ Below w.heap.size w wr ∧ (∃ e p, Blk wr (w.heap.size + 1) 133 (wl va (cut fr k) k e p)) ∧ ∃ l, l.length = 12 ∧ Blk wr w.heap.size 133 l) (fun _ wr => cn wr (w.heap.size + 1) 6)
  case atStart =>
    have hr4 : fr 4 = r := by
      have h1 := hd.on 4 hd.l4 (Nat.le_refl _)
      rw [RX.top_zero va hva, I.root] at h1
      exact (Option.some.inj h1).symm
    have e0 : [Value.int .u64 (va : Int), .int .u64 0, .int .u64 0, .int .u64 0, .int .u64 0, .int .u64 (r : Int), .int .i64 4, .bool false, .bool false, .int .i64 0, .int .u64 0, .bool false] = wl va (cut fr 4) 4 (false, false, 0, 0) false := by simp [wl, cut, hr4]
    have hB : ∀ o : Obj, Blk ((w.alloc o).alloc (.cells (wl va (cut fr 4) 4 (false, false, 0, 0) false).toArray 133)) (w.heap.size + 1) 133 (wl va (cut fr 4) 4 (false, false, 0, 0) false) := fun o => Blk.new (w.alloc o) _ _ (by simp)
    rw [← e0] at hB
    refine ⟨4, hd.l4, Nat.le_refl _, cn_of ((hB _).cell (j := 6) rfl) rfl, ((Below.refl _ _).alloc (Nat.le_refl _) _).alloc (by simp) _, ⟨(false, false, 0, 0), false, e0 ▸ hB _⟩, _, ?_, Blk.alloc (Blk.new w _ [.int .u64 0, .int .u64 0, .int .u64 0, .int .u64 0, .int .u64 0, .int .u64 0, .int .i64 0, .bool false, .bool false, .int .i64 0, .int .u64 0, .bool false] rfl) _⟩
    rfl
  case round =>
    obtain ⟨k, hk1, hk4, hcn, bel, ⟨e, p, hW⟩, l, hl, hZ⟩ := hrel
    have H2 := W_hid (H.out.keep bel)
    have d1 := H2.out.box.cell (j := 1) rfl
    have d2 := H2.out.box.cell (j := 2) rfl
    have k6 : wr.cell? ⟨w.heap.size + 1, 6, none⟩ = some (.int .i64 (k : Int)) := hW.cell rfl
    have hX := W_hid (fun w => Index_yes va k hva (by have := hd.l1; omega) hk4 w)
    go_wp2_with fail
    refine (hX.out _).mono ?_
    rintro e1 w2 ⟨rfl, bel2⟩
    have hW2 : Blk w2 (w.heap.size + 1) 133 (wl va (cut fr k) k e p) := hW.keep bel2
    have hZ2 := hZ.keep bel2
    replace bel2 := bel.trans (bel2.mono bel.size)
    have H3 := W_hid (H.out.keep bel2)
    obtain ⟨ws, hM, hwi⟩ := hd.toWay.word R k hk1 hk4
    have hfl := RX.Way.lt I hd.toWay k
    have hlk : ∀ w', w'.heap[b]? = w2.heap[b]? → (Instr.lookup 124 (.map (some b)) (.int .u64 (fr k : Int)) false).run Tryz.prog w' = .ok (.agg (tw ws).toArray) w' := by
      intro w' hw
      have := (H3.out.mb.heap hw).look (fr k) (by omega)
      rw [hM] at this; exact this
    have hix : ∀ w, (Instr.index 156 (.agg (tw ws).toArray) (.int .i64 ((EN.idx va k : Nat) : Int))).run Tryz.prog w = .ok (.int .u64 ((RX.word F G k (va / EN.sz (k - 1)) : Nat) : Int)) w := by
      intro w
      rw [← hwi]
      exact tw_index ws _ (EN.idx_lt va k) w
    have d2 := H3.out.box.cell (j := 2) rfl
    have k6 : w2.cell? ⟨w.heap.size + 1, 6, none⟩ = some (.int .i64 (k : Int)) := hW2.cell rfl
    have kf : w2.cell? ⟨w.heap.size + 1, 1 + k, none⟩ = some (.int .u64 (fr k : Int)) := hW2.cell (cut_cell hk4 (Nat.le_refl k))
    have hD := W_hid (fun w hk => decode_word (l := k) (c := va / EN.sz (k - 1)) (f0 := fr k) I (by rw [RX.sz_down va k (by have := hd.l1; omega)]; exact hd.on k hk1 hk4) w hk)
    generalize RX.word F G k (va / EN.sz (k - 1)) = V at *
    obtain ⟨T0, hT0⟩ : ∃ T0, T0 = (tw ws).toArray := ⟨_, rfl⟩
    rw [← hT0] at hlk hix
    replace hT0 := W_hid hT0
    have hKd : KT w2.drew := (H3.out.kt : KT w2)
    have k5 : (k : Int) < 5 := by omega
    have hS : ∀ w', PS g b (w.heap.size + 1) w2 w' → w'.cell? ⟨g, 2, none⟩ = some (.map (some b)) ∧ w'.cell? ⟨w.heap.size + 1, 6, none⟩ = some (.int .i64 (k : Int)) ∧ w'.cell? ⟨w.heap.size + 1, 1 + k, none⟩ = some (.int .u64 (fr k : Int)) ∧ (Instr.lookup 124 (.map (some b)) (.int .u64 (fr k : Int)) false).run Tryz.prog w' = .ok (.agg T0) w' := by
      intro w' hb
      exact ⟨(cell_heap hb.hg 2).trans d2, (hb.hx 6 (by omega)).trans k6, (hb.hx (1 + k) (by omega)).trans kf, hlk _ hb.hb⟩
    have hPB : ∀ w', Below w2.heap.size w2 w' → PS g b (w.heap.size + 1) w2 w' := fun w' h => PS.below H3.out.box.lt H3.out.mb.lt hW2.lt h
    replace hS := W_hid hS
    have hP0 : PS g b (w.heap.size + 1) w2 w2.drew := hPB _ ⟨rfl, rfl, rfl, Nat.le_refl _, fun _ _ => rfl⟩
    replace hPB := W_hid hPB
    go_wp2_with fail
    go_region_held3 (fun w' => w'.cell? ⟨g, 2, none⟩ = some (.map (some b)) ∧ w'.cell? ⟨w.heap.size + 1, 6, none⟩ = some (.int .i64 (k : Int)) ∧ w'.cell? ⟨w.heap.size + 1, 1 + k, none⟩ = some (.int .u64 (fr k : Int)) ∧ (Instr.lookup 124 (.map (some b)) (.int .u64 (fr k : Int)) false).run Tryz.prog w' = .ok (.agg T0) w')
      (first | (with_reducible exact hS.out _ hP0) | (with_reducible exact hS.out _ hP3) | (with_reducible exact hS.out _ (hP4 _ _ _ _)) | (with_reducible exact hS.out _ (hP5 _ _ _ _ _)))
      (first | (go_at_call 121; refine (hD.out _ hKd).mono ?_; rintro e w3 ⟨rfl, bel3⟩; have hW3 := hW2.keep (bundrew bel3); have hP3 := hPB.out _ (bundrew bel3); have hP4 := fun v0 v1 v2 v3 => (((hP3.set 7 v0 (by decide) ne3 neb).set 8 v1 (by decide) ne3 neb).set 9 v2 (by decide) ne3 neb).set 10 v3 (by decide) ne3 neb; have hP5 := fun v0 v1 v2 v3 v4 => (hP4 v0 v1 v2 v3).set 11 v4 (by decide) ne3 neb; have f3 := hW3.fz; have z7 := hW3.cell (j := 7) rfl; have z8 := hW3.cell (j := 8) rfl; have z9 := hW3.cell (j := 9) rfl; have z10 := hW3.cell (j := 10) rfl; have z11 := hW3.cell (j := 11) rfl))
    rename_i hh
    clear hh
    have bel4 : Below w.heap.size w w3 := bel2.trans ((bundrew bel3).mono bel2.size)
    refine then_world (fun W => Blk W (w.heap.size + 1) 133 (wl va (cut fr k) k (RX.ent F G k (va / EN.sz (k - 1))) (RX.pres F G k (va / EN.sz (k - 1)))) ∧ Below w.heap.size w W ∧ Blk W w.heap.size 133 l) ⟨((((hW3.set 7 _).set 8 _).set 9 _).set 10 _).set 11 _,
      ((((bel4.setCell (p := ⟨w.heap.size + 1, 7, none⟩) (by simp) _).setCell (p := ⟨w.heap.size + 1, 8, none⟩) (by simp) _).setCell (p := ⟨w.heap.size + 1, 9, none⟩) (by simp) _).setCell (p := ⟨w.heap.size + 1, 10, none⟩) (by simp) _).setCell (p := ⟨w.heap.size + 1, 11, none⟩) (by simp) _,
      (((((hZ2.keep (bundrew bel3)).far (by simp) _).far (by simp) _).far (by simp) _).far (by simp) _).far (by simp) _⟩ ?_
    rintro W4 ⟨hW4, bel4, hZ4⟩
    clear hP0 hPB hP3 hP4 hP5 bel3 hW3 f3 z7 z8 z9 z10 z11 hS hD hT0 hlk hix d2 k6 kf hKd
    have hEy : L < k → RX.ent F G k (va / EN.sz (k - 1)) = (true, false, 7, fr (k - 1)) := fun hlt => by
      have := hd.on (k - 1) (by omega) (by omega)
      unfold RX.ent; rw [this]
    have hEn : k = L → L ≠ lo → (RX.ent F G k (va / EN.sz (k - 1))).1 = false := fun e1 e2 => by
      have := hd.stop.resolve_left e2
      subst e1
      unfold RX.ent; rw [this]
      cases hG : G k (va / EN.sz (k - 1)) with
      | none => rfl
      | some x => rfl
    generalize hEe : RX.ent F G k (va / EN.sz (k - 1)) = E at *
    generalize hPe : RX.pres F G k (va / EN.sz (k - 1)) = PP at *
    have c6 : W4.cell? ⟨w.heap.size + 1, 6, none⟩ = some (.int .i64 (k : Int)) := hW4.cell rfl
    have c7 : W4.cell? ⟨w.heap.size + 1, 7, none⟩ = some (.bool E.1) := hW4.cell rfl
    have c10 : W4.cell? ⟨w.heap.size + 1, 10, none⟩ = some (.int .u64 (E.2.2.2 : Int)) := hW4.cell rfl
    have f4 := hW4.fz
    by_cases hkL : k = L
    · subst hkL
      have hcut : cut fr k = fr := by
        funext i
        unfold cut
        split
        · rfl
        · rw [hd.off i (by omega)]
      rw [hcut] at hW4
      have hW5 := W_hid hW4
      have hZ5 := W_hid hZ4
      have hb5 := W_hid bel4
      have hEe' := W_hid hEe
      have hPe' := W_hid hPe
      have hl5 : l.toArray.size = (wl va fr k E PP).toArray.size := by simp [wl, hl]
      clear hEy hcut hW4 hZ4 bel4 hwi hEe hPe hl hk1
      by_cases hlo : k = lo
      · have t1 : ((k : Int) == (lo : Int)) = true := by simp; omega
        clear hEn hd hlo
        go_wp2_with (first
          | (refine wpList_load_row rfl 133 _ rfl (w.heap.size + 1) rfl _ _ _ _ hW5.out Tryz.underlying133 rfl (wl_info _ _ _ _ _) ?_)
          | (refine wpList_store_row rfl 133 _ _ rfl w.heap.size _ rfl rfl _ _ hZ5.out (wl_info _ _ _ _ _) hl5 (wl_one _ _ _ _ _) ?_))
        refine bodyPost_ret (res_way rfl _ _ rfl (Blk.row hZ5.out _) rfl) rfl ⟨?_, below_row hb5.out (Nat.le_refl _) _⟩
        rw [hEe'.out, hPe'.out]
      · have t1 : ((k : Int) == (lo : Int)) = false := by simp; omega
        have t2 := hEn rfl hlo
        rw [t2] at c7
        replace t2 := W_hid t2
        clear hEn hd hlo
        go_wp2_with (first
          | (refine wpList_load_row rfl 133 _ rfl (w.heap.size + 1) rfl _ _ _ _ hW5.out Tryz.underlying133 rfl (wl_info _ _ _ _ _) ?_)
          | (refine wpList_store_row rfl 133 _ _ rfl w.heap.size _ rfl rfl _ _ hZ5.out (wl_info _ _ _ _ _) hl5 (wl_one _ _ _ _ _) ?_))
        refine bodyPost_ret (res_way rfl _ _ rfl (Blk.row hZ5.out _) rfl) rfl ⟨?_, below_row hb5.out (Nat.le_refl _) _⟩
        rw [hEe'.out, hPe'.out]
    · have hlt2 : L < k := by omega
      obtain rfl := hEy hlt2
      have t1 : ((k : Int) == (lo : Int)) = false := by have := hd.ge; simp; omega
      have hl1 := hd.l1
      obtain ⟨m, hm⟩ : ∃ m, m = k - 1 := ⟨k - 1, rfl⟩
      rw [← hm] at hW4 c10
      have eqm : (k : Int) - 1 = (m : Int) := by omega
      have m5 : (m : Int) < 5 := by omega
      have hkm : Hid (k = m + 1) := W_hid (by omega)
      replace hcn := W_hid hcn
      have cm : W4.cell? ⟨w.heap.size + 1, 1 + m, none⟩ = some (.int .u64 ((cut fr k m : Nat) : Int)) := hW4.cell (wl_get (by omega))
      have hm3 : Hid (m ≤ 3 ∧ L ≤ m) := W_hid (by omega)
      have hW5 := W_hid hW4
      have hZ5 := W_hid hZ4
      have hb5 := W_hid bel4
      have hl5 := W_hid hl
      clear hEy hEn hW4 hZ4 bel4 hwi hEe hPe hl hd hk1 hlt2 hkL hm hfl hM
      go_wp2
      go_roundw
      case rel =>
        have hk := hkm.out
        subst hk
        have hB := (hW5.out.set 6 (.int .i64 (m : Int))).set (1 + m) (.int .u64 (fr m : Int))
        rw [wl_step hm3.out.1] at hB
        exact ⟨m, hm3.out.2, by have := hm3.out.1; omega, cn_of (hB.cell (j := 6) rfl) rfl, (hb5.out.setCell (p := ⟨w.heap.size + 1, 6, none⟩) (by simp) _).setCell (p := ⟨w.heap.size + 1, 1 + m, none⟩) (by simp) _, ⟨_, _, hB⟩, l, hl5.out, (hZ5.out.far (by simp) _).far (by simp) _⟩
      case measure =>
        have hk := hkm.out
        subst hk
        have hB := (hW5.out.set 6 (.int .i64 (m : Int))).set (1 + m) (.int .u64 (fr m : Int))
        rw [wl_step hm3.out.1] at hB
        rw [cn_of (hB.cell (j := 6) rfl) rfl, hcn.out]
        omega
end Go.Proofs.YtkomahekdcaiaaaGreatDoor

/- Contracts of package radix: find and vacant. -/
namespace Go.Proofs.YtkomahekdcaiaaaGreatDoor
open Go.ChangeShapes Go.WideShapes Go.ChangeAt Go.RowKit
set_option linter.unusedVariables false
set_option linter.unusedSimpArgs false

def fault (c : Int) : List PanicEntry := [{ v := .iface 29 (.int .i64 c), recovered := false }]
def wzero : List Value := [.int .u64 0, .int .u64 0, .int .u64 0, .int .u64 0, .int .u64 0, .int .u64 0, .int .i64 0, .bool false, .bool false, .int .i64 0, .int .u64 0, .bool false]

set_option maxRecDepth 100000 in
set_option maxHeartbeats 2000000 in
theorem find_yes (g pg r b n va L : Nat) (c : Int) (fr : Nat → Nat) (M : Nat → Option (Nat → Nat)) (F : RX.Tabs) (G : RX.Pags) (I : RX.Inv F G r n) (R : RX.Rep M F G) (hva : va < 140737488355328) (hd : RX.Desc F va 1 L fr)
    (hp : RX.pres F G L (va / EN.sz (L - 1)) = true) (w : World) (h : TM w g pg r b M) :
    Calls Tryz.prog 81 #[.pointer (some ⟨g, 0, none⟩), .int .u64 (va : Int), .int .i64 c] w fun e w' =>
      e = .returned (.agg (wl va fr L (RX.ent F G L (va / EN.sz (L - 1))) true).toArray) ∧ Below w.heap.size w w' := by
  have hD := W_hid (fun w h => descend_any g pg r b n va 1 L fr M F G I R hva hd w h)
  rw [hp] at hD
  generalize RX.ent F G L (va / EN.sz (L - 1)) = E at *
  have H := W_hid h
  clear h hp hd
  go_enter Tryz.func81, Tryz.ntmps81
  go_wp2_with fail
  refine (hD.out _ (H.out.keep ((Below.refl _ _).alloc (Nat.le_refl _) _))).mono ?_
  rintro e w1 ⟨rfl, bel⟩
  have hZ : Blk w1 w.heap.size 133 wzero := Blk.keep (Blk.new w _ _ rfl) bel
  have bel1 : Below w.heap.size w (w1.alloc (.cells wzero.toArray 133)) := (((Below.refl w.heap.size w).alloc (Nat.le_refl _) (.cells wzero.toArray 133)).trans (bel.mono (by simp))).alloc (by have := hZ.lt; omega) _
  replace bel1 := W_hid bel1
  have hX : Hid (Blk (w1.alloc (.cells wzero.toArray 133)) w1.heap.size 133 wzero) := W_hid (Blk.new w1 _ _ rfl)
  have hZ1 := W_hid (hZ.alloc (.cells wzero.toArray 133))
  have hne : Hid (w.heap.size < w1.heap.size) := W_hid hZ.lt
  clear bel hZ
  go_wp2_with (first
    | (refine wpList_store_b rfl 133 _ _ rfl w1.heap.size (wl va fr L E true) rfl rfl _ _ hX.out (wl_info _ _ _ _ _) rfl (wl_one _ _ _ _ _) ?_; intro w2 hX2 hb2 he2; have hZ2 := W_hid (store_far he2.out hZ1.out (Nat.ne_of_lt hne.out)); have bel2 := W_hid (hb2 _ _ (Nat.le_of_lt hne.out) bel1.out); have c11 := hX2.cell (j := 11) rfl; replace hX2 := W_hid hX2; clear hb2 he2)
    | (refine wpList_load_row rfl 133 _ rfl w1.heap.size rfl _ _ _ _ hX2.out Tryz.underlying133 rfl (wl_info _ _ _ _ _) ?_)
    | (refine wpList_store_b rfl 133 _ _ rfl w.heap.size (wl va fr L E true) rfl rfl _ _ hZ2.out (wl_info _ _ _ _ _) rfl (wl_one _ _ _ _ _) ?_; intro w3 hZ3 hb3 he3; have bel3 := W_hid (hb3 _ _ (Nat.le_refl _) bel2.out); replace hZ3 := W_hid hZ3; clear hb3 he3))
  exact bodyPost_ret (res_way rfl _ _ rfl hZ3.out rfl) rfl ⟨rfl, bel3.out⟩

set_option maxRecDepth 100000 in
set_option maxHeartbeats 2000000 in
theorem find_no (g pg r b n va L : Nat) (c : Int) (fr : Nat → Nat) (M : Nat → Option (Nat → Nat)) (F : RX.Tabs) (G : RX.Pags) (I : RX.Inv F G r n) (R : RX.Rep M F G) (hva : va < 140737488355328) (hd : RX.Desc F va 1 L fr)
    (hp : RX.pres F G L (va / EN.sz (L - 1)) = false) (w : World) (h : TM w g pg r b M) :
    Calls Tryz.prog 81 #[.pointer (some ⟨g, 0, none⟩), .int .u64 (va : Int), .int .i64 c] w fun e w' =>
      e = .panicked (fault c) ∧ Below w.heap.size w w' := by
  have hD := W_hid (fun w h => descend_any g pg r b n va 1 L fr M F G I R hva hd w h)
  rw [hp] at hD
  generalize RX.ent F G L (va / EN.sz (L - 1)) = E at *
  have H := W_hid h
  clear h hp hd
  go_enter Tryz.func81, Tryz.ntmps81
  go_wp2_with fail
  refine (hD.out _ (H.out.keep ((Below.refl _ _).alloc (Nat.le_refl _) _))).mono ?_
  rintro e w1 ⟨rfl, bel⟩
  have hZ : Blk w1 w.heap.size 133 wzero := Blk.keep (Blk.new w _ _ rfl) bel
  have bel1 : Below w.heap.size w (w1.alloc (.cells wzero.toArray 133)) := (((Below.refl w.heap.size w).alloc (Nat.le_refl _) (.cells wzero.toArray 133)).trans (bel.mono (by simp))).alloc (by have := hZ.lt; omega) _
  replace bel1 := W_hid bel1
  have hX : Hid (Blk (w1.alloc (.cells wzero.toArray 133)) w1.heap.size 133 wzero) := W_hid (Blk.new w1 _ _ rfl)
  have hZ1 := W_hid (hZ.alloc (.cells wzero.toArray 133))
  have hne : Hid (w.heap.size < w1.heap.size) := W_hid hZ.lt
  clear bel hZ
  go_wp2_with (first
    | (refine wpList_store_b rfl 133 _ _ rfl w1.heap.size (wl va fr L E false) rfl rfl _ _ hX.out (wl_info _ _ _ _ _) rfl (wl_one _ _ _ _ _) ?_; intro w2 hX2 hb2 he2; have hZ2 := W_hid (store_far he2.out hZ1.out (Nat.ne_of_lt hne.out)); have bel2 := W_hid (hb2 _ _ (Nat.le_of_lt hne.out) bel1.out); have c11 := hX2.cell (j := 11) rfl; replace hX2 := W_hid hX2; clear hb2 he2)
    | (refine wpList_load_row rfl 133 _ rfl w1.heap.size rfl _ _ _ _ hX2.out Tryz.underlying133 rfl (wl_info _ _ _ _ _) ?_)
    | (refine wpList_store_b rfl 133 _ _ rfl w.heap.size (wl va fr L E false) rfl rfl _ _ hZ2.out (wl_info _ _ _ _ _) rfl (wl_one _ _ _ _ _) ?_; intro w3 hZ3 hb3 he3; have bel3 := W_hid (hb3 _ _ (Nat.le_refl _) bel2.out); replace hZ3 := W_hid hZ3; clear hb3 he3))
  exact ⟨rfl, rfl, bel2.out⟩

set_option maxRecDepth 100000 in
set_option maxHeartbeats 2000000 in
theorem vacant_yes (g pg r b n va L : Nat) (lo : Nat) (fr : Nat → Nat) (M : Nat → Option (Nat → Nat)) (F : RX.Tabs) (G : RX.Pags) (I : RX.Inv F G r n) (R : RX.Rep M F G) (hva : va < 140737488355328) (hd : RX.Desc F va lo L fr)
    (hp : RX.pres F G L (va / EN.sz (L - 1)) = false) (w : World) (h : TM w g pg r b M) :
    Calls Tryz.prog 162 #[.pointer (some ⟨g, 0, none⟩), .int .u64 (va : Int), .int .i64 (lo : Int)] w fun e w' =>
      e = .returned (.agg (wl va fr L (RX.ent F G L (va / EN.sz (L - 1))) false).toArray) ∧ Below w.heap.size w w' := by
  have hD := W_hid (fun w h => descend_any g pg r b n va lo L fr M F G I R hva hd w h)
  rw [hp] at hD
  generalize RX.ent F G L (va / EN.sz (L - 1)) = E at *
  have H := W_hid h
  clear h hp hd
  go_enter Tryz.func162, Tryz.ntmps162
  go_wp2_with fail
  refine (hD.out _ (H.out.keep ((Below.refl _ _).alloc (Nat.le_refl _) _))).mono ?_
  rintro e w1 ⟨rfl, bel⟩
  have hZ : Blk w1 w.heap.size 133 wzero := Blk.keep (Blk.new w _ _ rfl) bel
  have bel1 : Below w.heap.size w (w1.alloc (.cells wzero.toArray 133)) := (((Below.refl w.heap.size w).alloc (Nat.le_refl _) (.cells wzero.toArray 133)).trans (bel.mono (by simp))).alloc (by have := hZ.lt; omega) _
  replace bel1 := W_hid bel1
  have hX : Hid (Blk (w1.alloc (.cells wzero.toArray 133)) w1.heap.size 133 wzero) := W_hid (Blk.new w1 _ _ rfl)
  have hZ1 := W_hid (hZ.alloc (.cells wzero.toArray 133))
  have hne : Hid (w.heap.size < w1.heap.size) := W_hid hZ.lt
  clear bel hZ
  go_wp2_with (first
    | (refine wpList_store_b rfl 133 _ _ rfl w1.heap.size (wl va fr L E false) rfl rfl _ _ hX.out (wl_info _ _ _ _ _) rfl (wl_one _ _ _ _ _) ?_; intro w2 hX2 hb2 he2; have hZ2 := W_hid (store_far he2.out hZ1.out (Nat.ne_of_lt hne.out)); have bel2 := W_hid (hb2 _ _ (Nat.le_of_lt hne.out) bel1.out); have c11 := hX2.cell (j := 11) rfl; replace hX2 := W_hid hX2; clear hb2 he2)
    | (refine wpList_load_row rfl 133 _ rfl w1.heap.size rfl _ _ _ _ hX2.out Tryz.underlying133 rfl (wl_info _ _ _ _ _) ?_)
    | (refine wpList_store_b rfl 133 _ _ rfl w.heap.size (wl va fr L E false) rfl rfl _ _ hZ2.out (wl_info _ _ _ _ _) rfl (wl_one _ _ _ _ _) ?_; intro w3 hZ3 hb3 he3; have bel3 := W_hid (hb3 _ _ (Nat.le_refl _) bel2.out); replace hZ3 := W_hid hZ3; clear hb3 he3))
  exact bodyPost_ret (res_way rfl _ _ rfl hZ3.out rfl) rfl ⟨rfl, bel3.out⟩

set_option maxRecDepth 100000 in
set_option maxHeartbeats 2000000 in
theorem vacant_no (g pg r b n va L : Nat) (lo : Nat) (fr : Nat → Nat) (M : Nat → Option (Nat → Nat)) (F : RX.Tabs) (G : RX.Pags) (I : RX.Inv F G r n) (R : RX.Rep M F G) (hva : va < 140737488355328) (hd : RX.Desc F va lo L fr)
    (hp : RX.pres F G L (va / EN.sz (L - 1)) = true) (w : World) (h : TM w g pg r b M) :
    Calls Tryz.prog 162 #[.pointer (some ⟨g, 0, none⟩), .int .u64 (va : Int), .int .i64 (lo : Int)] w fun e w' =>
      e = .panicked (fault 102) ∧ Below w.heap.size w w' := by
  have hD := W_hid (fun w h => descend_any g pg r b n va lo L fr M F G I R hva hd w h)
  rw [hp] at hD
  generalize RX.ent F G L (va / EN.sz (L - 1)) = E at *
  have H := W_hid h
  clear h hp hd
  go_enter Tryz.func162, Tryz.ntmps162
  go_wp2_with fail
  refine (hD.out _ (H.out.keep ((Below.refl _ _).alloc (Nat.le_refl _) _))).mono ?_
  rintro e w1 ⟨rfl, bel⟩
  have hZ : Blk w1 w.heap.size 133 wzero := Blk.keep (Blk.new w _ _ rfl) bel
  have bel1 : Below w.heap.size w (w1.alloc (.cells wzero.toArray 133)) := (((Below.refl w.heap.size w).alloc (Nat.le_refl _) (.cells wzero.toArray 133)).trans (bel.mono (by simp))).alloc (by have := hZ.lt; omega) _
  replace bel1 := W_hid bel1
  have hX : Hid (Blk (w1.alloc (.cells wzero.toArray 133)) w1.heap.size 133 wzero) := W_hid (Blk.new w1 _ _ rfl)
  have hZ1 := W_hid (hZ.alloc (.cells wzero.toArray 133))
  have hne : Hid (w.heap.size < w1.heap.size) := W_hid hZ.lt
  clear bel hZ
  go_wp2_with (first
    | (refine wpList_store_b rfl 133 _ _ rfl w1.heap.size (wl va fr L E true) rfl rfl _ _ hX.out (wl_info _ _ _ _ _) rfl (wl_one _ _ _ _ _) ?_; intro w2 hX2 hb2 he2; have hZ2 := W_hid (store_far he2.out hZ1.out (Nat.ne_of_lt hne.out)); have bel2 := W_hid (hb2 _ _ (Nat.le_of_lt hne.out) bel1.out); have c11 := hX2.cell (j := 11) rfl; replace hX2 := W_hid hX2; clear hb2 he2)
    | (refine wpList_load_row rfl 133 _ rfl w1.heap.size rfl _ _ _ _ hX2.out Tryz.underlying133 rfl (wl_info _ _ _ _ _) ?_)
    | (refine wpList_store_b rfl 133 _ _ rfl w.heap.size (wl va fr L E true) rfl rfl _ _ hZ2.out (wl_info _ _ _ _ _) rfl (wl_one _ _ _ _ _) ?_; intro w3 hZ3 hb3 he3; have bel3 := W_hid (hb3 _ _ (Nat.le_refl _) bel2.out); replace hZ3 := W_hid hZ3; clear hb3 he3))
  exact ⟨rfl, rfl, bel2.out⟩
end Go.Proofs.YtkomahekdcaiaaaGreatDoor

/- Contracts of package radix: a way's page; a word is set. -/
namespace Go.Proofs.YtkomahekdcaiaaaGreatDoor
open Go.ChangeShapes Go.WideShapes Go.ChangeAt Go.RowKit
set_option linter.unusedVariables false
set_option linter.unusedSimpArgs false

/-- The world ahead of a piece of code is given a letter, and what is known of it. -/
theorem wp_world {P : Program} {c : Code} {Q : Exit → Act → World → Prop} {a : Act} {W : World} (R : World → Prop) (h : R W) (k : ∀ W, R W → Code.wp P c Q a W) : Code.wp P c Q a W := k W h
theorem sz_ones (k : Nat) (h : k ≤ 3) : WM.ones (EN.sz k) 64 = 1 := by
  have : k = 0 ∨ k = 1 ∨ k = 2 ∨ k = 3 := by omega
  rcases this with rfl | rfl | rfl | rfl <;> decide +kernel
theorem sz_lt (k : Nat) (h : k ≤ 3) : EN.sz k < 18446744073709551616 := by have := EN.sz_le k (by omega); omega

set_option maxRecDepth 100000 in
set_option maxHeartbeats 2000000 in
theorem page_any (va L : Nat) (fr : Nat → Nat) (E : Bool × Bool × Int × Nat) (p : Bool) (hva : va < 140737488355328) (h1 : 1 ≤ L) (h4 : L ≤ 4) (w : World) :
    Calls Tryz.prog 82 #[.agg (wl va fr L E p).toArray] w fun e w' =>
      e = .returned (.agg #[.int .u64 ((va - va % EN.sz (L - 1) : Nat) : Int), .int .u64 (E.2.2.2 : Int), .int .i64 E.2.2.1, .bool E.2.1]) ∧ Below w.heap.size w w' := by
  have hSp := W_hid (fun (w : World) (t : Nat) => Calls.quiet_of_same ((span_any L h1 h4 (w.drewN t)).mono fun e w' ⟨he, hw⟩ => ⟨he, hw.symm⟩))
  have hDn := W_hid (fun (w : World) (t : Nat) => Calls.quiet_of_same ((down_yes va (EN.sz (L - 1)) (by omega) (sz_lt _ (by omega)) (sz_ones _ (by omega)) (w.drewN t)).mono fun e w' ⟨he, hw⟩ => ⟨he, hw.symm⟩))
  have hMp := W_hid (fun v p f t h w => mapping_any v p f t h w)
  go_enter Tryz.func82, Tryz.ntmps82
  go_wp2_with fail
  refine wp_world (fun W => Blk W w.heap.size 133 (wl va fr L E p) ∧ Blk W (w.heap.size + 1) 59 [.int .u64 0, .int .u64 0, .int .i64 0, .bool false] ∧ Below w.heap.size w W)
    ⟨Blk.alloc (Blk.new w _ _ rfl) _, Blk.new (w.alloc _) _ _ (by simp), ((Below.refl _ _).alloc (Nat.le_refl _) _).alloc (by simp) _⟩ ?_
  rintro W ⟨hX, hZ, bel⟩
  have c0 : W.cell? ⟨w.heap.size, 0, none⟩ = some (.int .u64 (va : Int)) := hX.cell rfl
  have c6 : W.cell? ⟨w.heap.size, 6, none⟩ = some (.int .i64 (L : Int)) := hX.cell rfl
  replace hX := W_hid hX
  replace hZ := W_hid hZ
  replace bel := W_hid bel
  go_quiet (first | (go_at_call 120; exact hSp.out _ _) | (go_at_call 89; exact hDn.out _ _))
  refine then_world (fun W' => Blk W' w.heap.size 133 (wl va fr L E p) ∧ Blk W' (w.heap.size + 1) 59 [.int .u64 0, .int .u64 0, .int .i64 0, .bool false] ∧ Below w.heap.size w W') ⟨hX.out, hZ.out, below_drewN bel.out nq⟩ ?_
  clear hX hZ bel c0 c6
  rintro W2 ⟨hX, hZ, bel⟩
  have c7 : W2.cell? ⟨w.heap.size, 7, none⟩ = some (.bool E.1) := hX.cell rfl
  have c8 : W2.cell? ⟨w.heap.size, 7 + 1, none⟩ = some (.bool E.2.1) := hX.cell rfl
  have c9 : W2.cell? ⟨w.heap.size, 7 + 2, none⟩ = some (.int .i64 E.2.2.1) := hX.cell rfl
  have c10 : W2.cell? ⟨w.heap.size, 7 + 3, none⟩ = some (.int .u64 (E.2.2.2 : Int)) := hX.cell rfl
  replace hX := W_hid hX
  replace hZ := W_hid hZ
  replace bel := W_hid bel
  go_wp2_with fail
  refine (hMp.out _ _ _ _ _ _).mono ?_
  rintro e W3 ⟨rfl, bel3⟩
  have hZ3 := W_hid (hZ.out.keep bel3)
  have bel4 := W_hid (bel.out.trans (bel3.mono bel.out.size))
  clear bel3
  go_wp2_with (refine wpList_store_b rfl 59 _ _ rfl (w.heap.size + 1) [.int .u64 ((WM.down va (EN.sz (L - 1)) : Nat) : Int), .int .u64 (E.2.2.2 : Int), .int .i64 E.2.2.1, .bool E.2.1] rfl rfl _ _ hZ3.out (by kernel_rfl) rfl (by simp [Value.oneCell']) ?_; intro w4 hZ4 hb4 he4; have bel5 := W_hid (hb4 _ _ (Nat.le_succ _) bel4.out); replace hZ4 := W_hid hZ4; clear hb4 he4)
  exact bodyPost_ret (res_map rfl _ _ rfl hZ4.out rfl) rfl ⟨rfl, bel5.out⟩

theorem table_info (ws : Nat → Nat) : (Tryz.prog.info? 156).map (·.size) = some (tw ws).toArray.size := by
  rw [List.size_toArray, tw_len]
  kernel_rfl
theorem alloc_table (w : World) : (Instr.alloc 156 true (.tuple #[])).run Tryz.prog w = .ok (.pointer (some ⟨w.heap.size, 0, none⟩)) (w.alloc (.cells (tw zero).toArray 156)) := by kernel_rfl
theorem table_one (ws : Nat → Nat) : (tw ws).toArray.all (·.oneCell') = true := by
  rw [Array.all_eq_true_iff_forall_mem]
  intro v hv
  simp only [List.mem_toArray, tw, List.mem_map] at hv
  obtain ⟨i, -, rfl⟩ := hv
  rfl

set_option maxRecDepth 100000 in
set_option maxHeartbeats 1000000 in
theorem setw_any (g pg r b va L l v : Nat) (fr : Nat → Nat) (E : Bool × Bool × Int × Nat) (p : Bool) (M : Nat → Option (Nat → Nat)) (hva : va < 140737488355328) (h1 : 1 ≤ l) (h4 : l ≤ 4) (hf : fr l < 65536) (w : World) (h : TM w g pg r b M) :
    Calls Tryz.prog 107 #[.pointer (some ⟨g, 0, none⟩), .agg (wl va fr L E p).toArray, .int .i64 (l : Int), .int .u64 (v : Int)] w fun e w' =>
      e = .returned (.tuple #[]) ∧ MB w' b (upd M (fr l) (some (wset ((M (fr l)).getD zero) (EN.idx va l) v))) ∧ Two b b w w' := by
  have hI := W_hid (fun w => Index_yes va l hva h1 h4 w)
  have H := W_hid h
  have hgl := h.box.lt
  have hbl := h.mb.lt
  have hil := EN.idx_lt va l
  have q0 : (wl va fr L E p)[0]? = some (.int .u64 (va : Int)) := rfl
  obtain ⟨ws, hws⟩ : ∃ ws, (M (fr l)).getD zero = ws := ⟨_, rfl⟩
  rw [hws]
  replace hws := W_hid hws
  clear h
  go_enter Tryz.func107, Tryz.ntmps107
  go_wp2_with fail
  refine (hI.out _).mono ?_
  rintro e w1 ⟨rfl, bel1⟩
  have hX1 : Blk w1 w.heap.size 133 (wl va fr L E p) := Blk.keep (Blk.new w _ _ rfl) bel1
  replace bel1 : Below w.heap.size w w1 := ((Below.refl w.heap.size w).alloc (Nat.le_refl _) _).trans (bel1.mono (by simp))
  have H1 := W_hid (H.out.keep bel1)
  have hX1' := W_hid hX1
  have d2 := H1.out.box.cell (j := 2) rfl
  have kf : w1.cell? ⟨w.heap.size, 1 + l, none⟩ = some (.int .u64 (fr l : Int)) := hX1.cell (wl_get h4)
  have hlk0 : ∀ w', w'.heap[b]? = w1.heap[b]? → (Instr.lookup 124 (.map (some b)) (.int .u64 (fr l : Int)) false).run Tryz.prog w' = .ok (.agg (tw ((M (fr l)).getD zero)).toArray) w' :=
    fun w' hw => (H1.out.mb.heap hw).look (fr l) (by omega)
  rw [hws.out] at hlk0
  have hlk := W_hid hlk0
  clear hlk0
  have hS : ∀ w', PS g b w.heap.size w1 w' → w'.cell? ⟨g, 2, none⟩ = some (.map (some b)) ∧ w'.cell? ⟨w.heap.size, 1 + l, none⟩ = some (.int .u64 (fr l : Int)) ∧ (Instr.lookup 124 (.map (some b)) (.int .u64 (fr l : Int)) false).run Tryz.prog w' = .ok (.agg (tw ws).toArray) w' :=
    fun w' hb => ⟨(cell_heap hb.hg 2).trans d2, (hb.hx (1 + l) (by omega)).trans kf, hlk.out _ hb.hb⟩
  have hPB : ∀ w', Below w1.heap.size w1 w' → PS g b w.heap.size w1 w' := fun w' h => PS.below H1.out.box.lt H1.out.mb.lt hX1.lt h
  have hP0 : PS g b w.heap.size w1 w1.drew := hPB _ ⟨rfl, rfl, rfl, Nat.le_refl _, fun _ _ => rfl⟩
  have hlt := hX1.lt
  have ne1 : g ≠ w1.heap.size := by omega
  have ne2 : b ≠ w1.heap.size := by omega
  have ne3 : w.heap.size ≠ w1.heap.size := by omega
  have bel2 : Below w1.heap.size w1 (w1.alloc (.cells Tryz.zeroCells156 156)).drew := ⟨rfl, rfl, rfl, by simp, fun k hk => Below.heap_alloc w1 _ k hk⟩
  have hP2 := hPB _ bel2
  have hZ2 : Hid (Blk (w1.alloc (.cells Tryz.zeroCells156 156)).drew w1.heap.size 156 Tryz.zeroCells156.toList) := by
    show _ = _
    rw [Array.toArray_toList]
    exact heap_alloc_new w1 _
  have hzl : Tryz.zeroCells156.toList.length = (tw ws).length := by
    rw [tw_len]
    kernel_rfl
  have hth : (w1.alloc (.cells Tryz.zeroCells156 156)).drew.there w1.heap.size 0 (tw ws).toArray.size := hZ2.out.there _ (by rw [hzl]; exact List.size_toArray)
  have hZ3 := W_hid (Blk.cells0 hZ2.out (tw ws) hzl)
  have bel3 : Below w1.heap.size w1 ((w1.alloc (.cells Tryz.zeroCells156 156)).drew.setCells w1.heap.size 0 (tw ws)) := below_cells (Nat.le_refl _) _ _ bel2
  have hP3 := hPB _ bel3
  replace bel3 := W_hid bel3
  have hone : ∀ v ∈ tw ws, v.oneCell' = true := fun v hv => by
    simp only [tw, List.mem_map] at hv
    obtain ⟨i, -, rfl⟩ := hv
    rfl
  replace bel2 := W_hid bel2
  clear hzl
  replace hS := W_hid hS
  replace hPB := W_hid hPB
  clear hX1
  have l5 : (l : Int) < 5 := by omega
  have hone2 := hone
  clear hone
  have hth2 := hth
  clear hth
  have hinf := table_info ws
  go_wp2_with fail
  go_region_held3 (fun w' => w'.cell? ⟨g, 2, none⟩ = some (.map (some b)) ∧ w'.cell? ⟨w.heap.size, 1 + l, none⟩ = some (.int .u64 (fr l : Int)) ∧ (Instr.lookup 124 (.map (some b)) (.int .u64 (fr l : Int)) false).run Tryz.prog w' = .ok (.agg (tw ws).toArray) w')
    (first | (with_reducible exact hS.out _ hP0) | (with_reducible exact hS.out _ hP2) | (with_reducible exact hS.out _ hP3))
    (first | fail)
  all_goals
    refine then_world (fun W => Blk W w1.heap.size 156 (tw ws) ∧ Below w1.heap.size w1 W) ⟨hZ3.out, bel3.out⟩ ?_
    clear hP0 hP2 hP3 hZ2 hZ3 bel2 bel3 hone2 hth2 hinf hS hPB hlk
    rintro W3 ⟨hT, bel3⟩
    have cT : W3.cell? ⟨w1.heap.size, EN.idx va l, none⟩ = some (.int .u64 ((ws (EN.idx va l) : Nat) : Int)) := hT.cell (tw_get ws _ hil)
    have fT := hT.fz
    have il2 : ((EN.idx va l : Nat) : Int) < 512 := by omega
    have hT4 := hT.set (EN.idx va l) (.int .u64 (v : Int))
    rw [tw_set ws _ v hil] at hT4
    have bel4 := bel3.setCell (p := ⟨w1.heap.size, EN.idx va l, none⟩) (Nat.le_refl _) (.int .u64 (v : Int))
    replace hT4 := W_hid hT4
    replace bel4 := W_hid bel4
    clear hT bel3
    go_wp2_with fail
    refine wp_world (fun W => Blk W w1.heap.size 156 (tw (wset ws (EN.idx va l) v)) ∧ Below w1.heap.size w1 W) ⟨hT4.out, bel4.out⟩ ?_
    clear hT4 bel4 cT fT
    rintro W4 ⟨hT, bel4⟩
    have H4 := W_hid (H1.out.keep bel4)
    have d2 := H4.out.box.cell (j := 2) rfl
    have kf : W4.cell? ⟨w.heap.size, 1 + l, none⟩ = some (.int .u64 (fr l : Int)) := (hX1'.out.keep bel4).cell (wl_get h4)
    replace hT := W_hid hT
    replace bel4 := W_hid bel4
    refine wp_region_still_tail 9 (by kernel_rfl) (by kernel_rfl) ?_
    simp only [List.take_succ_cons, List.take_zero, List.drop_succ_cons, List.drop_zero]
    iterate 8 still_step
    refine wpStill_step (fun K hK => ?_)
    refine still_load_row rfl 156 _ rfl w1.heap.size rfl _ _ _ hT.out Tryz.underlying156 rfl (table_info _) ?_
    refine hK _ ?_
    clear hK K
    refine wpStill_nil ?_
    refine wpList_put_b rfl _ _ _ rfl b (fr l) (wset ws (EN.idx va l) v) M rfl rfl rfl (H4.out.mb.heap rfl) hf ?_
    intro W5 hM5 hg5 hs5
    have hres : Hid (MB W5 b (upd M (fr l) (some (wset ws (EN.idx va l) v))) ∧ Two b b w W5) := W_hid ⟨hM5, two_grown (below_drewN (bel1.trans (bel4.out.mono bel1.size)) 1) hg5⟩
    clear hM5 hg5 hs5 d2 kf hT bel4 H4
    go_wp2
    go_end0
    exact ⟨rfl, hres.out⟩
end Go.Proofs.YtkomahekdcaiaaaGreatDoor

namespace Go.Proofs.YtkomahekdcaiaaaGreatDoor
set_option linter.unusedVariables false
set_option linter.unusedSimpArgs false
namespace FR

/-- A word of marks: bit j of word q is that of frame 64 q + j. -/
def wd (T : Nat → Bool) (q : Nat) : Nat := WM.sum (fun j => (T (64 * q + j)).toNat) 64
/-- All frames of a run are so. -/
def All (T : Nat → Bool) (f k : Nat) (h : Bool) : Prop := ∀ i, i < k → T (f + i) = h
/-- A run made so. -/
def st (T : Nat → Bool) (f k : Nat) (h : Bool) : Nat → Bool := fun x => if f ≤ x ∧ x < f + k then h else T x
def want (h : Bool) (W : Nat) : Nat := if h then 2 ^ W - 1 else 0
/-- How many of a run are taken. -/
def cnt (T : Nat → Bool) (f : Nat) : Nat → Nat
  | 0 => 0
  | k + 1 => cnt T f k + (T (f + k)).toNat

theorem toNat_lt (b : Bool) : b.toNat < 2 := by cases b <;> decide

theorem bit_sum (b : Nat → Nat) (hb : ∀ i, b i < 2) (k i : Nat) (hi : i < k) : WM.bit (WM.sum b k) i = b i := by
  induction k with
  | zero => omega
  | succ k ih =>
    have hl := WM.sum_lt b hb k
    have hbk := hb k
    simp only [WM.sum]
    by_cases h : i = k
    · subst h
      unfold WM.bit
      rw [Nat.add_mul_div_right _ _ (Nat.two_pow_pos i), Nat.div_eq_of_lt hl, Nat.zero_add, Nat.mod_eq_of_lt hbk]
    · have := ih (by omega)
      rw [← this]
      unfold WM.bit
      obtain ⟨d, hd⟩ : ∃ d, k = i + (d + 1) := ⟨k - i - 1, by omega⟩
      have e : b k * 2 ^ k = (b k * 2 ^ (d + 1)) * 2 ^ i := by rw [hd, Nat.pow_add, Nat.mul_assoc, Nat.mul_comm (2 ^ i)]
      rw [e, Nat.add_mul_div_right _ _ (Nat.two_pow_pos i), Nat.pow_succ, ← Nat.mul_assoc, Nat.add_mul_mod_self_right]

theorem wd_lt (T : Nat → Bool) (q : Nat) : wd T q < 18446744073709551616 := by
  have := WM.sum_lt (fun j => (T (64 * q + j)).toNat) (fun i => toNat_lt _) 64
  simpa [wd] using this
theorem wd_bit (T : Nat → Bool) (q j : Nat) (hj : j < 64) : (wd T q).testBit j = T (64 * q + j) := by
  rw [WM.testBit_bit]
  unfold wd
  rw [bit_sum _ (fun i => toNat_lt _) 64 j hj]
  cases T (64 * q + j) <;> rfl
theorem ext64 {x y : Nat} (hx : x < 18446744073709551616) (hy : y < 18446744073709551616) (h : ∀ j, j < 64 → x.testBit j = y.testBit j) : x = y := by
  apply Nat.eq_of_testBit_eq
  intro j
  by_cases hj : j < 64
  · exact h j hj
  · rw [WM.testBit_big x j hx (by omega), WM.testBit_big y j hy (by omega)]

theorem want_bit (h : Bool) (W i : Nat) : (want h W).testBit i = (decide (i < W) && h) := by
  unfold want
  cases h
  · simp
  · simp [Nat.testBit_two_pow_sub_one]
theorem want_lt (h : Bool) (W : Nat) : want h W < 2 ^ W := by
  have := Nat.two_pow_pos W
  unfold want; split <;> omega
theorem want_64 (h : Bool) : want h 64 < 18446744073709551616 := by have := want_lt h 64; simpa using this

theorem take_want (T : Nat → Bool) (q r W : Nat) (h : Bool) (hr : r + W ≤ 64) : WM.take (wd T q) r W = want h W ↔ All T (64 * q + r) W h := by
  constructor
  · intro e j hj
    have := congrArg (fun x => x.testBit j) e
    simp only [WM.take_testBit, want_bit, hj, decide_true, Bool.true_and] at this
    rw [wd_bit T q (r + j) (by omega)] at this
    rw [← this, Nat.add_assoc]
  · intro e
    apply Nat.eq_of_testBit_eq
    intro j
    rw [WM.take_testBit, want_bit]
    by_cases hj : j < W
    · have := e j hj
      simp only [hj, decide_true, Bool.true_and]
      rw [wd_bit T q (r + j) (by omega), ← this, Nat.add_assoc]
    · simp [hj]

theorem take_all (h : Bool) (W : Nat) (hW : W ≤ 64) : WM.take (want h 64) 0 W = want h W := by
  apply Nat.eq_of_testBit_eq
  intro j
  rw [WM.take_testBit, want_bit, want_bit]
  by_cases hj : j < W
  · have : j < 64 := by omega
    simp [hj, this]
  · simp [hj]

theorem put_wd (T : Nat → Bool) (q r W : Nat) (h : Bool) (hr : r + W ≤ 64) : WM.put (wd T q) r W (want h W) = wd (st T (64 * q + r) W h) q := by
  refine ext64 (WM.put_lt _ _ _ _ (wd_lt T q) hr (want_lt h W)) (wd_lt _ _) fun j hj => ?_
  rw [WM.put_testBit _ _ _ _ _ (wd_lt T q) hr (want_lt h W), wd_bit _ _ _ hj, wd_bit _ _ _ hj, want_bit]
  unfold st
  by_cases c : r ≤ j ∧ j < r + W
  · rw [if_pos c, if_pos (by omega)]
    have : j - r < W := by omega
    simp [this]
  · rw [if_neg c, if_neg (by omega)]

theorem wd_congr (T U : Nat → Bool) (q : Nat) (h : ∀ j, j < 64 → T (64 * q + j) = U (64 * q + j)) : wd T q = wd U q :=
  ext64 (wd_lt _ _) (wd_lt _ _) fun j hj => by rw [wd_bit _ _ _ hj, wd_bit _ _ _ hj, h j hj]
theorem wd_other (T : Nat → Bool) (q q' r W : Nat) (h : Bool) (hr : r + W ≤ 64) (hq : q' ≠ q) : wd (st T (64 * q + r) W h) q' = wd T q' := by
  refine wd_congr _ _ _ fun j hj => ?_
  unfold st
  rw [if_neg (by omega)]
theorem wd_free (q : Nat) : wd (fun _ => false) q = 0 := by
  refine ext64 (wd_lt _ _) (by decide) fun j hj => ?_
  rw [wd_bit _ _ _ hj]; simp
theorem wd_full (T : Nat → Bool) (q : Nat) : wd T q = 18446744073709551615 ↔ All T (64 * q) 64 true := by
  have h := take_want T q 0 64 true (by omega)
  have e1 : WM.take (wd T q) 0 64 = wd T q := by
    unfold WM.take
    rw [Nat.pow_zero, Nat.div_one]
    exact Nat.mod_eq_of_lt (by simpa using wd_lt T q)
  rw [e1] at h
  exact h

theorem st_zero (T : Nat → Bool) (f : Nat) (h : Bool) : st T f 0 h = T := by
  funext x; unfold st; rw [if_neg (by omega)]
theorem st_step (T : Nat → Bool) (f a W : Nat) (h : Bool) : st (st T f a h) (f + a) W h = st T f (a + W) h := by
  funext x; unfold st
  by_cases c : f ≤ x ∧ x < f + (a + W)
  · rw [if_pos c]
    by_cases d : f + a ≤ x ∧ x < f + a + W
    · rw [if_pos d]
    · rw [if_neg d, if_pos (by omega)]
  · rw [if_neg c, if_neg (by omega), if_neg (by omega)]
theorem st_in (T : Nat → Bool) (f k : Nat) (h : Bool) : All (st T f k h) f k h := by
  intro i hi; unfold st; rw [if_pos (by omega)]
theorem st_out (T : Nat → Bool) (f k x : Nat) (h : Bool) (hx : ¬ (f ≤ x ∧ x < f + k)) : st T f k h x = T x := by
  unfold st; rw [if_neg hx]
theorem st_back (T : Nat → Bool) (f k : Nat) (h h' : Bool) (ha : All T f k h') : st (st T f k h) f k h' = T := by
  funext x; unfold st
  by_cases c : f ≤ x ∧ x < f + k
  · rw [if_pos c]
    have := ha (x - f) (by omega)
    rw [show f + (x - f) = x by omega] at this
    exact this.symm
  · rw [if_neg c, if_neg c]

theorem all_parts (T : Nat → Bool) (f k W R : Nat) (h : Bool) (hk : k = R * W) : All T f k h ↔ ∀ i, i < R → All T (f + i * W) W h := by
  subst hk
  constructor
  · intro a i hi j hj
    rw [Nat.add_assoc]
    refine a _ ?_
    calc i * W + j < i * W + W := by omega
      _ = (i + 1) * W := by rw [Nat.add_mul, Nat.one_mul]
      _ ≤ R * W := Nat.mul_le_mul_right _ hi
  · intro a x hx
    have hW : 0 < W := by
      rcases Nat.eq_zero_or_pos W with h0 | h0
      · rw [h0, Nat.mul_zero] at hx; omega
      · exact h0
    have h1 : x / W < R := by rw [Nat.div_lt_iff_lt_mul hW]; exact hx
    have h2 := a (x / W) h1 (x % W) (Nat.mod_lt _ hW)
    have h3 := Nat.div_add_mod x W
    rw [Nat.mul_comm] at h3
    rw [show f + x / W * W + x % W = f + x by omega] at h2
    exact h2

/-! Lengths of runs. -/
def Run (k : Nat) : Prop := ∃ j, j ≤ 9 ∧ k = 2 ^ j
theorem run_ten {k : Nat} (h : Run k) : k = 1 ∨ k = 2 ∨ k = 4 ∨ k = 8 ∨ k = 16 ∨ k = 32 ∨ k = 64 ∨ k = 128 ∨ k = 256 ∨ k = 512 := by
  obtain ⟨j, hj, rfl⟩ := h
  match j, hj with
  | 0, _ => decide
  | 1, _ => decide
  | 2, _ => decide
  | 3, _ => decide
  | 4, _ => decide
  | 5, _ => decide
  | 6, _ => decide
  | 7, _ => decide
  | 8, _ => decide
  | 9, _ => decide
theorem ten_run {k : Nat} (h : k = 1 ∨ k = 2 ∨ k = 4 ∨ k = 8 ∨ k = 16 ∨ k = 32 ∨ k = 64 ∨ k = 128 ∨ k = 256 ∨ k = 512) : Run k := by
  rcases h with rfl | rfl | rfl | rfl | rfl | rfl | rfl | rfl | rfl | rfl
  · exact ⟨0, by decide, rfl⟩
  · exact ⟨1, by decide, rfl⟩
  · exact ⟨2, by decide, rfl⟩
  · exact ⟨3, by decide, rfl⟩
  · exact ⟨4, by decide, rfl⟩
  · exact ⟨5, by decide, rfl⟩
  · exact ⟨6, by decide, rfl⟩
  · exact ⟨7, by decide, rfl⟩
  · exact ⟨8, by decide, rfl⟩
  · exact ⟨9, by decide, rfl⟩
theorem run_le {k : Nat} (h : Run k) : 1 ≤ k ∧ k ≤ 512 := by have := run_ten h; omega
theorem run_ones {k : Nat} (h : Run k) : WM.ones k 64 = 1 := by
  obtain ⟨j, hj, rfl⟩ := h
  exact WM.ones_pow j 64 (by omega)
theorem ones_run {k : Nat} (h1 : 1 ≤ k) (h2 : k ≤ 512) (h : WM.ones k 64 = 1) : Run k := by
  obtain ⟨j, hj, rfl⟩ := WM.power k (by omega) h
  refine ⟨j, ?_, rfl⟩
  rcases Nat.lt_or_ge 9 j with hlt | hge
  · have : 2 ^ 10 ≤ 2 ^ j := Nat.pow_le_pow_right (by decide) hlt
    omega
  · exact hge
/-- How a run lies in its words: W marks in each of R. -/
theorem run_lie {k : Nat} (h : Run k) : ∃ W R, min k 64 = W ∧ 1 ≤ W ∧ W ≤ 64 ∧ 1 ≤ R ∧ R ≤ 8 ∧ k / W = R ∧ k = R * W ∧ ∀ f, f % k = 0 → f % 64 + W ≤ 64 ∧ ∀ i, i < R → 64 * (f / 64 + i) + f % 64 = f + i * W := by
  rcases run_ten h with rfl | rfl | rfl | rfl | rfl | rfl | rfl | rfl | rfl | rfl
  · exact ⟨1, 1, rfl, by decide, by decide, by decide, by decide, rfl, rfl, fun f hf => ⟨by omega, fun i hi => by omega⟩⟩
  · exact ⟨2, 1, rfl, by decide, by decide, by decide, by decide, rfl, rfl, fun f hf => ⟨by omega, fun i hi => by omega⟩⟩
  · exact ⟨4, 1, rfl, by decide, by decide, by decide, by decide, rfl, rfl, fun f hf => ⟨by omega, fun i hi => by omega⟩⟩
  · exact ⟨8, 1, rfl, by decide, by decide, by decide, by decide, rfl, rfl, fun f hf => ⟨by omega, fun i hi => by omega⟩⟩
  · exact ⟨16, 1, rfl, by decide, by decide, by decide, by decide, rfl, rfl, fun f hf => ⟨by omega, fun i hi => by omega⟩⟩
  · exact ⟨32, 1, rfl, by decide, by decide, by decide, by decide, rfl, rfl, fun f hf => ⟨by omega, fun i hi => by omega⟩⟩
  · exact ⟨64, 1, rfl, by decide, by decide, by decide, by decide, rfl, rfl, fun f hf => ⟨by omega, fun i hi => by omega⟩⟩
  · exact ⟨64, 2, rfl, by decide, by decide, by decide, by decide, rfl, rfl, fun f hf => ⟨by omega, fun i hi => by omega⟩⟩
  · exact ⟨64, 4, rfl, by decide, by decide, by decide, by decide, rfl, rfl, fun f hf => ⟨by omega, fun i hi => by omega⟩⟩
  · exact ⟨64, 8, rfl, by decide, by decide, by decide, by decide, rfl, rfl, fun f hf => ⟨by omega, fun i hi => by omega⟩⟩
/-- How the runs of one length lie in groups of S frames: G in each, and a word that is full has none. -/
theorem run_step {k : Nat} (h : Run k) : ∃ S G, max k 64 = S ∧ 64 ≤ S ∧ S ≤ 512 ∧ S % 64 = 0 ∧ 512 % S = 0 ∧ 1 ≤ G ∧ G ≤ 64 ∧ S / k = G ∧ S = G * k ∧ k ≤ S ∧ S % k = 0 ∧
    (∀ F f, F % S = 0 → f % k = 0 → F ≤ f → f < F + S → f < F + 64) ∧ (∀ F f, F % k = 0 → f % k = 0 → F ≤ f → f < F + k → f = F) := by
  rcases run_ten h with rfl | rfl | rfl | rfl | rfl | rfl | rfl | rfl | rfl | rfl
  · exact ⟨64, 64, by decide, by decide, by decide, by decide, by decide, by decide, by decide, by decide, by decide, by decide, by decide, fun F f _ _ _ _ => by omega, fun F f _ _ _ _ => by omega⟩
  · exact ⟨64, 32, by decide, by decide, by decide, by decide, by decide, by decide, by decide, by decide, by decide, by decide, by decide, fun F f _ _ _ _ => by omega, fun F f _ _ _ _ => by omega⟩
  · exact ⟨64, 16, by decide, by decide, by decide, by decide, by decide, by decide, by decide, by decide, by decide, by decide, by decide, fun F f _ _ _ _ => by omega, fun F f _ _ _ _ => by omega⟩
  · exact ⟨64, 8, by decide, by decide, by decide, by decide, by decide, by decide, by decide, by decide, by decide, by decide, by decide, fun F f _ _ _ _ => by omega, fun F f _ _ _ _ => by omega⟩
  · exact ⟨64, 4, by decide, by decide, by decide, by decide, by decide, by decide, by decide, by decide, by decide, by decide, by decide, fun F f _ _ _ _ => by omega, fun F f _ _ _ _ => by omega⟩
  · exact ⟨64, 2, by decide, by decide, by decide, by decide, by decide, by decide, by decide, by decide, by decide, by decide, by decide, fun F f _ _ _ _ => by omega, fun F f _ _ _ _ => by omega⟩
  · exact ⟨64, 1, by decide, by decide, by decide, by decide, by decide, by decide, by decide, by decide, by decide, by decide, by decide, fun F f _ _ _ _ => by omega, fun F f _ _ _ _ => by omega⟩
  · exact ⟨128, 1, by decide, by decide, by decide, by decide, by decide, by decide, by decide, by decide, by decide, by decide, by decide, fun F f _ _ _ _ => by omega, fun F f _ _ _ _ => by omega⟩
  · exact ⟨256, 1, by decide, by decide, by decide, by decide, by decide, by decide, by decide, by decide, by decide, by decide, by decide, fun F f _ _ _ _ => by omega, fun F f _ _ _ _ => by omega⟩
  · exact ⟨512, 1, by decide, by decide, by decide, by decide, by decide, by decide, by decide, by decide, by decide, by decide, by decide, fun F f _ _ _ _ => by omega, fun F f _ _ _ _ => by omega⟩

/-! The lowest run that is free. -/
def Low (T : Nat → Bool) (N k f : Nat) : Prop := f % k = 0 ∧ f + k ≤ N ∧ All T f k false ∧ ∀ f', f' < f → f' % k = 0 → ¬ All T f' k false
def NoLow (T : Nat → Bool) (N k : Nat) : Prop := ∀ f, f % k = 0 → f + k ≤ N → ¬ All T f k false
theorem low_or (T : Nat → Bool) (N k : Nat) : (∃ f, Low T N k f) ∨ NoLow T N k := by
  have key : ∀ B, (∃ f, Low T N k f) ∨ ∀ f, f < B → f % k = 0 → f + k ≤ N → ¬ All T f k false := by
    intro B
    induction B with
    | zero => exact .inr fun f hf => by omega
    | succ B ih =>
      rcases ih with h | h
      · exact .inl h
      · by_cases c : B % k = 0 ∧ B + k ≤ N ∧ All T B k false
        · exact .inl ⟨B, c.1, c.2.1, c.2.2, fun f' h1 h2 => h f' h1 h2 (by omega)⟩
        · refine .inr fun f h1 h2 h3 h4 => ?_
          rcases Nat.lt_or_ge f B with hlt | hge
          · exact h f hlt h2 h3 h4
          · obtain rfl : f = B := by omega
            exact c ⟨h2, h3, h4⟩
  rcases key (N + 1) with h | h
  · exact .inl h
  · exact .inr fun f h1 h2 h3 => h f (by omega) h1 h2 h3
theorem Low.wide {T : Nat → Bool} {N M k f : Nat} (h : Low T N k f) (hM : N ≤ M) : Low T M k f := ⟨h.1, Nat.le_trans h.2.1 hM, h.2.2.1, h.2.2.2⟩
theorem NoLow.wide {T : Nat → Bool} {N M k : Nat} (h : NoLow T N k) (h1 : 1 ≤ k) (hp : ∀ x, N ≤ x → x < M → T x = true) : NoLow T M k := by
  intro f h2 h3 h4
  rcases Nat.lt_or_ge N (f + k) with hlt | hge
  · have := h4 (k - 1) (by omega)
    rw [hp _ (by omega) (by omega)] at this
    cases this
  · exact h f h2 hge h4

/-- No run that begins below B is free. -/
def Non (T : Nat → Bool) (k B : Nat) : Prop := ∀ f, f < B → f % k = 0 → ¬ All T f k false
theorem Non.step {T : Nat → Bool} {k B : Nat} (h : Non T k B) (hu : ∀ F f, F % k = 0 → f % k = 0 → F ≤ f → f < F + k → f = F) (hB : B % k = 0) (hn : ¬ All T B k false) : Non T k (B + k) := by
  intro f h1 h2 h3
  rcases Nat.lt_or_ge f B with hlt | hge
  · exact h f hlt h2 h3
  · obtain rfl := hu B f hB h2 hge h1
    exact hn h3
theorem Non.full {T : Nat → Bool} {k S B : Nat} (h : Non T k B) (h1 : 1 ≤ k) (hu : ∀ F f, F % S = 0 → f % k = 0 → F ≤ f → f < F + S → f < F + 64) (hB : B % S = 0) (hf : All T B 64 true) : Non T k (B + S) := by
  intro f h2 h3 h4
  rcases Nat.lt_or_ge f B with hlt | hge
  · exact h f hlt h3 h4
  · have h5 := hu B f hB h3 hge h2
    have h6 := hf (f - B) (by omega)
    have h7 := h4 0 (by omega)
    rw [show B + (f - B) = f by omega] at h6
    rw [Nat.add_zero, h6] at h7
    cases h7
/-- What lowest answers. -/
def Ans (T : Nat → Bool) (N k a : Nat) (yes : Bool) : Prop := (yes = true ∧ Low T N k a) ∨ (yes = false ∧ a = 0 ∧ NoLow T N k)
theorem Ans.found {T : Nat → Bool} {N k a f : Nat} {yes : Bool} (h : Ans T N k a yes) (h1 : f % k = 0) (h2 : f + k ≤ N) (h3 : All T f k false) (h4 : Non T k f) : yes = true ∧ a = f := by
  rcases h with ⟨rfl, hl⟩ | ⟨-, -, hn⟩
  · refine ⟨rfl, ?_⟩
    rcases Nat.lt_trichotomy a f with hlt | e | hgt
    · exact absurd hl.2.2.1 (h4 a hlt hl.1)
    · exact e
    · exact absurd h3 (hl.2.2.2 f hgt h1)
  · exact absurd h3 (hn f h1 h2)
theorem Ans.none {T : Nat → Bool} {N k a : Nat} {yes : Bool} (h : Ans T N k a yes) (h1 : 1 ≤ k) (h4 : Non T k N) : yes = false ∧ a = 0 := by
  rcases h with ⟨rfl, hl⟩ | ⟨rfl, rfl, -⟩
  · exact absurd hl.2.2.1 (h4 a (by have := hl.2.1; omega) hl.1)
  · exact ⟨rfl, rfl⟩

/-! Counts. -/
theorem cnt_le (T : Nat → Bool) (f k : Nat) : cnt T f k ≤ k := by
  induction k with
  | zero => simp [cnt]
  | succ k ih => have := toNat_lt (T (f + k)); simp only [cnt]; omega
theorem cnt_congr (T U : Nat → Bool) (f k : Nat) (h : ∀ i, i < k → T (f + i) = U (f + i)) : cnt T f k = cnt U f k := by
  induction k with
  | zero => rfl
  | succ k ih => simp only [cnt]; rw [ih (fun i hi => h i (by omega)), h k (by omega)]
theorem cnt_add (T : Nat → Bool) (f a b : Nat) : cnt T f (a + b) = cnt T f a + cnt T (f + a) b := by
  induction b with
  | zero => rfl
  | succ b ih => rw [← Nat.add_assoc]; simp only [cnt]; rw [ih, Nat.add_assoc f a b]; omega
theorem cnt_all (T : Nat → Bool) (f k : Nat) (h : Bool) (ha : All T f k h) : cnt T f k = if h then k else 0 := by
  induction k with
  | zero => cases h <;> rfl
  | succ k ih =>
    simp only [cnt]
    rw [ih (fun i hi => ha i (by omega)), ha k (by omega)]
    cases h <;> simp
theorem cnt_zero (T : Nat → Bool) (f k : Nat) : cnt T f k = 0 ↔ All T f k false := by
  constructor
  · induction k with
    | zero => exact fun _ i hi => by omega
    | succ k ih =>
      intro h i hi
      simp only [cnt] at h
      by_cases e : i = k
      · subst e
        cases hT : T (f + i)
        · rfl
        · rw [hT] at h; simp at h
      · exact ih (by omega) i (by omega)
  · intro h; rw [cnt_all T f k false h]; rfl
theorem cnt_full (T : Nat → Bool) (f k : Nat) : cnt T f k = k ↔ All T f k true := by
  constructor
  · induction k with
    | zero => exact fun _ i hi => by omega
    | succ k ih =>
      intro h i hi
      have h1 := cnt_le T f k
      have h2 := toNat_lt (T (f + k))
      simp only [cnt] at h
      by_cases e : i = k
      · subst e
        cases hT : T (f + i)
        · rw [hT] at h; simp at h; omega
        · rfl
      · exact ih (by omega) i (by omega)
  · intro h; rw [cnt_all T f k true h]; rfl
theorem cnt_st (T : Nat → Bool) (n f k : Nat) (h : Bool) (hf : f + k ≤ n) : cnt (st T f k h) 0 n + cnt T f k = cnt T 0 n + if h then k else 0 := by
  obtain ⟨d, rfl⟩ : ∃ d, n = f + k + d := ⟨n - (f + k), by omega⟩
  rw [cnt_add, cnt_add, cnt_add T 0 (f + k) d, cnt_add T 0 f k, Nat.zero_add, Nat.zero_add]
  rw [cnt_all (st T f k h) f k h (st_in T f k h)]
  rw [cnt_congr (st T f k h) T 0 f (fun i hi => st_out T f k _ h (by omega)), cnt_congr (st T f k h) T (f + k) d (fun i hi => st_out T f k _ h (by omega))]
  omega

/-! What the calls do. -/
def RunI (k : Int) : Prop := ∃ q : Nat, k = q ∧ Run q
/-- Alloc: number a, error e, and what is taken then. -/
def Gets (T : Nat → Bool) (n : Nat) (k : Int) (a e : Nat) (T' : Nat → Bool) : Prop :=
  (e = 2 ∧ a = 0 ∧ T' = T ∧ ¬ RunI k) ∨ (e = 24 ∧ a = 0 ∧ T' = T ∧ ∃ q : Nat, k = q ∧ Run q ∧ NoLow T n q) ∨ (e = 0 ∧ ∃ q : Nat, k = q ∧ Run q ∧ Low T n q a ∧ T' = st T a q true)
/-- Free. -/
def Puts (T : Nat → Bool) (n f : Nat) (k : Int) (e : Nat) (T' : Nat → Bool) : Prop :=
  (e = 2 ∧ T' = T ∧ ¬ RunI k) ∨ (e = 2 ∧ T' = T ∧ ∃ q : Nat, k = q ∧ Run q ∧ ¬ (f % q = 0 ∧ f + q ≤ n)) ∨ (e = 101 ∧ T' = T ∧ ∃ q : Nat, k = q ∧ Run q ∧ f % q = 0 ∧ f + q ≤ n ∧ ¬ All T f q true) ∨
  (e = 0 ∧ ∃ q : Nat, k = q ∧ Run q ∧ f % q = 0 ∧ f + q ≤ n ∧ All T f q true ∧ T' = st T f q false)
theorem gets_some (T : Nat → Bool) (n : Nat) (k : Int) : ∃ a e T', Gets T n k a e T' := by
  by_cases h : RunI k
  · obtain ⟨q, hq, hr⟩ := h
    rcases low_or T n q with ⟨f, hf⟩ | hn
    · exact ⟨f, 0, _, .inr (.inr ⟨rfl, q, hq, hr, hf, rfl⟩)⟩
    · exact ⟨0, 24, T, .inr (.inl ⟨rfl, rfl, rfl, q, hq, hr, hn⟩)⟩
  · exact ⟨0, 2, T, .inl ⟨rfl, rfl, rfl, h⟩⟩
theorem puts_some (T : Nat → Bool) (n f : Nat) (k : Int) : ∃ e T', Puts T n f k e T' := by
  by_cases h : RunI k
  · obtain ⟨q, hq, hr⟩ := h
    by_cases h1 : f % q = 0 ∧ f + q ≤ n
    · by_cases h2 : All T f q true
      · exact ⟨0, _, .inr (.inr (.inr ⟨rfl, q, hq, hr, h1.1, h1.2, h2, rfl⟩))⟩
      · exact ⟨101, T, .inr (.inr (.inl ⟨rfl, rfl, q, hq, hr, h1.1, h1.2, h2⟩))⟩
    · exact ⟨2, T, .inr (.inl ⟨rfl, rfl, q, hq, hr, h1⟩)⟩
  · exact ⟨2, T, .inl ⟨rfl, rfl, h⟩⟩
theorem Gets.pad {T T' : Nat → Bool} {n m a e : Nat} {k : Int} (h : Gets T n k a e T') (hp : ∀ x, n ≤ x → x < m → T x = true) : ∀ x, n ≤ x → x < m → T' x = true := by
  intro x h1 h2
  rcases h with ⟨-, -, rfl, -⟩ | ⟨-, -, rfl, -⟩ | ⟨-, q, -, -, hl, rfl⟩
  · exact hp x h1 h2
  · exact hp x h1 h2
  · rw [st_out _ _ _ _ _ (by have := hl.2.1; omega)]; exact hp x h1 h2
theorem Puts.pad {T T' : Nat → Bool} {n m f e : Nat} {k : Int} (h : Puts T n f k e T') (hp : ∀ x, n ≤ x → x < m → T x = true) : ∀ x, n ≤ x → x < m → T' x = true := by
  intro x h1 h2
  rcases h with ⟨-, rfl, -⟩ | ⟨-, rfl, -⟩ | ⟨-, rfl, -⟩ | ⟨-, q, -, -, -, hl, -, rfl⟩
  · exact hp x h1 h2
  · exact hp x h1 h2
  · exact hp x h1 h2
  · rw [st_out _ _ _ _ _ (by omega)]; exact hp x h1 h2

end FR
end Go.Proofs.YtkomahekdcaiaaaGreatDoor

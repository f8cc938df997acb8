/- Plain facts about bits of natural numbers: counting, the lowest clear bit, fields, powers of two. No program in sight. -/
namespace Go.Proofs.YthiojnbnhagcgaaDoor
namespace WM

def bit (x i : Nat) : Nat := x / 2 ^ i % 2

def ones (x : Nat) : Nat → Nat
  | 0 => 0
  | k + 1 => ones x k + bit x k

def firstFrom (x : Nat) : Nat → Nat → Nat
  | 0, i => i
  | f + 1, i => if bit x i = 0 then i else firstFrom x f (i + 1)

def first (x : Nat) : Nat := firstFrom x 64 0

theorem bit_lt (x i : Nat) : bit x i < 2 := Nat.mod_lt _ (by decide)
theorem bit_01 (x i : Nat) : bit x i = 0 ∨ bit x i = 1 := by have := bit_lt x i; omega

theorem bit_testBit (x i : Nat) : bit x i = (x.testBit i).toNat := by
  unfold bit
  rw [Nat.testBit_eq_decide_div_mod_eq]
  have := Nat.mod_lt (x / 2 ^ i) (show 0 < 2 by decide)
  by_cases h : x / 2 ^ i % 2 = 1
  · simp [h]
  · simp [h]; omega

theorem testBit_bit (x i : Nat) : x.testBit i = decide (bit x i = 1) := by
  rw [bit_testBit]; cases x.testBit i <;> simp

theorem ones_le (x k : Nat) : ones x k ≤ k := by
  induction k with
  | zero => simp [ones]
  | succ k ih => have := bit_lt x k; simp only [ones]; omega

theorem firstFrom_le (x : Nat) : ∀ f i, firstFrom x f i ≤ i + f
  | 0, i => by simp [firstFrom]
  | f + 1, i => by
    simp only [firstFrom]
    split
    · omega
    · have := firstFrom_le x f (i + 1); omega

/-! Sums of digits. -/
def sum (b : Nat → Nat) : Nat → Nat
  | 0 => 0
  | k + 1 => sum b k + b k * 2 ^ k

theorem sum_lt (b : Nat → Nat) (hb : ∀ i, b i < 2) (k : Nat) : sum b k < 2 ^ k := by
  induction k with
  | zero => simp [sum]
  | succ k ih =>
    have h2 : 2 ^ (k + 1) = 2 ^ k * 2 := Nat.pow_succ 2 k
    have h3 := hb k
    simp only [sum]
    rcases (by omega : b k = 0 ∨ b k = 1) with h | h <;> rw [h] <;> omega

theorem sum_congr (b c : Nat → Nat) (k : Nat) (h : ∀ i, i < k → b i = c i) : sum b k = sum c k := by
  induction k with
  | zero => rfl
  | succ k ih => simp only [sum]; rw [ih (fun i hi => h i (by omega)), h k (by omega)]

theorem mod_succ (x k : Nat) : x % 2 ^ (k + 1) = x % 2 ^ k + bit x k * 2 ^ k := by
  unfold bit
  rw [Nat.pow_succ, Nat.mod_mul, Nat.mul_comm]

theorem sum_bit (x k : Nat) : sum (bit x) k = x % 2 ^ k := by
  induction k with
  | zero => simp [sum, Nat.mod_one]
  | succ k ih => simp only [sum]; rw [ih, mod_succ]

theorem bit_add (x lo i : Nat) : bit x (lo + i) = bit (x / 2 ^ lo) i := by
  unfold bit; rw [Nat.div_div_eq_div_mul, Nat.pow_add]

theorem sum_field (x lo k : Nat) : sum (fun i => bit x (lo + i)) k = x / 2 ^ lo % 2 ^ k := by
  rw [sum_congr _ (bit (x / 2 ^ lo)) k (fun i _ => bit_add x lo i), sum_bit]

theorem eq_sum (x k : Nat) (h : x < 2 ^ k) (b : Nat → Nat) (hb : ∀ i, i < k → bit x i = b i) : x = sum b k := by
  rw [← Nat.mod_eq_of_lt h, ← sum_bit, sum_congr _ _ _ hb]

/-! Fields. -/
def mask (lo n : Nat) : Nat := (2 ^ n - 1) * 2 ^ lo

theorem mask_lt (lo n : Nat) (h : lo + n ≤ 64) : mask lo n < 2 ^ 64 := by
  have h1 : 2 ^ (lo + n) ≤ 2 ^ 64 := Nat.pow_le_pow_right (by decide) h
  rw [Nat.pow_add] at h1
  have h2 : 0 < 2 ^ n := Nat.two_pow_pos n
  have h3 : 0 < 2 ^ lo := Nat.two_pow_pos lo
  unfold mask
  rw [Nat.sub_mul, Nat.mul_comm (2 ^ n), Nat.one_mul]
  omega

theorem mask_testBit (lo n i : Nat) : (mask lo n).testBit i = (decide (lo ≤ i) && decide (i < lo + n)) := by
  unfold mask
  rw [Nat.mul_comm, Nat.testBit_two_pow_mul, Nat.testBit_two_pow_sub_one]
  by_cases h : lo ≤ i
  · simp [h]; omega
  · simp [h]

/-- What taking a field gives. -/
def take (x lo n : Nat) : Nat := x / 2 ^ lo % 2 ^ n

theorem take_testBit (x lo n i : Nat) : (take x lo n).testBit i = (decide (i < n) && x.testBit (lo + i)) := by
  unfold take; rw [Nat.testBit_mod_two_pow, Nat.testBit_div_two_pow, Nat.add_comm]

theorem take_and (x lo n : Nat) : (x &&& mask lo n) / 2 ^ lo = take x lo n := by
  apply Nat.eq_of_testBit_eq
  intro i
  rw [take_testBit, Nat.testBit_div_two_pow, Nat.testBit_and, mask_testBit, Nat.add_comm i lo]
  by_cases h : i < n <;> simp [h]

theorem take_lt (x lo n : Nat) : take x lo n < 2 ^ n := Nat.mod_lt _ (Nat.two_pow_pos n)

/-- What laying a field gives. -/
def put (x lo n v : Nat) : Nat := (x &&& (18446744073709551615 - mask lo n)) ||| v * 2 ^ lo

theorem testBit_big (x i : Nat) (h : x < 18446744073709551616) (hi : 64 ≤ i) : x.testBit i = false :=
  Nat.testBit_lt_two_pow (Nat.lt_of_lt_of_le (show x < 2 ^ 64 by simpa using h) (Nat.pow_le_pow_right (by decide) hi))

theorem comp_testBit (m i : Nat) (h : m < 18446744073709551616) : (18446744073709551615 - m).testBit i = (decide (i < 64) && !m.testBit i) := by
  have := @Nat.testBit_two_pow_sub_succ m 64 (by simpa using h) i
  rw [← this]
  congr 1
  omega

theorem put_testBit (x lo n v i : Nat) (hx : x < 18446744073709551616) (h : lo + n ≤ 64) (hv : v < 2 ^ n) :
    (put x lo n v).testBit i = if lo ≤ i ∧ i < lo + n then v.testBit (i - lo) else x.testBit i := by
  unfold put
  rw [Nat.testBit_or, Nat.testBit_and, comp_testBit _ _ (by have := mask_lt lo n h; simpa using this), mask_testBit, Nat.mul_comm v, Nat.testBit_two_pow_mul]
  by_cases h1 : lo ≤ i
  · by_cases h2 : i < lo + n
    · simp [h1, h2]
    · have h3 : v.testBit (i - lo) = false := Nat.testBit_lt_two_pow (Nat.lt_of_lt_of_le hv (Nat.pow_le_pow_right (by decide) (by omega)))
      by_cases h4 : i < 64
      · simp [h1, h2, h3, h4]
      · simp [h1, h2, h3, testBit_big x i hx (by omega)]
  · by_cases h4 : i < 64
    · simp [h1, h4]
    · simp [h1, testBit_big x i hx (by omega)]

theorem put_lt (x lo n v : Nat) (hx : x < 18446744073709551616) (h : lo + n ≤ 64) (hv : v < 2 ^ n) : put x lo n v < 18446744073709551616 := by
  have : put x lo n v < 2 ^ 64 := by
    apply Nat.lt_pow_two_of_testBit
    intro i hi
    rw [put_testBit x lo n v i hx h hv, if_neg (by omega)]
    exact testBit_big x i hx hi
  simpa using this

/-- A digit of a word in which a field was laid. -/
def putBit (x lo n v i : Nat) : Nat := if lo ≤ i ∧ i < lo + n then bit v (i - lo) else bit x i

theorem putBit_lt (x lo n v i : Nat) : putBit x lo n v i < 2 := by
  unfold putBit; split <;> exact bit_lt _ _

theorem put_sum (x lo n v : Nat) (hx : x < 18446744073709551616) (h : lo + n ≤ 64) (hv : v < 2 ^ n) : sum (putBit x lo n v) 64 = put x lo n v := by
  symm
  refine eq_sum _ 64 (by simpa using put_lt x lo n v hx h hv) _ fun i _ => ?_
  rw [bit_testBit, put_testBit x lo n v i hx h hv]
  unfold putBit
  split <;> rw [bit_testBit]

/-- Bits from n on are clear just where the number is below 2 to the n. -/
theorem high_clear (v n : Nat) (hv : v < 18446744073709551616) (h : ∀ i, n ≤ i → i < 64 → bit v i = 0) : v < 2 ^ n := by
  apply Nat.lt_pow_two_of_testBit
  intro i hi
  by_cases h1 : i < 64
  · rw [testBit_bit, h i hi h1]; decide
  · exact testBit_big v i hv (by omega)

theorem high_bit (v n i : Nat) (h : v < 2 ^ n) (hi : n ≤ i) : bit v i = 0 := by
  rw [bit_testBit, Nat.testBit_lt_two_pow (Nat.lt_of_lt_of_le h (Nat.pow_le_pow_right (by decide) hi))]; rfl

/-! Powers. -/
theorem bit_zero_big (x i : Nat) (h : x < 2 ^ i) : bit x i = 0 := by unfold bit; rw [Nat.div_eq_of_lt h]

theorem ones_zero (x : Nat) : ∀ k, ones x k = 0 → x % 2 ^ k = 0
  | 0, _ => Nat.mod_one x
  | k + 1, h => by
    simp only [ones] at h
    rw [mod_succ, ones_zero x k (by omega)]
    have : bit x k = 0 := by omega
    rw [this]; simp

theorem zero_ones (x : Nat) : ∀ k, x % 2 ^ k = 0 → ones x k = 0
  | 0, _ => rfl
  | k + 1, h => by
    rw [mod_succ] at h
    have h2 := Nat.two_pow_pos k
    have h3 : bit x k = 0 := by
      rcases bit_01 x k with h4 | h4
      · exact h4
      · rw [h4] at h; omega
    simp only [ones]
    rw [zero_ones x k (by omega), h3]

/-- One digit set: a power of two. -/
theorem ones_one (x : Nat) : ∀ k, ones x k = 1 → ∃ j, j < k ∧ x % 2 ^ k = 2 ^ j
  | 0, h => by simp [ones] at h
  | k + 1, h => by
    simp only [ones] at h
    rcases bit_01 x k with h1 | h1
    · obtain ⟨j, hj, e⟩ := ones_one x k (by omega)
      exact ⟨j, by omega, by rw [mod_succ, h1, e]; simp⟩
    · exact ⟨k, by omega, by rw [mod_succ, h1, ones_zero x k (by omega)]; simp⟩

theorem ones_pow (j k : Nat) (h : j < k) : ones (2 ^ j) k = 1 := by
  induction k with
  | zero => omega
  | succ k ih =>
    simp only [ones]
    by_cases hj : j < k
    · rw [ih hj]
      have : bit (2 ^ j) k = 0 := by
        unfold bit; rw [Nat.div_eq_of_lt (Nat.pow_lt_pow_right (by decide) hj)]
      rw [this]
    · obtain rfl : j = k := by omega
      have h1 : ones (2 ^ j) j = 0 := zero_ones _ _ (Nat.mod_self _)
      have h2 : bit (2 ^ j) j = 1 := by unfold bit; rw [Nat.div_self (Nat.two_pow_pos j)]
      rw [h1, h2]

theorem power (x : Nat) (hx : x < 18446744073709551616) (h : ones x 64 = 1) : ∃ j, j < 64 ∧ x = 2 ^ j := by
  obtain ⟨j, hj, e⟩ := ones_one x 64 h
  exact ⟨j, hj, by rw [← e]; exact (Nat.mod_eq_of_lt (by simpa using hx)).symm⟩

/-- Clearing the bits below a power: what is left is the multiple. -/
theorem clear_low (x j : Nat) (hx : x < 18446744073709551616) (hj : j < 64) : x &&& (18446744073709551615 - (2 ^ j - 1)) = x - x % 2 ^ j := by
  have hp : 2 ^ j < 2 ^ 64 := Nat.pow_lt_pow_right (by decide) hj
  have hm := Nat.mod_le x (2 ^ j)
  have e : x - x % 2 ^ j = x / 2 ^ j * 2 ^ j := by
    have := Nat.div_add_mod x (2 ^ j)
    rw [Nat.mul_comm] at this; omega
  rw [e]
  apply Nat.eq_of_testBit_eq
  intro i
  rw [Nat.testBit_and, comp_testBit _ _ (by have := Nat.two_pow_pos j; simp at hp; omega), Nat.testBit_two_pow_sub_one, Nat.mul_comm, Nat.testBit_two_pow_mul, Nat.testBit_div_two_pow]
  by_cases h1 : i < j
  · simp [h1]; omega
  · by_cases h2 : i < 64
    · simp [h1, h2]; rw [show i - j + j = i by omega]; simp; omega
    · simp [h1, testBit_big x i hx (by omega)]; rw [show i - j + j = i by omega, testBit_big x i hx (by omega)]; simp

/-- Rounding down, and the next multiple. -/
def down (x to : Nat) : Nat := x - x % to
def up (x to : Nat) : Nat := if x % to = 0 then x else down x to + to

theorem down_clear (x to : Nat) (hx : x < 18446744073709551616) (ht : to < 18446744073709551616) (h : ones to 64 = 1) : x &&& (18446744073709551615 - (to - 1)) = down x to := by
  obtain ⟨j, hj, rfl⟩ := power to ht h
  exact clear_low x j hx hj

theorem pos (to : Nat) (ht : to < 18446744073709551616) (h : ones to 64 = 1) : 0 < to := by
  obtain ⟨j, hj, rfl⟩ := power to ht h
  exact Nat.two_pow_pos j

theorem down_le (x to : Nat) : down x to ≤ x := Nat.sub_le _ _

theorem down_self (x to : Nat) (h : x % to = 0) : down x to = x := by unfold down; omega
theorem down_ne (x to : Nat) (h : x % to ≠ 0) : down x to ≠ x := by
  have := Nat.mod_le x to
  unfold down; omega

theorem down_next (x to : Nat) (ht : to < 18446744073709551616) (h : ones to 64 = 1) (hx : x < 18446744073709551616) : down x to + to ≤ 18446744073709551616 := by
  obtain ⟨j, hj, rfl⟩ := power to ht h
  have h1 : 18446744073709551616 = 2 ^ (64 - j) * 2 ^ j := by rw [← Nat.pow_add, show 64 - j + j = 64 by omega]
  have h2 : down x (2 ^ j) = x / 2 ^ j * 2 ^ j := by
    have := Nat.div_add_mod x (2 ^ j)
    rw [Nat.mul_comm] at this; unfold down; omega
  have h3 : x / 2 ^ j < 2 ^ (64 - j) := by rw [Nat.div_lt_iff_lt_mul (Nat.two_pow_pos j), ← h1]; exact hx
  rw [h2, h1]
  calc x / 2 ^ j * 2 ^ j + 2 ^ j = (x / 2 ^ j + 1) * 2 ^ j := by rw [Nat.add_mul, Nat.one_mul]
    _ ≤ 2 ^ (64 - j) * 2 ^ j := Nat.mul_le_mul_right _ h3

end WM
end Go.Proofs.YthiojnbnhagcgaaDoor

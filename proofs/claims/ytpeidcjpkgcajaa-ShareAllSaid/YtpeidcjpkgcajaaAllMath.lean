/- Plain facts about doubles between 0 and 200: the part (i + 1/2) / n, times n, lies between i and i + 1. No program in sight. -/
import Derived.Test.YtpeidcjpkgcajaaFloatMath
namespace Go.Proofs.Ytpeidcjpkgcajaa
namespace FM
open Ieee

theorem nearest_norm (m : Nat) (p : Int) (hm : m ≠ 0) (h : -1022 ≤ p + (m.log2 : Int)) (hl : 52 ≤ m.log2) :
    D.nearest false m p = min ((p + (m.log2 : Int) + 1022).toNat * 4503599627370496 + rd m (m.log2 - 52)) 9218868437227405312 := by
  unfold Format.nearest
  simp only [Format.word, Bool.false_eq_true, if_false, cut_rd, bin, inf, lp, fb, Nat.shiftLeft_eq]
  rw [if_neg hm]
  generalize m.log2 = l at *
  have e : max (p + (l : Int) - (52 : Nat)) (-1074) = p + (l : Int) - 52 := by omega
  rw [e, show (p - (p + (l : Int) - 52)).toNat = 0 by omega, show (p + (l : Int) - 52 - p).toNat = l - 52 by omega, show (p + (l : Int) - 52 - -1074).toNat = (p + (l : Int) + 1022).toNat by omega]
  rw [Nat.pow_zero, Nat.mul_one]

def mant (x : Nat) : Nat := Nat.add 4503599627370496 (Nat.mod x 4503599627370496)
def ex (x : Nat) : Nat := Nat.sub (Nat.div x 4503599627370496) 1

theorem read_norm (x : Nat) (h1 : 4503599627370496 ≤ x) (h2 : x < 9218868437227405312) : D.read x = .number false (mant x) (-1074 + (ex x : Int)) := by
  have hs : (x / 9223372036854775808 % 2 == 1) = false := by
    have : x / 9223372036854775808 = 0 := by omega
    rw [this]; rfl
  unfold Format.read
  simp only [sw, bin, inf, lp, hs]
  rw [show x % 9223372036854775808 = x by omega, if_neg (by omega), if_pos h2]
  rfl

theorem mant_bounds (x : Nat) : 4503599627370496 ≤ mant x ∧ mant x < 9007199254740992 := by
  show 4503599627370496 ≤ 4503599627370496 + x % 4503599627370496 ∧ 4503599627370496 + x % 4503599627370496 < 9007199254740992
  omega
theorem log2_mant (m : Nat) (h1 : 4503599627370496 ≤ m) (h2 : m < 9007199254740992) : m.log2 = 52 := by
  have := (Nat.log2_eq_iff (n := m) (k := 52) (by omega)).2 ⟨by rw [e52]; exact h1, by rw [e53]; exact h2⟩
  exact this

def divQ (a b : Nat) : Nat := Nat.add (Nat.mul 2 (Nat.div a b)) (cond (Nat.beq (Nat.mod a b) 0) 0 1)
def rdB (q g : Nat) : Nat := Nat.add (Nat.div q g) (cond (Nat.blt g (Nat.mul 2 (Nat.mod q g))) 1 (cond (Nat.beq g (Nat.mul 2 (Nat.mod q g))) (Nat.mod (Nat.div q g) 2) 0))
def resR (e l q : Nat) : Nat := Nat.add (Nat.mul e 4503599627370496) (rdB q (Nat.pow 2 (Nat.sub l 52)))
def divN1 (e f q : Nat) : Nat := resR (Nat.sub (Nat.add (Nat.add e 967) (Nat.log2 q)) f) (Nat.log2 q) q
def mulN1 (e f q : Nat) : Nat := resR (Nat.sub (Nat.add (Nat.add e f) (Nat.log2 q)) 1126) (Nat.log2 q) q
def divN (x y : Nat) : Nat := divN1 (ex x) (ex y) (divQ (Nat.mul (mant x) 18014398509481984) (mant y))
def mulN (x y : Nat) : Nat := mulN1 (ex x) (ex y) (Nat.mul (mant x) (mant y))

theorem rdB_rd (q d : Nat) : rdB q (2 ^ d) = rd q d := by
  show q / 2 ^ d + cond (Nat.blt (2 ^ d) (2 * (q % 2 ^ d))) 1 (cond (Nat.beq (2 ^ d) (2 * (q % 2 ^ d))) (q / 2 ^ d % 2) 0) = rd q d
  unfold rd
  congr 1
  have h2 := Nat.mod_lt (q / 2 ^ d) (show 0 < 2 by decide)
  by_cases h : 2 ^ d < 2 * (q % 2 ^ d)
  · rw [show Nat.blt (2 ^ d) (2 * (q % 2 ^ d)) = true from by rw [Nat.blt_eq]; exact h, decide_eq_true h]; rfl
  · rw [show Nat.blt (2 ^ d) (2 * (q % 2 ^ d)) = false from Bool.eq_false_iff.2 (fun e => h (by rwa [Nat.blt_eq] at e)), decide_eq_false h]
    by_cases h' : 2 ^ d = 2 * (q % 2 ^ d)
    · rw [show Nat.beq (2 ^ d) (2 * (q % 2 ^ d)) = true from by rw [Nat.beq_eq]; exact h', decide_eq_true h']
      by_cases h3 : q / 2 ^ d % 2 = 1
      · rw [decide_eq_true h3, h3]; rfl
      · rw [decide_eq_false h3, show q / 2 ^ d % 2 = 0 by omega]; rfl
    · rw [show Nat.beq (2 ^ d) (2 * (q % 2 ^ d)) = false from Bool.eq_false_iff.2 (fun e => h' (by rwa [Nat.beq_eq] at e)), decide_eq_false h']; rfl

theorem div_norm (x y : Nat) (hx1 : 4503599627370496 ≤ x) (hx2 : x < 9218868437227405312) (hy1 : 4503599627370496 ≤ y) (hy2 : y < 9218868437227405312) (q : Nat) (hq : divQ (Nat.mul (mant x) 18014398509481984) (mant y) = q)
    (hl : 52 ≤ q.log2) (he : ex y ≤ ex x + 967 + q.log2) (hr : divN x y < 9218868437227405312) : D.div x y = some (divN x y) := by
  have hm1 := mant_bounds x
  have hm2 := mant_bounds y
  have l1 := log2_mant _ hm1.1 hm1.2
  have l2 := log2_mant _ hm2.1 hm2.2
  unfold divN at hr ⊢
  rw [hq] at hr ⊢
  unfold Format.div
  rw [read_norm x hx1 hx2, read_norm y hy1 hy2]
  simp only [Datum.quotient, if_neg (show mant y ≠ 0 by omega), l1, l2, Option.map_some, Format.write, Bool.xor_self, fb]
  rw [show 52 + 2 + 52 - 52 = 54 from rfl]
  have hqq : 2 * (mant x <<< 54 / mant y) + (mant x <<< 54 % mant y != 0).toNat = q := by
    rw [← hq, Nat.shiftLeft_eq]
    show 2 * (mant x * 18014398509481984 / mant y) + (mant x * 18014398509481984 % mant y != 0).toNat = 2 * (mant x * 18014398509481984 / mant y) + cond (Nat.beq (mant x * 18014398509481984 % mant y) 0) 0 1
    congr 1
    by_cases h : mant x * 18014398509481984 % mant y = 0
    · rw [h]; rfl
    · rw [show Nat.beq (mant x * 18014398509481984 % mant y) 0 = false from Bool.eq_false_iff.2 (fun e => h (by rwa [Nat.beq_eq] at e))]
      simp [h]
  rw [hqq, nearest_norm q _ (by rintro rfl; simp at hl) (by omega) hl]
  have e : (-1074 + (ex x : Int) - (-1074 + (ex y : Int)) - ((54 : Nat) : Int) - 1 + (q.log2 : Int) + 1022).toNat = ex x + 967 + q.log2 - ex y := by omega
  have e2 : divN1 (ex x) (ex y) q = (ex x + 967 + q.log2 - ex y) * 4503599627370496 + rd q (q.log2 - 52) := by
    rw [← rdB_rd]; rfl
  rw [e, ← e2, Nat.min_eq_left (Nat.le_of_lt hr)]

theorem mul_norm (x y : Nat) (hx1 : 4503599627370496 ≤ x) (hx2 : x < 9218868437227405312) (hy1 : 4503599627370496 ≤ y) (hy2 : y < 9218868437227405312) (q : Nat) (hq : Nat.mul (mant x) (mant y) = q)
    (hl : 52 ≤ q.log2) (he : 1126 ≤ ex x + ex y + q.log2) (hr : mulN x y < 9218868437227405312) : D.mul x y = some (mulN x y) := by
  unfold mulN at hr ⊢
  rw [hq] at hr ⊢
  unfold Format.mul
  rw [read_norm x hx1 hx2, read_norm y hy1 hy2]
  simp only [Datum.product, Option.map_some, Format.write, Bool.xor_self]
  rw [show mant x * mant y = q from hq, nearest_norm q _ (by rintro rfl; simp at hl) (by omega) hl]
  have e : (-1074 + (ex x : Int) + (-1074 + (ex y : Int)) + (q.log2 : Int) + 1022).toNat = ex x + ex y + q.log2 - 1126 := by omega
  have e2 : mulN1 (ex x) (ex y) q = (ex x + ex y + q.log2 - 1126) * 4503599627370496 + rd q (q.log2 - 52) := by
    rw [← rdB_rd]; rfl
  rw [e, ← e2, Nat.min_eq_left (Nat.le_of_lt hr)]

/-- The words of i, and of i + 1/2. -/
def fN (i : Nat) : Nat := cond (Nat.beq i 0) 0 (Nat.add (Nat.mul (Nat.add 1022 (Nat.log2 i)) 4503599627370496) (Nat.mul i (Nat.pow 2 (Nat.sub 52 (Nat.log2 i)))))
def hN (i : Nat) : Nat := Nat.add (Nat.mul (Nat.add 1021 (Nat.log2 (Nat.add (Nat.mul 2 i) 1))) 4503599627370496) (Nat.mul (Nat.add (Nat.mul 2 i) 1) (Nat.pow 2 (Nat.sub 52 (Nat.log2 (Nat.add (Nat.mul 2 i) 1)))))

def okQ (q f e : Nat) : Bool := cond (Nat.ble 52 (Nat.log2 q)) (Nat.ble f (Nat.add e (Nat.log2 q))) false
def chk3 (i b : Nat) : Bool := cond (Nat.ble (fN i) b) (Nat.blt b (fN (Nat.succ i))) false
def chk2 (y i p : Nat) : Bool := cond (Nat.blt p 4607182418800017408) (cond (Nat.ble 4503599627370496 p) (cond (okQ (Nat.mul (mant p) (mant y)) 1126 (Nat.add (ex p) (ex y))) (chk3 i (mulN p y)) false) false) false
def chk (y i : Nat) : Bool := cond (okQ (divQ (Nat.mul (mant (hN i)) 18014398509481984) (mant y)) (ex y) (Nat.add (ex (hN i)) 967)) (chk2 y i (divN (hN i) y)) false
def chkN (y : Nat) : Nat → Bool
  | 0 => true
  | i + 1 => chk y i && chkN y i
/-- For all n from lo on, so many. -/
def chkA (lo : Nat) : Nat → Bool
  | 0 => true
  | k + 1 => chkN (fN (lo + k)) (lo + k) && chkA lo k

theorem cond_true {a b : Bool} (h : cond a b false = true) : a = true ∧ b = true := by
  cases a
  · cases h
  · exact ⟨rfl, h⟩

theorem chk_sound (y i : Nat) (hy1 : 4503599627370496 ≤ y) (hy2 : y < 9218868437227405312) (hx1 : 4503599627370496 ≤ hN i) (hx2 : hN i < 9218868437227405312) (hf : fN (Nat.succ i) < 9218868437227405312) (h : chk y i = true) :
    ∃ p b, D.div (hN i) y = some p ∧ p < 4607182418800017408 ∧ D.mul p y = some b ∧ fN i ≤ b ∧ b < fN (i + 1) ∧ b < 9218868437227405312 := by
  obtain ⟨h1, h⟩ := cond_true h
  obtain ⟨h2, h⟩ := cond_true h
  obtain ⟨h3, h⟩ := cond_true h
  obtain ⟨h4, h⟩ := cond_true h
  obtain ⟨h5, h⟩ := cond_true h
  obtain ⟨h6, h7⟩ := cond_true h1
  obtain ⟨h8, h9⟩ := cond_true h4
  rw [Nat.blt_eq] at h2 h
  have h3 := Nat.le_of_ble_eq_true h3
  have h5 := Nat.le_of_ble_eq_true h5
  have h6 := Nat.le_of_ble_eq_true h6
  have h7 := Nat.le_of_ble_eq_true h7
  have h8 := Nat.le_of_ble_eq_true h8
  have h9 := Nat.le_of_ble_eq_true h9
  have hp1 := div_norm (hN i) y hx1 hx2 hy1 hy2 _ rfl h6 h7 (by omega)
  have hp2 := mul_norm (divN (hN i) y) y h3 (by omega) hy1 hy2 _ rfl h8 h9 (Nat.lt_trans h hf)
  exact ⟨_, _, hp1, h2, hp2, h5, h, Nat.lt_trans h hf⟩

theorem fN_facts : ∀ i, i < 202 → fN i < 9218868437227405312 ∧ (0 < i → 4503599627370496 ≤ fN i) ∧ fN i < fN (i + 1) ∧ 4503599627370496 ≤ hN i ∧ hN i < 9218868437227405312 := by decide +kernel

theorem chkN_at {y : Nat} : ∀ {n : Nat}, chkN y n = true → ∀ i, i < n → chk y i = true
  | 0, _, i, hi => by omega
  | n + 1, h, i, hi => by
    have h : (chk y n && chkN y n) = true := h
    rw [Bool.and_eq_true] at h
    rcases Nat.lt_or_eq_of_le (Nat.le_of_lt_succ hi) with h1 | h1
    · exact chkN_at h.2 i h1
    · rw [h1]; exact h.1
theorem chkA_at {lo : Nat} : ∀ {k : Nat}, chkA lo k = true → ∀ j, j < k → chkN (fN (lo + j)) (lo + j) = true
  | 0, _, j, hj => by omega
  | k + 1, h, j, hj => by
    have h : (chkN (fN (lo + k)) (lo + k) && chkA lo k) = true := h
    rw [Bool.and_eq_true] at h
    rcases Nat.lt_or_eq_of_le (Nat.le_of_lt_succ hj) with h1 | h1
    · exact chkA_at h.2 j h1
    · rw [h1]; exact h.1

theorem part1 : chkA 0 80 = true := by decide +kernel
theorem part2 : chkA 80 35 = true := by decide +kernel
theorem part3 : chkA 115 25 = true := by decide +kernel
theorem part4 : chkA 140 22 = true := by decide +kernel
theorem part5 : chkA 162 20 = true := by decide +kernel
theorem part6 : chkA 182 19 = true := by decide +kernel

theorem chk_all (n i : Nat) (hn : n ≤ 200) (hi : i < n) : chk (fN n) i = true := by
  have h : chkN (fN n) n = true := by
    rcases (by omega : n < 80 ∨ (80 ≤ n ∧ n < 115) ∨ (115 ≤ n ∧ n < 140) ∨ (140 ≤ n ∧ n < 162) ∨ (162 ≤ n ∧ n < 182) ∨ (182 ≤ n ∧ n < 201)) with h | ⟨h1, h2⟩ | ⟨h1, h2⟩ | ⟨h1, h2⟩ | ⟨h1, h2⟩ | ⟨h1, h2⟩
    · have := chkA_at part1 n h; rwa [Nat.zero_add] at this
    · have := chkA_at part2 (n - 80) (by omega); rwa [show 80 + (n - 80) = n by omega] at this
    · have := chkA_at part3 (n - 115) (by omega); rwa [show 115 + (n - 115) = n by omega] at this
    · have := chkA_at part4 (n - 140) (by omega); rwa [show 140 + (n - 140) = n by omega] at this
    · have := chkA_at part5 (n - 162) (by omega); rwa [show 162 + (n - 162) = n by omega] at this
    · have := chkA_at part6 (n - 182) (by omega); rwa [show 182 + (n - 182) = n by omega] at this
  exact chkN_at h i hi

/-- The part (i + 1/2) / n, and its product with n. -/
theorem all_part (n i : Nat) (hn : n ≤ 200) (hi : i < n) : ∃ p b, D.div (hN i) (fN n) = some p ∧ p < 4607182418800017408 ∧ D.mul p (fN n) = some b ∧ fN i ≤ b ∧ b < fN (i + 1) ∧ b < 9218868437227405312 := by
  have f1 := fN_facts n (by omega)
  have f2 := fN_facts i (by omega)
  have f3 := fN_facts (i + 1) (by omega)
  exact chk_sound (fN n) i (f1.2.1 (by omega)) f1.1 f2.2.2.2.1 f2.2.2.2.2 f3.1 (chk_all n i hn hi)

theorem fN_le (i j : Nat) (h : i ≤ j) (hj : j < 202) : fN i ≤ fN j := by
  induction j with
  | zero => have : i = 0 := by omega
            rw [this]; exact Nat.le_refl _
  | succ j ih =>
    rcases Nat.lt_or_eq_of_le h with h1 | h1
    · have := ih (by omega) (by omega)
      have := (fN_facts j (by omega)).2.2.1
      omega
    · rw [h1]; exact Nat.le_refl _

theorem fN_half : ∀ i, i < 201 → D.add (fN i) 4602678819172646912 = some (hN i) := by decide +kernel
theorem fN_one : ∀ i, i < 201 → D.add (fN i) 4607182418800017408 = some (fN (i + 1)) := by decide +kernel

end FM
end Go.Proofs.Ytpeidcjpkgcajaa

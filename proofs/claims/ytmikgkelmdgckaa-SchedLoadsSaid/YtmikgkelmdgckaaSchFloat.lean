/- Numbers that are not below nought, by what they are worth: V, in units of the least one; N the nearest word to so many units; sums and halves. -/
import Derived.Test.YtmikgkelmdgckaaShareChoose
import Derived.Test.YtmikgkelmdgckaaShareDecay
namespace Go.Proofs.Ytmikgkelmdgckaa
set_option linter.unusedVariables false
set_option linter.unusedSimpArgs false
namespace FM
open Ieee

def N (v : Nat) : Nat := D.nearest false v (-1074)
def V (x : Nat) : Nat := match D.read x with | .number _ m p => m * 2 ^ (p + 1074).toNat | _ => 0
theorem V_of {x m e : Nat} (h : D.read x = .number false m (-1074 + (e : Int))) : V x = m * 2 ^ e := by
  unfold V
  rw [h]
  simp only
  rw [show (-1074 + (e : Int) + 1074).toNat = e by omega]
theorem nearest_eq (m1 m2 : Nat) (p1 p2 base : Int) (h1 : base ≤ p1) (h2 : base ≤ p2) (h : m1 * 2 ^ (p1 - base).toNat = m2 * 2 ^ (p2 - base).toNat) : D.nearest false m1 p1 = D.nearest false m2 p2 :=
  Nat.le_antisymm (nearest_mono m1 m2 p1 p2 base h1 h2 (Nat.le_of_eq h)) (nearest_mono m2 m1 p2 p1 base h2 h1 (Nat.le_of_eq h.symm))
theorem N_mono {a b : Nat} (h : a ≤ b) : N a ≤ N b := nearest_mono a b (-1074) (-1074) (-1074) (Int.le_refl _) (Int.le_refl _) (by simpa using h)
theorem N_le (v : Nat) : N v ≤ 9218868437227405312 := nearest_le v _
theorem N_form (v : Nat) : N v = min ((v.log2 - 52) * 4503599627370496 + rd v (v.log2 - 52)) 9218868437227405312 := by
  unfold N Format.nearest
  by_cases h0 : v = 0
  · subst h0
    decide
  · simp only [if_neg h0, lp, fb, inf, bin, Format.word, Bool.false_eq_true, if_false]
    have h2 : max (-1074 + (v.log2 : Int) - ((52 : Nat) : Int)) (-1074) = -1074 + ((v.log2 - 52 : Nat) : Int) := by omega
    rw [h2, cut_rd]
    rw [show (-1074 - (-1074 + ((v.log2 - 52 : Nat) : Int))).toNat = 0 by omega, show (-1074 + ((v.log2 - 52 : Nat) : Int) - -1074).toNat = v.log2 - 52 by omega]
    simp
theorem read_V {x : Nat} (hx : x < 9218868437227405312) : ∃ m e : Nat, V x = m * 2 ^ e ∧ x = e * 4503599627370496 + m ∧ m < 9007199254740992 ∧ (0 < e → 4503599627370496 ≤ m) ∧ D.read x = .number false m (-1074 + (e : Int)) := by
  obtain ⟨m, e, h0, h1, h2, h3⟩ := read_pos x hx
  exact ⟨m, e, V_of h0, h1, h2, h3, h0⟩
theorem V_mono {x y : Nat} (hy : y < 9218868437227405312) (h : x ≤ y) : V x ≤ V y := by
  obtain ⟨m, e, h1, h2, h3, h4, -⟩ := read_V (x := x) (by omega)
  obtain ⟨m', e', k1, k2, k3, k4, -⟩ := read_V hy
  rw [h1, k1]
  rcases Nat.lt_or_eq_of_le h with hlt | rfl
  · have := shift_lt h3 h4 k3 k4 (by omega)
    have e1 : m * 2 ^ e = m * 2 ^ (e - min e e') * 2 ^ min e e' := by rw [Nat.mul_assoc, ← Nat.pow_add]; congr 2; omega
    have e2 : m' * 2 ^ e' = m' * 2 ^ (e' - min e e') * 2 ^ min e e' := by rw [Nat.mul_assoc, ← Nat.pow_add]; congr 2; omega
    rw [e1, e2]
    exact Nat.mul_le_mul_right _ (Nat.le_of_lt this)
  · rw [← h1, ← k1]; exact Nat.le_refl _
theorem log2_of {m e : Nat} (h1 : 4503599627370496 ≤ m) (h2 : m < 9007199254740992) : (m * 2 ^ e).log2 = 52 + e := by
  have hne : m * 2 ^ e ≠ 0 := Nat.mul_ne_zero (by omega) (by have := Nat.two_pow_pos e; omega)
  rw [Nat.log2_eq_iff hne]
  refine ⟨?_, ?_⟩
  · rw [Nat.pow_add, e52]
    exact Nat.mul_le_mul_right _ h1
  · rw [show 52 + e + 1 = 53 + e by omega, Nat.pow_add, e53]
    exact Nat.mul_lt_mul_of_pos_right h2 (Nat.two_pow_pos e)
theorem rd_zero (n : Nat) : rd n 0 = n := by
  unfold rd
  simp [Nat.mod_one]
theorem rd_mul (m e : Nat) : rd (m * 2 ^ e) e = m := by
  unfold rd
  have hp := Nat.two_pow_pos e
  rw [Nat.mul_div_cancel _ hp, Nat.mul_mod_left]
  simp
theorem N_V {x : Nat} (hx : x < 9218868437227405312) : N (V x) = x := by
  obtain ⟨m, e, h1, h2, h3, h4, -⟩ := read_V hx
  rw [h1, N_form]
  rcases Nat.eq_zero_or_pos e with he | he
  · subst he
    have hl : (m * 2 ^ 0).log2 - 52 = 0 := by
      rw [Nat.pow_zero, Nat.mul_one]
      by_cases hm : m = 0
      · subst hm; decide
      · have := (Nat.log2_lt hm (k := 53)).2 (by rw [e53]; exact h3)
        omega
    rw [hl, rd_zero]
    omega
  · rw [log2_of (h4 he) h3, show 52 + e - 52 = e by omega, rd_mul]
    omega
theorem V_lt {x y : Nat} (hx : x < 9218868437227405312) (hy : y < 9218868437227405312) (h : V x < V y) : x < y := by
  rcases Nat.lt_or_ge x y with h1 | h1
  · exact h1
  · have := V_mono hx h1; omega
theorem add_N {x y : Nat} (hx : x < 9218868437227405312) (hy : y < 9218868437227405312) : D.add x y = some (N (V x + V y)) := by
  obtain ⟨m, e, h1, -, -, -, h0⟩ := read_V hx
  obtain ⟨m', e', k1, -, -, -, k0⟩ := read_V hy
  unfold Format.add
  rw [h0, k0, h1, k1]
  simp only [Datum.sum, Option.map_some, signed_pos]
  rw [show min (-1074 + (e : Int)) (-1074 + (e' : Int)) = -1074 + ((min e e' : Nat) : Int) by omega]
  rw [show (-1074 + (e : Int) - (-1074 + ((min e e' : Nat) : Int))).toNat = e - min e e' by omega, show (-1074 + (e' : Int) - (-1074 + ((min e e' : Nat) : Int))).toNat = e' - min e e' by omega]
  rw [show ∀ a b : Nat, decide ((a : Int) + (b : Int) < 0) = false from fun a b => decide_eq_false (by omega)]
  simp only [Bool.and_false, ite_self, Format.write, Option.some.injEq]
  have hn : ∀ a b : Nat, ((a : Int) + (b : Int)).natAbs = a + b := fun a b => by omega
  rw [hn]
  unfold N
  refine nearest_eq _ _ _ _ (-1074) (by omega) (Int.le_refl _) ?_
  rw [show (-1074 + ((min e e' : Nat) : Int) - -1074).toNat = min e e' by omega, Int.sub_self, Int.toNat_zero, Nat.pow_zero, Nat.mul_one, Nat.add_mul]
  rw [Nat.mul_assoc, Nat.mul_assoc, ← Nat.pow_add, ← Nat.pow_add, show e - min e e' + min e e' = e by omega, show e' - min e e' + min e e' = e' by omega]
theorem ad_N {x y : Nat} (hx : x < 9218868437227405312) (hy : y < 9218868437227405312) : ad x y = N (V x + V y) := by unfold ad; rw [add_N hx hy]; rfl
/-- A load comes nearer to nought or to one. -/
def one : Nat := 4607182418800017408
def half : Nat := 4602678819172646912
def dk (b x : Nat) : Nat := ad (prod b half) (prod x half)
def pw (k : Nat) : Nat := 2 ^ k
theorem pw_add (a b : Nat) : pw (a + b) = pw a * pw b := Nat.pow_add 2 a b
theorem pw_52 : pw 52 = 4503599627370496 := by decide
theorem V_pw {x m e : Nat} (h : D.read x = .number false m (-1074 + (e : Int))) : V x = m * pw e := V_of h
theorem V_one : V one = pw 1074 := by
  rw [V_pw (m := 4503599627370496) (e := 1022) (by decide), ← pw_52, ← pw_add]
theorem V_half : V half = pw 1073 := by
  rw [V_pw (m := 4503599627370496) (e := 1021) (by decide), ← pw_52, ← pw_add]
theorem pw_double : pw 1074 = pw 1073 + pw 1073 := by
  rw [show (1074 : Nat) = 1073 + 1 from rfl, pw_add 1073 1, show pw 1 = 2 from rfl]
  omega
theorem N_one : N (pw 1074) = one := by rw [← V_one]; exact N_V (by decide)
theorem half_le {b : Nat} (hb : b ≤ one) : prod b half ≤ half := by
  have h1 : one < 9218868437227405312 := by decide
  have hh : 0 < half ∧ half < 9218868437227405312 := by decide
  obtain ⟨r, hr, -⟩ := mul_some b half (.inl (by omega)) hh
  have h2 : D.mul one half = some half := by decide
  have := mul_mono b one half r half (by omega) h1 hb hh hr h2
  unfold prod
  rw [hr]
  exact this
theorem dk_le {b x : Nat} (hb : b ≤ one) (hx : x ≤ one) : dk b x ≤ one := by
  have h1 := half_le hb
  have h2 := half_le hx
  have hh : half < 9218868437227405312 := by decide
  unfold dk
  rw [ad_N (by omega) (by omega)]
  have v1 := V_mono hh h1
  have v2 := V_mono hh h2
  rw [V_half] at v1 v2
  rw [← N_one]
  refine N_mono ?_
  rw [pw_double]
  omega
theorem val_num {b : Nat} (hb : b ≤ 9218868437227405312) : val b = some b := by
  unfold val
  have : isNan b = false := by unfold isNan; exact decide_eq_false (by omega)
  rw [this]; rfl
theorem dk_dec {b x : Nat} (hb : b ≤ one) (hx : x ≤ one) : dec 1 (val b) (val x) = some (dk b x) := by
  have h1 : one < 9218868437227405312 := by decide
  have hh : 0 < half ∧ half < 9218868437227405312 := by decide
  obtain ⟨r, hr, -⟩ := mul_some b half (.inl (by omega)) hh
  obtain ⟨s, hs, -⟩ := mul_some x half (.inl (by omega)) hh
  have g1 := half_le hb
  have g2 := half_le hx
  have p1 : floatBits .mul .f64 b half = some (prod b half) := by show D.mul b half = _; unfold prod; rw [hr]; rfl
  have p2 : floatBits .mul .f64 x half = some (prod x half) := by show D.mul x half = _; unfold prod; rw [hs]; rfl
  have p3 : floatBits .add .f64 (prod b half) (prod x half) = some (dk b x) := by
    show D.add _ _ = _
    unfold dk
    rw [add_N (by omega) (by omega), ad_N (by omega) (by omega)]
  have hv : val 4602678819172646912 = some half := val_num (by decide)
  show near (val b) (val x) = _
  unfold near
  rw [hv, val_num (b := b) (by omega), val_num (b := x) (by omega)]
  simp only [vop, Option.bind_some, p1, p2, p3]
end FM
end Go.Proofs.Ytmikgkelmdgckaa

/- How far rounding can lead: the nearest word's worth, halves of loads, sums and quotients of weights. No program in sight. -/
import Derived.Test.YtmikgkelmdgckaaSchFloat
namespace Go.Proofs.Ytmikgkelmdgckaa
set_option linter.unusedVariables false
set_option linter.unusedSimpArgs false
namespace FM
open Ieee
theorem pw_pos (k : Nat) : 0 < pw k := Nat.two_pow_pos k
theorem pw_mono {a b : Nat} (h : a ≤ b) : pw a ≤ pw b := Nat.pow_le_pow_right (by decide) h
/-- A word by its binade and its digits is worth so much. -/
theorem V_word {d r : Nat} (hd : d < 2000) (h1 : r ≤ 9007199254740992) (h2 : 0 < d → 4503599627370496 ≤ r) (hlt : d * 4503599627370496 + r < 9218868437227405312) : V (d * 4503599627370496 + r) = r * pw d := by
  obtain ⟨m, e, k1, k2, k3, k4, -⟩ := read_V hlt
  rw [k1]
  by_cases hr : r = 9007199254740992
  · subst hr
    have he : e = d + 1 ∧ m = 4503599627370496 := by
      rcases Nat.eq_zero_or_pos e with h0 | h0
      · subst h0
        have := k2
        omega
      · have := k4 h0; omega
    obtain ⟨rfl, rfl⟩ := he
    show 4503599627370496 * pw (d + 1) = _
    rw [pw_add, show pw 1 = 2 from rfl]
    omega
  · have he : e = d ∧ m = r := by
      rcases Nat.eq_zero_or_pos e with h0 | h0
      · subst h0
        rcases Nat.eq_zero_or_pos d with hd0 | hd0
        · omega
        · have := h2 hd0; omega
      · have := k4 h0
        rcases Nat.eq_zero_or_pos d with hd0 | hd0
        · omega
        · have := h2 hd0; omega
    obtain ⟨rfl, rfl⟩ := he
    rfl
theorem rd_ge (n d : Nat) : n / 2 ^ d ≤ rd n d := by unfold rd; exact Nat.le_add_right _ _
theorem VN {v : Nat} (hv : v.log2 < 2000) : V (N v) ≤ v + v / 4503599627370496 ∧ v ≤ V (N v) + v / 4503599627370496 ∧ N v < 9218868437227405312 := by
  by_cases hs : v.log2 < 53
  · have hd : v.log2 - 52 = 0 := by omega
    have hvl : v < 9007199254740992 := by
      by_cases h0 : v = 0
      · omega
      · have := (Nat.log2_lt h0 (k := 53)).1 hs; rw [e53] at this; exact this
    have hN : N v = v := by
      rw [N_form, hd, rd_zero]
      omega
    rw [hN]
    have hV : V v = v := by
      have h := V_word (d := 0) (r := v) (by omega) (by omega) (by omega) (by omega)
      rw [Nat.zero_mul, Nat.zero_add] at h
      rw [h, show pw 0 = 1 from rfl, Nat.mul_one]
    rw [hV]
    omega
  · have h0 : v ≠ 0 := by
      rintro rfl
      exact hs (by decide)
    obtain ⟨d, hd⟩ : ∃ d, v.log2 = d + 52 := ⟨v.log2 - 52, by omega⟩
    have hlo : pw d * 4503599627370496 ≤ v := by
      have := Nat.log2_self_le h0
      rw [hd, Nat.pow_add, e52] at this
      exact this
    have hhi : v < pw d * 9007199254740992 := by
      have := Nat.lt_log2_self (n := v)
      rw [hd, show d + 52 + 1 = d + 53 by omega, Nat.pow_add, e53] at this
      exact this
    have hp := pw_pos d
    have q1 : 4503599627370496 ≤ v / pw d := (Nat.le_div_iff_mul_le hp).2 (by rw [Nat.mul_comm]; exact hlo)
    have q2 : v / pw d < 9007199254740992 := Nat.div_lt_of_lt_mul hhi
    have r1 : v / pw d ≤ rd v d := rd_ge v d
    have r2 : rd v d ≤ v / pw d + 1 := rd_le v d
    have hN : N v = d * 4503599627370496 + rd v d := by
      rw [N_form, hd, show d + 52 - 52 = d by omega]
      omega
    have hlt : d * 4503599627370496 + rd v d < 9218868437227405312 := by omega
    rw [hN, V_word (by omega) (by omega) (fun _ => by omega) hlt]
    have hq : pw d ≤ v / 4503599627370496 := (Nat.le_div_iff_mul_le (by decide)).2 hlo
    have e1 := Nat.div_add_mod v (pw d)
    have e2 := Nat.mod_lt v hp
    have m1 : rd v d * pw d ≤ (v / pw d + 1) * pw d := Nat.mul_le_mul_right _ r2
    have m2 : v / pw d * pw d ≤ rd v d * pw d := Nat.mul_le_mul_right _ r1
    rw [Nat.add_mul, Nat.one_mul] at m1
    rw [Nat.mul_comm (pw d)] at e1
    exact ⟨by omega, by omega, hlt⟩
theorem log2_lt_of {v k : Nat} (h : v < pw k) (hk : 0 < k) : v.log2 < k := by
  by_cases h0 : v = 0
  · subst h0; rw [show Nat.log2 0 = 0 by decide]; exact hk
  · exact (Nat.log2_lt h0).2 h
/-- Half of a load. -/
theorem V_half_of {b : Nat} (hb : b ≤ one) : 9007199254740992 * V (prod b half) ≤ 4503599627370497 * (V b + 1) ∧ V (prod b half) ≤ pw 1073 ∧ prod b half < 9218868437227405312 := by
  have h1 : b < 9218868437227405312 := by have : one < 9218868437227405312 := (by decide); omega
  have hh := half_le hb
  have hh2 : half < 9218868437227405312 := by decide
  have hV1 := V_mono hh2 hh
  rw [V_half] at hV1
  have hle : prod b half < 9218868437227405312 := by omega
  obtain ⟨u, hu⟩ : ∃ u, u = (V b + 1) / 2 := ⟨_, rfl⟩
  have hVb : V b ≤ pw 1074 := by rw [← V_one]; exact V_mono (by decide) hb
  have hu2 : u < pw 1080 := by
    have : pw 1074 + pw 1074 ≤ pw 1080 := by
      rw [show (1080 : Nat) = 1074 + 6 from rfl, pw_add, show pw 6 = 64 from rfl]
      omega
    have := pw_pos 1074
    omega
  obtain ⟨n1, n2, n3⟩ := VN (v := u) (by have := log2_lt_of hu2 (by decide); omega)
  have hmul : prod b half ≤ N u := by
    obtain ⟨m, e, k1, k2, k3, k4, k0⟩ := read_V h1
    obtain ⟨m', e', h0', h1', h2', h3'⟩ := read_pos half hh2
    have hm' : e' = 1021 ∧ m' = 4503599627370496 := by
      unfold half at h1'
      rcases Nat.eq_zero_or_pos e' with hz | hz
      · omega
      · have := h3' hz; omega
    obtain ⟨he', hmm⟩ := hm'
    obtain ⟨r, hr, -⟩ := mul_some b half (.inl h1) ⟨by decide, hh2⟩
    have hr' := hr
    unfold Format.mul at hr'
    rw [h0', k0] at hr'
    obtain rfl := Option.some.inj hr'
    unfold prod
    rw [hr]
    show D.nearest _ _ _ ≤ N u
    simp only [Bool.xor_self]
    unfold N
    refine nearest_mono _ _ _ _ (-1074 + (e : Int) + (-1074 + (e' : Int)) - (e : Int)) (by omega) (by omega) ?_
    rw [show (-1074 + (e : Int) + (-1074 + (e' : Int)) - (-1074 + (e : Int) + (-1074 + (e' : Int)) - (e : Int))).toNat = e by omega, show (-1074 - (-1074 + (e : Int) + (-1074 + (e' : Int)) - (e : Int))).toNat = 53 by omega, e53]
    rw [hmm, Nat.mul_right_comm, ← k1]
    omega
  have hV2 := V_mono n3 hmul
  refine ⟨?_, hV1, hle⟩
  omega
theorem V_zero : V 0 = 0 := by decide
theorem prod_zero : prod 0 half = 0 := by decide
theorem V_dk0 {b : Nat} (hb : b ≤ one) : 9007199254740992 * V (dk b 0) ≤ 4503599627370497 * (V b + 1) := by
  obtain ⟨h1, h2, h3⟩ := V_half_of hb
  unfold dk
  rw [prod_zero, ad_N h3 (by decide), V_zero, Nat.add_zero, N_V h3]
  exact h1
theorem prod_one : prod one half = half := by decide
theorem pw_1073 : pw 1073 = 4503599627370496 * pw 1021 := by rw [show (1073 : Nat) = 52 + 1021 from rfl, pw_add, pw_52]
theorem V_dk1 {b : Nat} (hb : b ≤ one) : 9007199254740992 * V (dk b one) ≤ 4503599627370497 * (V b + 1) + 9007199254740992 * (pw 1073 + pw 1022) := by
  obtain ⟨h1, h2, h3⟩ := V_half_of hb
  unfold dk
  have hh2 : half < 9218868437227405312 := by decide
  rw [prod_one, ad_N h3 hh2, V_half]
  have hlt : V (prod b half) + pw 1073 < pw 1080 := by
    have : pw 1080 = 128 * pw 1073 := by rw [show (1080 : Nat) = 7 + 1073 from rfl, pw_add, show pw 7 = 128 from rfl]
    have := pw_pos 1073
    omega
  obtain ⟨n1, -, -⟩ := VN (v := V (prod b half) + pw 1073) (by have := log2_lt_of hlt (by decide); omega)
  have e1 := pw_1073
  have e2 : pw 1022 = 2 * pw 1021 := by rw [show (1022 : Nat) = 1 + 1021 from rfl, pw_add, show pw 1 = 2 from rfl]
  omega
end FM
end Go.Proofs.Ytmikgkelmdgckaa

/- The law SchedLoads of layer 15 (package haywardlaw15): for every input it returns true, and its arguments read as before. No further condition. -/
import Derived.Test.YtmikgkelmdgckaaSchRan
import Derived.ChangeOld
import Derived.ShutString
namespace Go.Proofs.Ytmikgkelmdgckaa
open Go.ChangeShapes Go.WideShapes Go.ChangeAt Go.RowKit
set_option linter.unusedVariables false
set_option linter.unusedSimpArgs false
set_option maxRecDepth 100000
namespace FM
open Ieee SD
def sv (l : List Nat) : Nat := (l.map V).sum
theorem sv_cons (x : Nat) (l : List Nat) : sv (x :: l) = V x + sv l := rfl
theorem sv_app (l m : List Nat) : sv (l ++ m) = sv l + sv m := by
  unfold sv; rw [List.map_append, List.sum_append]
theorem sv_take (l : List Nat) (k : Nat) : sv (l.take k) ≤ sv l := by
  have : sv l = sv (l.take k) + sv (l.drop k) := by rw [← sv_app, List.take_append_drop]
  omega
theorem fold_err (B δ : Nat) (hB : 2 * B < pw 1200) (hd : 2 * B ≤ δ * 4503599627370496) : ∀ (l : List Nat) (s A k : Nat), (∀ x ∈ l, x < 9218868437227405312) → s < 9218868437227405312 → V s ≤ A + k * δ → A ≤ V s + k * δ → A + sv l ≤ B → (k + l.length) * δ ≤ B →
    l.foldl ad s < 9218868437227405312 ∧ V (l.foldl ad s) ≤ A + sv l + (k + l.length) * δ ∧ A + sv l ≤ V (l.foldl ad s) + (k + l.length) * δ
  | [], s, A, k, _, hs, h1, h2, _, _ => ⟨hs, h1, h2⟩
  | x :: l, s, A, k, hx, hs, h1, h2, h3, h4 => by
    rw [sv_cons] at h3
    rw [List.length_cons] at h4
    have hxx := hx x (by simp)
    have ekl : (k + (l.length + 1)) * δ = (k + 1 + l.length) * δ := by congr 1; omega
    have ek1 : (k + 1) * δ = k * δ + δ := by rw [Nat.add_mul, Nat.one_mul]
    have em : k * δ ≤ (k + 1 + l.length) * δ := Nat.mul_le_mul_right _ (by omega)
    rw [ekl] at h4
    have hv : V s + V x ≤ 2 * B := by omega
    obtain ⟨n1, n2, n3⟩ := VN (v := V s + V x) (by have := log2_lt_of (v := V s + V x) (k := 1200) (by omega) (by decide); omega)
    have hq : (V s + V x) / 4503599627370496 ≤ δ := by
      have h5 : (V s + V x) / 4503599627370496 ≤ (δ * 4503599627370496) / 4503599627370496 := Nat.div_le_div_right (by omega)
      rwa [Nat.mul_div_cancel _ (by decide)] at h5
    have ha := ad_N hs hxx
    obtain ⟨r1, r2, r3⟩ := fold_err B δ hB hd l (ad s x) (A + V x) (k + 1) (fun y hy => hx y (by simp [hy])) (by rw [ha]; exact n3) (by rw [ha]; omega) (by rw [ha]; omega) (by omega) h4
    rw [List.foldl_cons, List.length_cons, sv_cons, ekl]
    exact ⟨r1, by omega, by omega⟩
theorem mem_fold : ∀ (l : List Nat) (s k : Nat), k + l.length < 2045 → s ≤ p2 k → (∀ x ∈ l, x ≤ p2 k) → ∀ x ∈ l, x ≤ l.foldl ad s
  | [], _, _, _, _, _, x, h => by cases h
  | y :: l, s, k, hk, hs, hx, x, h => by
    rw [List.length_cons] at hk
    obtain ⟨a1, a2, a3⟩ := ad_p2 (k := k) (by omega) hs (hx y (by simp))
    have hkk : p2 k ≤ p2 (k + 1) := by unfold p2; omega
    obtain ⟨-, b2⟩ := fold_p2 l (ad s y) (k + 1) (k + 1) (Nat.le_refl _) (by omega) a1 fun z hz => Nat.le_trans (hx z (by simp [hz])) hkk
    rw [List.foldl_cons]
    rcases List.mem_cons.1 h with rfl | h
    · exact Nat.le_trans a2 b2
    · exact mem_fold l (ad s y) (k + 1) (by omega) a1 (fun z hz => Nat.le_trans (hx z (by simp [hz])) hkk) x h
/-- A quotient, before and behind rounding. -/
theorem quo_parts {x y : Nat} (hx : p2 1000 ≤ x ∧ x ≤ p2 1200) (hy : p2 1000 ≤ y ∧ y ≤ p2 1200) : ∃ v : Nat, quo x y = N v ∧ v < pw 1400 ∧ 1 ≤ v ∧ 18014398509481984 * (v * V y) ≤ 18014398509481985 * (V x * pw 1074) ∧ 18014398509481983 * (V x * pw 1074) ≤ 18014398509481984 * (v * V y) ∧ (x ≤ y → v ≤ pw 1074) := by
  have hp : p2 1000 = 4508103226997866496 ∧ p2 1200 = 5408823152471965696 := by unfold p2; omega
  have hx2 : x < 9218868437227405312 := by omega
  have hy2 : y < 9218868437227405312 := by omega
  obtain ⟨m, e, k1, k2, k3, k4, k0⟩ := read_V hx2
  obtain ⟨n, f, j1, j2, j3, j4, j0⟩ := read_V hy2
  have he : 1000 ≤ e ∧ e ≤ 1200 := by
    rcases Nat.eq_zero_or_pos e with hz | hz
    · subst hz; omega
    · have := k4 hz; omega
  have hf : 1000 ≤ f ∧ f ≤ 1200 := by
    rcases Nat.eq_zero_or_pos f with hz | hz
    · subst hz; omega
    · have := j4 hz; omega
  have hm := k4 (by omega)
  have hn := j4 (by omega)
  have hl1 : m.log2 = 52 := by rw [Nat.log2_eq_iff (by omega)]; rw [e52, e53]; exact ⟨hm, k3⟩
  have hl2 : n.log2 = 52 := by rw [Nat.log2_eq_iff (by omega)]; rw [e52, e53]; exact ⟨hn, j3⟩
  have hn0 : n ≠ 0 := by omega
  obtain ⟨A, hA⟩ : ∃ A, A = 2 * (m * 18014398509481984 / n) + (m * 18014398509481984 % n != 0).toNat := ⟨_, rfl⟩
  have e54 : 2 ^ 54 = 18014398509481984 := by decide
  have hdiv : D.div x y = some (D.nearest false A (-1074 + (e : Int) - (-1074 + (f : Int)) - ((54 : Nat) : Int) - 1)) := by
    unfold Format.div
    rw [k0, j0]
    simp only [Datum.quotient, if_neg hn0, fb, hl1, hl2, Option.map_some, Format.write, Bool.xor_self, Nat.shiftLeft_eq]
    rw [show 52 + 2 + 52 - 52 = 54 by omega, e54, hA]
  obtain ⟨s, hs⟩ : ∃ s : Nat, s = e + 1019 - f := ⟨_, rfl⟩
  have hN : quo x y = N (A * pw s) := by
    unfold quo
    rw [hdiv]
    show D.nearest false A _ = D.nearest false (A * 2 ^ s) (-1074)
    refine nearest_eq _ _ _ _ (-1074) (by omega) (Int.le_refl _) ?_
    rw [Int.sub_self, Int.toNat_zero, Nat.pow_zero, Nat.mul_one]
    congr 2
    omega
  obtain ⟨q, hq⟩ : ∃ q, q = m * 18014398509481984 / n := ⟨_, rfl⟩
  obtain ⟨r, hr⟩ : ∃ r, r = m * 18014398509481984 % n := ⟨_, rfl⟩
  have hdm : n * q + r = m * 18014398509481984 := by rw [hq, hr]; exact Nat.div_add_mod _ _
  have hrn : r < n := by rw [hr]; exact Nat.mod_lt _ (by omega)
  rw [← hq, ← hr] at hA
  have hb : (r != 0).toNat = if r = 0 then 0 else 1 := by
    by_cases h0 : r = 0
    · rw [if_pos h0, h0]; rfl
    · rw [if_neg h0]
      have : (r != 0) = true := by simpa using h0
      rw [this]; rfl
  rw [hb] at hA
  have hAn : A * n = 2 * (n * q) + (if r = 0 then 0 else n) := by
    rw [hA, Nat.add_mul]
    congr 1
    · rw [Nat.mul_assoc, Nat.mul_comm q n]
    · split <;> simp
  have c1 : A * n ≤ 2 * (m * 18014398509481984) + n := by rw [hAn]; split <;> omega
  have c2 : 2 * (m * 18014398509481984) ≤ A * n + n := by rw [hAn]; split <;> omega
  have hq1 : 1 ≤ q := by rw [hq]; exact (Nat.le_div_iff_mul_le (by omega)).2 (by omega)
  have hq2 : q < 36028797018963968 := by
    rw [hq]
    refine Nat.div_lt_of_lt_mul ?_
    omega
  have hpos : 1 ≤ A := by omega
  have hAup : A ≤ 72057594037927936 := by rw [hA]; split <;> omega
  have d1 : 18014398509481984 * (A * n) ≤ 18014398509481985 * (2 * (m * 18014398509481984)) := by omega
  have d2 : 18014398509481983 * (2 * (m * 18014398509481984)) ≤ 18014398509481984 * (A * n) := by omega
  -- in units
  have u1 : A * pw s * V y = A * n * pw (s + f) := by
    rw [j1, show n * 2 ^ f = n * pw f from rfl, pw_add]
    simp only [Nat.mul_assoc, Nat.mul_left_comm]
  have u2 : V x * pw 1074 = 2 * (m * 18014398509481984) * pw (s + f) := by
    rw [k1, show m * 2 ^ e = m * pw e from rfl]
    have e1 : pw e * pw 1074 = pw 55 * pw (s + f) := by rw [← pw_add, ← pw_add]; congr 1; omega
    have e2 : pw 55 = 2 * 18014398509481984 := by decide
    rw [Nat.mul_assoc, e1, e2]
    simp only [Nat.mul_assoc, Nat.mul_left_comm]
  refine ⟨A * pw s, hN, ?_, ?_, ?_, ?_, fun hxy => ?_⟩
  · have h1 : A * pw s ≤ pw 56 * pw 1300 := Nat.mul_le_mul (by rw [show pw 56 = 72057594037927936 by decide]; exact hAup) (pw_mono (by omega))
    have h2 : pw 56 * pw 1300 < pw 1400 := by
      rw [← pw_add, show (1400 : Nat) = 56 + 1300 + 44 from rfl, pw_add (56 + 1300) 44, show pw 44 = 17592186044416 by decide]
      have := pw_pos (56 + 1300)
      omega
    omega
  · exact Nat.mul_pos hpos (pw_pos s)
  · rw [u1, u2]
    have h := Nat.mul_le_mul_right (pw (s + f)) d1
    rwa [Nat.mul_assoc 18014398509481984 (A * n), Nat.mul_assoc 18014398509481985] at h
  · rw [u1, u2]
    have h := Nat.mul_le_mul_right (pw (s + f)) d2
    rwa [Nat.mul_assoc 18014398509481983, Nat.mul_assoc 18014398509481984 (A * n)] at h
  · -- at most one
    have hef : e ≤ f := by omega
    have hV := V_mono hy2 hxy
    rw [k1, j1, show m * 2 ^ e = m * pw e from rfl, show n * 2 ^ f = n * pw f from rfl, show pw f = pw (f - e) * pw e by rw [← pw_add]; congr 1; omega, ← Nat.mul_assoc] at hV
    have hmn : m ≤ n * pw (f - e) := Nat.le_of_mul_le_mul_right hV (pw_pos e)
    obtain ⟨R, hR⟩ : ∃ R, R = 18014398509481984 * pw (f - e) := ⟨_, rfl⟩
    have hD : m * 18014398509481984 ≤ n * R := by
      rw [hR, show n * (18014398509481984 * pw (f - e)) = n * pw (f - e) * 18014398509481984 by rw [Nat.mul_comm 18014398509481984, Nat.mul_assoc]]
      exact Nat.mul_le_mul_right _ hmn
    have hA2 : A ≤ 2 * R := by
      have hqR : q ≤ R := by
        rw [hq]
        exact Nat.div_le_of_le_mul hD
      by_cases h0 : r = 0
      · rw [hA, if_pos h0]; omega
      · have hlt : q < R := by
          rcases Nat.lt_or_ge q R with h1 | h1
          · exact h1
          · exfalso
            have := Nat.mul_le_mul_left n h1
            omega
        rw [hA, if_neg h0]; omega
    have hRs : 2 * R * pw s = pw 1074 := by
      have e2 : pw 55 = 2 * 18014398509481984 := by decide
      rw [hR, ← Nat.mul_assoc, ← e2, ← pw_add, ← pw_add]
      congr 1
      omega
    rw [← hRs]
    exact Nat.mul_le_mul_right _ hA2
def K0 : Nat := 4503599627370496 * 18014398509481984
def K1 : Nat := 4503599627370497 * 18014398509481985
def K2 : Nat := 4503599627370495 * 18014398509481983
theorem quo_facts {x y : Nat} (hx : p2 1000 ≤ x ∧ x ≤ p2 1200) (hy : p2 1000 ≤ y ∧ y ≤ p2 1200) : quo x y < 9218868437227405312 ∧ 0 < quo x y ∧ (x ≤ y → quo x y ≤ one) ∧ K0 * (V (quo x y) * V y) ≤ K1 * (V x * pw 1074) ∧ K2 * (V x * pw 1074) ≤ K0 * (V (quo x y) * V y) := by
  obtain ⟨v, hN, hv, hv1, b1, b2, b3⟩ := quo_parts hx hy
  obtain ⟨n1, n2, n3⟩ := VN (v := v) (by have := log2_lt_of hv (by decide); omega)
  rw [hN]
  have m1 : 4503599627370496 * V (N v) ≤ 4503599627370497 * v := by omega
  have m2 : 4503599627370495 * v ≤ 4503599627370496 * V (N v) := by omega
  have w1 := Nat.mul_le_mul_right (V y) m1
  have w2 := Nat.mul_le_mul_right (V y) m2
  rw [Nat.mul_assoc, Nat.mul_assoc] at w1 w2
  refine ⟨n3, ?_, fun h => ?_, ?_, ?_⟩
  · have h1 : N 1 = 1 := by decide
    have := N_mono hv1
    omega
  · have := N_mono (b3 h)
    rwa [N_one] at this
  · unfold K0 K1
    generalize V (N v) * V y = a at *
    generalize v * V y = b at *
    generalize V x * pw 1074 = X at *
    omega
  · unfold K0 K2
    generalize V (N v) * V y = a at *
    generalize v * V y = b at *
    generalize V x * pw 1074 = X at *
    omega
theorem quo_sum {y : Nat} (hy : p2 1000 ≤ y ∧ y ≤ p2 1200) : ∀ l : List Nat, (∀ x ∈ l, p2 1000 ≤ x ∧ x ≤ p2 1200) → K0 * (sv (l.map fun x => quo x y) * V y) ≤ K1 * (sv l * pw 1074) ∧ K2 * (sv l * pw 1074) ≤ K0 * (sv (l.map fun x => quo x y) * V y)
  | [], _ => by
    have e : sv ([] : List Nat) = 0 := rfl
    rw [List.map_nil, e, Nat.zero_mul, Nat.zero_mul, Nat.mul_zero, Nat.mul_zero, Nat.mul_zero]
    exact ⟨Nat.le_refl _, Nat.le_refl _⟩
  | x :: l, h => by
    obtain ⟨i1, i2⟩ := quo_sum hy l fun z hz => h z (by simp [hz])
    obtain ⟨-, -, -, q1, q2⟩ := quo_facts (h x (by simp)) hy
    rw [List.map_cons, sv_cons, sv_cons, Nat.add_mul, Nat.add_mul, Nat.mul_add, Nat.mul_add, Nat.mul_add]
    exact ⟨Nat.add_le_add q1 i1, Nat.add_le_add q2 i2⟩
theorem sv_len_le {B : Nat} : ∀ l : List Nat, (∀ x ∈ l, V x ≤ B) → sv l ≤ l.length * B
  | [], _ => Nat.zero_le _
  | x :: l, h => by
    rw [sv_cons, List.length_cons, Nat.add_mul, Nat.one_mul, Nat.add_comm]
    exact Nat.add_le_add (sv_len_le l fun z hz => h z (by simp [hz])) (h x (by simp))
theorem sv_perm {l m : List Nat} (h : l.Perm m) : sv l = sv m := (h.map V).sum_nat
/-- Numbers whose sum is nearly one: so is their sum in floats. -/
theorem near_one {l : List Nat} (hlen : l.length ≤ 100) (hx : ∀ x ∈ l, x < 9218868437227405312) {G : Nat} (hG : sv l = G) (hG2 : G ≤ 2 * pw 1074) : l.foldl ad 0 < 9218868437227405312 ∧ V (l.foldl ad 0) ≤ G + 400 * pw 1022 ∧ G ≤ V (l.foldl ad 0) + 400 * pw 1022 ∧ ∀ k, (l.take k).foldl ad 0 < 9218868437227405312 := by
  have e2 : pw 1074 = 4503599627370496 * pw 1022 := by rw [show (1074 : Nat) = 52 + 1022 from rfl, pw_add, pw_52]
  have hB : 2 * (2 * pw 1074) < pw 1200 := by
    rw [show (1200 : Nat) = 1074 + 126 from rfl, pw_add 1074 126, show pw 126 = 85070591730234615865843651857942052864 by decide]
    have := pw_pos 1074
    omega
  have hd : 2 * (2 * pw 1074) ≤ 4 * pw 1022 * 4503599627370496 := by rw [e2]; omega
  have key : ∀ m : List Nat, m.length ≤ 100 → (∀ x ∈ m, x < 9218868437227405312) → sv m ≤ 2 * pw 1074 → _ := fun m h1 h2 h3 =>
    fold_err (2 * pw 1074) (4 * pw 1022) hB hd m 0 0 0 h2 (by decide) (by rw [V_zero]; exact Nat.zero_le _) (Nat.zero_le _) (by omega) (by
      have : (0 + m.length) * (4 * pw 1022) ≤ 100 * (4 * pw 1022) := Nat.mul_le_mul_right _ (by omega)
      rw [e2]; omega)
  obtain ⟨r1, r2, r3⟩ := key l hlen hx (by omega)
  have hm : (0 + l.length) * (4 * pw 1022) ≤ 100 * (4 * pw 1022) := Nat.mul_le_mul_right _ (by omega)
  refine ⟨r1, by omega, by omega, fun k => (key (l.take k) ?_ (fun x hm => hx x (List.mem_of_mem_take hm)) (Nat.le_trans (sv_take l k) (by omega))).1⟩
  rw [List.length_take]; omega
theorem ml1 (K n G W : Nat) : K * n * G * W = K * G * (n * W) := by simp only [Nat.mul_assoc, Nat.mul_left_comm, Nat.mul_comm]
theorem ml2 (K G n Y : Nat) : K * G * (n * Y) = n * (K * (G * Y)) := by simp only [Nat.mul_assoc, Nat.mul_left_comm, Nat.mul_comm]
theorem ml3 (n k W U : Nat) : n * (k * (W * U)) = n * k * U * W := by simp only [Nat.mul_assoc, Nat.mul_left_comm, Nat.mul_comm]
def hiB : Nat := 4607182423303617035
def loB : Nat := 4607182409792818153
theorem V_hi : V hiB = 4503604130970123 * pw 1022 := V_pw (m := 4503604130970123) (e := 1022) (by decide)
theorem V_lo : 2 * V loB = 9007190247541737 * pw 1022 := by
  rw [V_pw (x := loB) (m := 9007190247541737) (e := 1021) (by decide), show (1022 : Nat) = 1 + 1021 from rfl, pw_add, show pw 1 = 2 from rfl]
  omega
/-- Loads together. -/
theorem loads_sum {l : List Nat} (hlen : l.length ≤ 100) (hx : ∀ x ∈ l, x ≤ one) (hG : sv l ≤ pw 1074 + pw 1026) : l.foldl ad 0 ≤ hiB ∧ ∀ k, (l.take k).foldl ad 0 < 9218868437227405312 := by
  have e2 : pw 1074 = 4503599627370496 * pw 1022 := by rw [show (1074 : Nat) = 52 + 1022 from rfl, pw_add, pw_52]
  have e3 : pw 1026 = 16 * pw 1022 := by rw [show (1026 : Nat) = 4 + 1022 from rfl, pw_add, show pw 4 = 16 from rfl]
  have h1 : one < 9218868437227405312 := by decide
  obtain ⟨r1, r2, r3, r4⟩ := near_one hlen (fun x hm => by have := hx x hm; omega) rfl (by omega)
  refine ⟨?_, r4⟩
  rcases Nat.lt_or_ge hiB (l.foldl ad 0) with hlt | h
  · exfalso
    have hV := V_mono r1 (Nat.le_of_lt hlt)
    have hne : V hiB ≠ V (l.foldl ad 0) := fun e => by
      have := congrArg N e
      rw [N_V (by decide), N_V r1] at this
      omega
    rw [V_hi] at hV hne
    rw [e2, e3] at hG
    have := pw_pos 1022
    generalize pw 1022 = P at *
    omega
  · exact h
/-- Shares together. -/
theorem shares_sum {w q : List Nat} (hne : w ≠ []) (hlen : w.length ≤ 100) (hw : ∀ x ∈ w, p2 1000 ≤ x ∧ x ≤ p2 1039) (hq : q.Perm (w.map fun x => quo x (sums w))) :
    loB < q.foldl ad 0 ∧ q.foldl ad 0 < hiB ∧ (∀ k, (q.take k).foldl ad 0 < 9218868437227405312) ∧ ∀ x ∈ q, 0 < x ∧ x ≤ one := by
  have hp : p2 1000 = 4508103226997866496 ∧ p2 1039 = 4683743612465315840 ∧ p2 1200 = 5408823152471965696 := by unfold p2; omega
  have hmem : ∀ x ∈ w, x ≤ sums w := mem_fold w 0 1039 (by omega) (Nat.zero_le _) fun x hx => (hw x hx).2
  obtain ⟨f1, -⟩ := fold_p2 w 0 1039 1039 (Nat.le_refl _) (by omega) (Nat.zero_le _) fun x hx => (hw x hx).2
  have hT : p2 1000 ≤ sums w ∧ sums w ≤ p2 1200 := by
    refine ⟨?_, Nat.le_trans f1 (by unfold p2; omega)⟩
    cases w with
    | nil => exact absurd rfl hne
    | cons x t => exact Nat.le_trans (hw x (by simp)).1 (hmem x (by simp))
  have hw2 : ∀ x ∈ w, p2 1000 ≤ x ∧ x ≤ p2 1200 := fun x hx => ⟨(hw x hx).1, by have := (hw x hx).2; omega⟩
  obtain ⟨s1, s2⟩ := quo_sum hT w hw2
  have hWpos : pw 1052 ≤ sv w := by
    cases w with
    | nil => exact absurd rfl hne
    | cons x t =>
      have h1 := V_mono (show x < 9218868437227405312 by have := (hw x (by simp)).2; omega) (hw x (by simp)).1
      rw [V_p2 (by decide)] at h1
      rw [sv_cons]
      exact Nat.le_trans h1 (Nat.le_add_right _ _)
  have hWle : sv w ≤ 100 * pw 1091 := by
    have h1 := sv_len_le (B := pw 1091) w fun x hx => by
      have h2 := V_mono (show p2 1039 < 9218868437227405312 by omega) (hw x hx).2
      rwa [V_p2 (by decide)] at h2
    exact Nat.le_trans h1 (Nat.mul_le_mul_right _ hlen)
  -- the sum of the weights
  have hC : 4503599627370496 ≤ sv w := by
    have : pw 52 ≤ pw 1052 := pw_mono (by decide)
    rw [pw_52] at this; omega
  obtain ⟨δ, hδ⟩ : ∃ δ, δ = 2 * sv w / 4503599627370496 + 1 := ⟨_, rfl⟩
  have hB : 2 * sv w < pw 1200 := by
    rw [show (1200 : Nat) = 1091 + 109 from rfl, pw_add 1091 109, show pw 109 = 649037107316853453566312041152512 by decide]
    have := pw_pos 1091
    omega
  have h100 : (0 + w.length) * δ ≤ 100 * δ := Nat.mul_le_mul_right _ (by omega)
  have hd1 : 4503599627370496 * δ ≤ 2 * sv w + 4503599627370496 := by omega
  have hd2 : 2 * sv w ≤ δ * 4503599627370496 := by omega
  obtain ⟨g1, g2, g3⟩ := fold_err (sv w) δ hB hd2 w 0 0 0 (fun x hx => by have := (hw x hx).2; omega) (by decide) (by rw [V_zero]; exact Nat.zero_le _) (Nat.zero_le _) (by omega) (by omega)
  have hY : sums w = w.foldl ad 0 := rfl
  rw [← hY] at g1 g2 g3
  have y1 : 4503599627370496 * V (sums w) ≤ 4503599627370796 * sv w := by omega
  have y2 : 4503599627370196 * sv w ≤ 4503599627370496 * V (sums w) := by omega
  generalize hG : sv (w.map fun x => quo x (sums w)) = G at s1 s2
  generalize V (sums w) = Y at *
  have hWp : 0 < sv w := by omega
  generalize hWW : sv w = W at *
  have t1 : K0 * 4503599627370196 * G ≤ 4503599627370496 * K1 * pw 1074 := by
    refine Nat.le_of_mul_le_mul_right (c := W) ?_ hWp
    have a1 := Nat.mul_le_mul_left (K0 * G) y2
    have a2 := Nat.mul_le_mul_left 4503599627370496 s1
    have e1 := ml1 K0 4503599627370196 G W
    have e2 := ml2 K0 G 4503599627370496 Y
    have e3 := ml3 4503599627370496 K1 W (pw 1074)
    rw [e1, ← e3]
    rw [e2] at a1
    exact Nat.le_trans a1 a2
  have t2 : 4503599627370496 * K2 * pw 1074 ≤ K0 * 4503599627370796 * G := by
    refine Nat.le_of_mul_le_mul_right (c := W) ?_ hWp
    have a1 := Nat.mul_le_mul_left (K0 * G) y1
    have a2 := Nat.mul_le_mul_left 4503599627370496 s2
    have e1 := ml1 K0 4503599627370796 G W
    have e2 := ml2 K0 G 4503599627370496 Y
    have e3 := ml3 4503599627370496 K2 W (pw 1074)
    rw [e1, ← e3]
    rw [e2] at a1
    exact Nat.le_trans a2 a1
  have e2 : pw 1074 = 4503599627370496 * pw 1022 := by rw [show (1074 : Nat) = 52 + 1022 from rfl, pw_add, pw_52]
  have k0 : K0 = 81129638414606681695789005144064 := rfl
  have k1 : K1 = 81129638414606704213787141996545 := rfl
  have k2 : K2 = 81129638414606659177790868291585 := rfl
  have hx : ∀ x ∈ q, x < 9218868437227405312 ∧ 0 < x ∧ x ≤ one := fun x hm => by
    obtain ⟨z, hz, rfl⟩ := List.mem_map.1 (hq.mem_iff.1 hm)
    obtain ⟨c1, c2, c3, -⟩ := quo_facts (hw2 z hz) hT
    exact ⟨c1, c2, c3 (hmem z hz)⟩
  have hGq : sv q = G := by rw [sv_perm hq, hG]
  have hP := pw_pos 1022
  have hG2 : G ≤ 2 * pw 1074 := by
    rw [k0, k1, e2] at t1
    rw [e2]
    generalize pw 1022 = P at *
    omega
  obtain ⟨r1, r2, r3, r4⟩ := near_one (by rw [hq.length_eq, List.length_map]; exact hlen) (fun x hm => (hx x hm).1) hGq hG2
  refine ⟨?_, ?_, r4, fun x hm => (hx x hm).2⟩
  · refine V_lt (by decide) r1 ?_
    refine Nat.lt_of_mul_lt_mul_left (a := 2) ?_
    rw [V_lo]
    rw [k0, k2, e2] at t2
    generalize pw 1022 = P at *
    omega
  · refine V_lt r1 (by decide) ?_
    rw [V_hi]
    rw [k0, k1, e2] at t1
    generalize pw 1022 = P at *
    omega
end FM
open SD
open IN (Keeps lt_of_some)
namespace SD
open FM
theorem lst_nd {c : Nat} {S : Qs} (h : Good c S) (k : Nat) : (lst S.P S.L k).Nodup := h.nd.sublist List.filter_sublist
theorem ready_nd {c : Nat} {S : Qs} (h : Good c S) : (ready S).Nodup := by
  have hd : ∀ {j k : Nat} {a b : Int}, j ≠ k → a ∈ lst S.P S.L j → b ∈ lst S.P S.L k → a ≠ b := fun hjk ha hb e => by
    subst e
    exact hjk ((mem_lst.1 ha).2.symm.trans (mem_lst.1 hb).2)
  unfold ready
  refine List.nodup_append.2 ⟨lst_nd h 0, List.nodup_append.2 ⟨lst_nd h 1, List.nodup_append.2 ⟨lst_nd h 2, List.nodup_append.2 ⟨lst_nd h 3, lst_nd h 4, fun a ha b hb => hd (by omega) ha hb⟩, fun a ha b hb => ?_⟩, fun a ha b hb => ?_⟩, fun a ha b hb => ?_⟩
  · rcases List.mem_append.1 hb with hb | hb
    · exact hd (by omega) ha hb
    · exact hd (by omega) ha hb
  · rcases List.mem_append.1 hb with hb | hb
    · exact hd (by omega) ha hb
    · rcases List.mem_append.1 hb with hb | hb
      · exact hd (by omega) ha hb
      · exact hd (by omega) ha hb
  · rcases List.mem_append.1 hb with hb | hb
    · exact hd (by omega) ha hb
    · rcases List.mem_append.1 hb with hb | hb
      · exact hd (by omega) ha hb
      · rcases List.mem_append.1 hb with hb | hb
        · exact hd (by omega) ha hb
        · exact hd (by omega) ha hb
/-- A list turned. -/
def rot (A : List Int) (i : Nat) : List Int := A.drop i ++ A.take i
/-- The document's processes, as the walk wants them. -/
theorem J.docP {b : Nat} {w0 w : World} {qb rb c : Nat} {S1 S2 : Qs} {Z : Nat → Prop} (h : J b w0 qb rb c S1 S2 Z w) : ∃ ap cp, w.cell? ⟨rb, 0, none⟩ = some (.slice ap S2.P.length cp) ∧
    ∀ k (hk : k < S2.P.length), ∃ g, ap = some ⟨g, 0, none⟩ ∧ S2.P.length ≤ cp ∧ cp ≤ 9223372036854775807 ∧ w.cell? ⟨g, k * 4, none⟩ = some (.int .i64 S2.P[k].pid) := by
  obtain ⟨X, Y, -, ⟨vp, vl, hD, -⟩, -⟩ := h
  obtain ⟨ap, cp, rfl⟩ := Own.form hD.row
  refine ⟨ap, cp, hD.box.cell (j := 0) rfl, fun k hk => ?_⟩
  obtain ⟨g, n, cap, e, hn, -, h1, h2, -, -, -, -, -, -, -, h3, -⟩ := hD.opened hk
  simp only [Value.slice.injEq] at e
  obtain ⟨rfl, -, rfl⟩ := e
  exact ⟨g, rfl, by omega, h2, h3⟩
theorem map_get {α β : Type} (f : α → β) (l : List α) (k : Nat) (h : k < l.length) : (l.map f)[k]'(by rw [List.length_map]; exact h) = f l[k] := by rw [List.getElem_map]
def lds (P : List Pr) : List Nat := P.map fun x => x.load
theorem lds_sum (P : List Pr) : sv (lds P) = sumV P := by unfold sv lds sumV; rw [List.map_map]; rfl
/-- Compared with noughts and ones. -/
theorem num_of {x : Nat} (h : x ≤ 9218868437227405312) : isNan x = false := decide_eq_false (by omega)
theorem key_of {x : Nat} (h : x ≤ 9218868437227405312) : key x = (x : Int) := by unfold key; rw [if_pos (by omega)]
theorem cmp_ge {x c : Nat} (hx : x ≤ 9218868437227405312) (hc : c ≤ 9218868437227405312) (h : c ≤ x) : (FloatKind.f64.format.order x c == some .gt || FloatKind.f64.format.order x c == some .eq) = true := by
  show (D.order x c == some .gt || D.order x c == some .eq) = true
  rw [gt_key x c (by omega) (by omega) (num_of hx) (num_of hc), eq_key x c (by omega) (by omega) (num_of hx) (num_of hc), key_of hx, key_of hc]
  simp only [Bool.or_eq_true, decide_eq_true_eq]
  omega
theorem cmp_le {x c : Nat} (hx : x ≤ 9218868437227405312) (hc : c ≤ 9218868437227405312) (h : x ≤ c) : (FloatKind.f64.format.order x c == some .lt || FloatKind.f64.format.order x c == some .eq) = true := by
  show (D.order x c == some .lt || D.order x c == some .eq) = true
  rw [lt_key x c (by omega) (by omega) (num_of hx) (num_of hc), eq_key x c (by omega) (by omega) (num_of hx) (num_of hc), key_of hx, key_of hc]
  simp only [Bool.or_eq_true, decide_eq_true_eq]
  omega
theorem cmp_gt {x c : Nat} (hx : x ≤ 9218868437227405312) (hc : c ≤ 9218868437227405312) (h : c < x) : (FloatKind.f64.format.order x c == some .gt) = true := by
  show (D.order x c == some .gt) = true
  rw [gt_key x c (by omega) (by omega) (num_of hx) (num_of hc), key_of hx, key_of hc]
  simp only [decide_eq_true_eq]
  omega
theorem cmp_lt {x c : Nat} (hx : x ≤ 9218868437227405312) (hc : c ≤ 9218868437227405312) (h : x < c) : (FloatKind.f64.format.order x c == some .lt) = true := by
  show (D.order x c == some .lt) = true
  rw [lt_key x c (by omega) (by omega) (num_of hx) (num_of hc), key_of hx, key_of hc]
  simp only [decide_eq_true_eq]
  omega
theorem add_run {x y : Nat} (hx : x < 9218868437227405312) (hy : y < 9218868437227405312) (w : World) : (binOp .add 28 (.float .f64 x) (.float .f64 y)).run Try.prog w = .ok (.float .f64 (ad x y)) w :=
  run_float_arith w .add 28 .f64 x y (ad x y) (by show D.add x y = _; rw [add_N hx hy, ad_N hx hy])
section
variable {c : Nat} {S : Qs}
theorem load_at (h : Good c S) {k : Nat} (hk : k < S.P.length) : loadR S S.P[k].pid = (S.P[k].load, 0) := by
  unfold loadR
  rw [asc_get h.asc (List.getElem_mem hk)]
/-- A share, by the process itself. -/
theorem shr_of (h : Good c S) (hc : c ≤ 900) {x : Pr} (hx : x ∈ S.P) (hon : x.on = true) : shrR S x.pid = (quo (wt x.nice) (sums (wl S.P)), 0) := by
  have hg := asc_get h.asc hx
  have hi := mem_rpid h hg hon
  have hne : wl S.P ≠ [] := by
    intro e
    have h1 : (wl S.P).length = (rpid S.P).length := by rw [wl_len, rpid_len]
    rw [e] at h1
    simp at h1
    omega
  have hok : okW (wl S.P) = true := okW_of hne (by rw [wl_len]; have := rl_len S.P; have := h.len; omega) (wl_range h.nice)
  unfold shrR
  rw [hg]
  simp only [hon, if_true]
  unfold shareR
  rw [if_pos ⟨hok, by omega, by rw [wl_len, ← rpid_len]; omega⟩]
  obtain ⟨i, hie⟩ : ∃ i, idx (rpid S.P) x.pid = i := ⟨_, rfl⟩
  rw [hie] at hi ⊢
  have hri : (rpid S.P)[i] = x.pid := by
    have := List.findIdx_getElem (p := fun q => decide (q = x.pid)) (xs := rpid S.P) (w := by show idx (rpid S.P) x.pid < _; rw [hie]; exact hi)
    have h2 := of_decide_eq_true this
    simp only [show (rpid S.P).findIdx (fun q => decide (q = x.pid)) = i from hie] at h2
    exact h2
  have hil : i < (rl S.P).length := by rw [← rpid_len]; exact hi
  have hwl : (wl S.P)[((i : Nat) : Int).toNat]?.getD 0 = wt x.nice := by
    rw [Int.toNat_natCast]
    have h3 : (rl S.P)[i].pid = x.pid := by rw [← hri]; exact (map_get (fun x : Pr => x.pid) (rl S.P) i hil).symm
    have h4 : (rl S.P)[i] ∈ S.P := (List.mem_filter.1 (List.getElem_mem hil)).1
    have h5 := asc_get h.asc h4
    rw [h3, hg] at h5
    have h6 : x = (rl S.P)[i] := Option.some.inj h5
    rw [List.getElem?_eq_getElem (by rw [wl_len]; exact hil)]
    rw [Option.getD_some]
    have h7 : (wl S.P)[i]'(by rw [wl_len]; exact hil) = wt (rl S.P)[i].nice := map_get (fun x : Pr => wt x.nice) (rl S.P) i hil
    rw [h7, ← h6]
  rw [hwl]
def shs (S : Qs) : List Nat := (ready S).map fun p => (shrR S p).1
theorem shs_perm (h : Good c S) (hc : c ≤ 900) : (shs S).Perm ((wl S.P).map fun x => quo x (sums (wl S.P))) := by
  have hrn : (rpid S.P).Nodup := by
    unfold rpid
    have h1 : (rl S.P).Pairwise fun a b => a.pid < b.pid := List.Pairwise.sublist List.filter_sublist h.asc
    unfold List.Nodup
    rw [List.pairwise_map]
    exact h1.imp (fun {a b} hab e => by omega)
  have hp : (ready S).Perm (rpid S.P) := (List.perm_ext_iff_of_nodup (ready_nd h) hrn).2 fun q => by
    rw [ready_iff h]
    unfold rpid rl
    constructor
    · rintro ⟨x, hx, hon⟩
      obtain ⟨g1, g2⟩ := get_some hx
      exact List.mem_map.2 ⟨x, List.mem_filter.2 ⟨g1, hon⟩, g2⟩
    · intro hq
      obtain ⟨x, hx, rfl⟩ := List.mem_map.1 hq
      obtain ⟨g1, g2⟩ := List.mem_filter.1 hx
      exact ⟨x, asc_get h.asc g1, g2⟩
  have he : ((rpid S.P).map fun p => (shrR S p).1) = (wl S.P).map fun x => quo x (sums (wl S.P)) := by
    unfold rpid
    have key : ∀ x ∈ rl S.P, (shrR S x.pid).1 = quo (wt x.nice) (sums (wl S.P)) := fun x hx => by
      obtain ⟨g1, g2⟩ := List.mem_filter.1 hx
      rw [shr_of h hc g1 g2]
    show _ = ((rl S.P).map fun x => wt x.nice).map _
    rw [List.map_map, List.map_map]
    exact List.map_congr_left fun x hx => key x hx
  unfold shs
  rw [← he]
  exact hp.map _
theorem wt_low : ∀ k : Nat, k < 40 → p2 1000 ≤ wt ((k : Int) - 20) := by decide +kernel
theorem wl_between (h : Good c S) : ∀ x ∈ wl S.P, p2 1000 ≤ x ∧ x ≤ p2 1039 := by
  intro x hx
  have h1 := (wl_range h.nice x hx).2
  unfold wl rl at hx
  rw [List.mem_map] at hx
  obtain ⟨y, hy, rfl⟩ := hx
  have hn := h.nice y (List.mem_filter.1 hy).1
  have := wt_low (y.nice + 20).toNat (by omega)
  rw [show (((y.nice + 20).toNat : Nat) : Int) - 20 = y.nice by omega] at this
  exact ⟨this, h1⟩
/-- All that the law asks of loads. -/
theorem loads_facts (h : Good c S) (hc : c ≤ 100) : (lds S.P).foldl ad 0 ≤ hiB ∧ ∀ k, ((lds S.P).take k).foldl ad 0 < 9218868437227405312 := by
  refine loads_sum (by unfold lds; rw [List.length_map]; have := h.len; omega) (fun x hx => ?_) (by rw [lds_sum]; exact h.sum (by omega))
  unfold lds at hx
  obtain ⟨y, hy, rfl⟩ := List.mem_map.1 hx
  exact h.load y hy
/-- All that the law asks of shares. -/
theorem shares_facts (h : Good c S) (hc : c ≤ 100) (hne : ready S ≠ []) : loB < (shs S).foldl ad 0 ∧ (shs S).foldl ad 0 < hiB ∧ (∀ k, ((shs S).take k).foldl ad 0 < 9218868437227405312) ∧ ∀ x ∈ shs S, 0 < x ∧ x ≤ one := by
  have hp := shs_perm h (by omega)
  have hl : (wl S.P).length = (ready S).length := by
    have := hp.length_eq
    unfold shs at this
    rw [List.length_map, List.length_map] at this
    exact this.symm
  refine shares_sum (fun e => ?_) (by rw [wl_len]; have := rl_len S.P; have := h.len; omega) (wl_between h) hp
  rw [e] at hl
  exact hne (List.eq_nil_of_length_eq_zero hl.symm)
theorem shr_two (h : Good c S) (hc : c ≤ 100) {p : Int} (hp : p ∈ ready S) : (shrR S p).2 = 0 := by
  obtain ⟨x, hx, hon⟩ := (ready_iff h).1 hp
  obtain ⟨g1, rfl⟩ := get_some hx
  rw [shr_of h (by omega) g1 hon]
end
theorem fold_take {l : List Nat} {k : Nat} (hk : k < l.length) : (l.take (k + 1)).foldl ad 0 = ad ((l.take k).foldl ad 0) l[k] := by
  rw [List.take_succ_eq_append_getElem hk, List.foldl_append]
  rfl
end SD
open FM

set_option maxRecDepth 100000 in
set_option maxHeartbeats 8000000 in
theorem SchedLoads_walk (o0 : Option Addr) (n0 c0 : Nat) (l0 : List OpT15) (w : World) (w0 : OS15 w o0 n0 c0 l0) :
    Calls Try.prog 3 #[.slice o0 n0 c0] w fun e w' => e = .returned (.bool true) ∧ Below w.heap.size w w' := by
  have cS := W_hid (shown15 w)
  go_enter Try.func3, Try.ntmps3
  go_wp2_with fail
  refine cS.out.mono ?_
  rintro e w1 ⟨rfl, b1⟩
  have cR := W_hid (ran15 o0 n0 c0 l0 w1 (os_keep w0 b1))
  have hb1 := W_hid b1
  clear cS w0 b1
  go_wp2_with fail
  refine cR.out.mono ?_
  rintro e w2 ⟨qb, rb, rfl, S, hJ2⟩
  have hG := W_hid hJ2.good
  have hlf := W_hid (loads_facts hG.out (Nat.le_refl _))
  have hJ2 := W_hid hJ2
  obtain ⟨N, hN⟩ : ∃ N, S.P.length = N := ⟨_, rfl⟩
  have hNb : N ≤ 100 := by rw [← hN]; exact hG.out.len
  have hll : Hid ((lds S.P).length = N) := W_hid (by unfold lds; rw [List.length_map]; exact hN)
  have hN := W_hid hN
  clear cR
  go_wp2_with fail
  go_loopw [6, 7, 8, 9] (fun u i _ _ wr => ∃ k : Nat, k ≤ N ∧ i = .int .i64 (k : Int) ∧ u = .float .f64 (((lds S.P).take k).foldl ad 0) ∧ Hid (J w1.heap.size w1 qb rb 100 S S (fun _ => False) wr)) (fun _ i _ _ _ => N - (intOf i).toNat)
  case atStart => exact ⟨0, Nat.zero_le _, rfl, rfl, hJ2⟩
  case round =>
    clear hJ2
    obtain ⟨k, hk, rfl, rfl, hJ⟩ := hrel
    obtain ⟨ap, cp, hc0, hat⟩ := hJ.out.docP
    rw [hN.out] at hc0
    have hfin := hlf.out.2 k
    by_cases hlt : k < N
    · have hkl : k < S.P.length := by rw [hN.out]; exact hlt
      have hkl2 : k < (lds S.P).length := by rw [hll.out]; exact hlt
      obtain ⟨g, rfl, q1, q2, e0⟩ := hat k hkl
      rw [hN.out] at q1
      have hst := W_hid (fold_take hkl2)
      have hxe : (lds S.P)[k] = (S.P[k]'hkl).load := map_get (fun x : Pr => x.load) S.P k hkl
      have hle : (lds S.P)[k] ≤ one := by rw [hxe]; exact hG.out.load _ (List.getElem_mem hkl)
      have hld := load_at hG.out hkl
      rw [← hxe] at hld
      obtain ⟨pid, hpid⟩ : ∃ pid, (S.P[k]'hkl).pid = pid := ⟨_, rfl⟩
      rw [hpid] at e0 hld
      have cL := J.callP (f := 6) (args := #[ptr qb, .int .i64 pid]) (r := .returned (.tuple #[.float .f64 (loadR S pid).1, .int .i64 (loadR S pid).2])) (S' := S) (c' := 100) (Nat.le_refl _) (fun h => h) (fun X hT hG => Load_any hT hG (by omega) pid) hJ.out
      rw [hld] at cL
      obtain ⟨x, hx⟩ : ∃ x, (lds S.P)[k] = x := ⟨_, rfl⟩
      rw [hx] at cL hle hst
      obtain ⟨s, hs⟩ : ∃ s, ((lds S.P).take k).foldl ad 0 = s := ⟨_, rfl⟩
      rw [hs] at hst hfin ⊢
      have h1 : one < 9218868437227405312 := by decide
      have f1 := cmp_ge (x := x) (c := 0) (by omega) (by decide) (Nat.zero_le _)
      have f2 := cmp_le (x := x) (c := one) (by omega) (by decide) hle
      unfold one at f2
      have f3 := add_run hfin (show x < 9218868437227405312 by omega)
      have cL := W_hid cL
      clear hJ hat hs hx hld hxe hpid hle hfin hkl hkl2 h1
      go_wp2_with fail
      refine cL.out.mono ?_
      rintro e w4 ⟨rfl, hJ4, -⟩
      have hJ4 := W_hid hJ4
      clear cL
      go_wp2_with fail
      go_roundw
      case rel => exact ⟨k + 1, by omega, by go_num, by rw [hst.out], hJ4⟩
      case measure => simp [intOf]; omega
    · obtain rfl : k = N := by omega
      have htk : (lds S.P).take k = lds S.P := by rw [← hll.out, List.take_length]
      rw [htk]
      have hhi := hlf.out.1
      obtain ⟨L, hL⟩ : ∃ L, (lds S.P).foldl ad 0 = L := ⟨_, rfl⟩
      rw [hL] at hhi ⊢
      have f0 := cmp_le (x := L) (c := hiB) (by have : hiB ≤ 9218868437227405312 := (by decide); omega) (by decide) hhi
      unfold hiB at f0
      have cA := W_hid (hJ.out.rdy (by omega))
      clear hlt htk hL hhi hJ hat hfin hlf
      go_wp2_with fail
      refine cA.out.mono ?_
      rintro e w3 ⟨v, rfl, ho3, -, hJ3, -⟩
      obtain ⟨av, cv, rfl⟩ := Own.form ho3
      obtain ⟨n, hn⟩ : ∃ n, (ready S).length = n := ⟨_, rfl⟩
      have hnb : n ≤ 100 := by rw [← hn, ready_len hG.out]; exact hG.out.llen
      have hsl : Hid ((shs S).length = n) := W_hid (by unfold shs; rw [List.length_map]; exact hn)
      rw [hn] at ho3 hJ3 ⊢
      obtain ⟨bs, hbs⟩ : ∃ bs, bs = wr.heap.size := ⟨_, rfl⟩
      rw [← hbs] at ho3
      have ho3 := W_hid ho3
      have hJ3 := W_hid hJ3
      have hn := W_hid hn
      clear cA hbs
      go_wp2_with fail
      go_loopw [10, 12, 13, 14] (fun u i _ _ wx => ∃ k : Nat, k ≤ n ∧ i = .int .i64 (k : Int) ∧ u = .float .f64 (((shs S).take k).foldl ad 0) ∧ Hid (J w1.heap.size w1 qb rb 100 S S (fun k_1 => False ∨ (Value.slice av n cv).ownBlock = some k_1) wx) ∧ Hid (wx.ownsRow bs TI 1 (.slice av n cv) n (icl (ready S)))) (fun _ i _ _ _ => n - (intOf i).toNat)
      case atStart => exact ⟨0, Nat.zero_le _, rfl, rfl, hJ3, ho3⟩
      case round =>
        clear hJ3 ho3
        obtain ⟨j, hj, rfl, rfl, hJ, ho⟩ := hrel
        by_cases hlt : j < n
        · have hjl : j < (ready S).length := by rw [hn.out]; exact hlt
          have hjl2 : j < (shs S).length := by rw [hsl.out]; exact hlt
          have hsf := shares_facts hG.out (Nat.le_refl _) (fun e => by rw [e] at hjl; exact absurd hjl (Nat.not_lt_zero _))
          obtain ⟨av', cv', hv', -, hat⟩ := list_at ho.out
          simp only [Value.slice.injEq, true_and] at hv'
          obtain ⟨rfl, rfl⟩ := hv'
          obtain ⟨g, rfl, e0, q1, q2, -⟩ := hat j hjl
          have hst := W_hid (fold_take hjl2)
          have hxe : (shs S)[j] = (shrR S (ready S)[j]).1 := map_get (fun p => (shrR S p).1) (ready S) j hjl
          have hx2 := hsf.2.2.2 _ (List.getElem_mem hjl2)
          have hfin := hsf.2.2.1 j
          have h2 := shr_two hG.out (Nat.le_refl _) (List.getElem_mem hjl)
          obtain ⟨pid, hpid⟩ : ∃ pid, (ready S)[j] = pid := ⟨_, rfl⟩
          rw [hpid] at e0 hxe h2
          have cL := J.callP (f := 8) (args := #[ptr qb, .int .i64 pid]) (r := .returned (.tuple #[.float .f64 (shrR S pid).1, .int .i64 (shrR S pid).2])) (S' := S) (c' := 100) (Nat.le_refl _) (fun h => h) (fun X hT hG => Share_any hT hG (by omega) pid) hJ.out
          rw [h2, ← hxe] at cL
          obtain ⟨x, hx⟩ : ∃ x, (shs S)[j] = x := ⟨_, rfl⟩
          rw [hx] at cL hx2 hst
          obtain ⟨s, hs⟩ : ∃ s, ((shs S).take j).foldl ad 0 = s := ⟨_, rfl⟩
          rw [hs] at hst hfin ⊢
          have h1 : one < 9218868437227405312 := by decide
          have f1 := cmp_gt (x := x) (c := 0) (by omega) (by decide) hx2.1
          have f2 := cmp_le (x := x) (c := one) (by omega) (by decide) hx2.2
          unfold one at f2
          have f3 := add_run hfin (show x < 9218868437227405312 by omega)
          have cL := W_hid cL
          clear hJ hat hs hx hxe hpid hx2 hfin hjl hjl2 h1 h2 hsf
          go_wp2_with fail
          refine cL.out.mono ?_
          rintro e w4 ⟨rfl, hJ4, hk4⟩
          have ho4 := W_hid (own_move ho.out fun q hq => hk4 q (.inr hq))
          have hJ4 := W_hid hJ4
          clear cL ho hk4
          go_wp2_with fail
          go_roundw
          case rel => exact ⟨j + 1, by omega, by go_num, by rw [hst.out], hJ4, ho4⟩
          case measure => simp [intOf]; omega
        · obtain rfl : j = n := by omega
          have htk : (shs S).take j = shs S := by rw [← hsl.out, List.take_length]
          rw [htk]
          by_cases hz : j = 0
          · subst hz
            clear htk hlt
            go_wp2_with fail
            go_ret
            exact ⟨rfl, hb1.out.trans (bel_mono hJ.out.bel hb1.out.size)⟩
          · have hsf := shares_facts hG.out (Nat.le_refl _) (fun e => hz (by rw [← hn.out, e]; rfl))
            obtain ⟨s, hs⟩ : ∃ s, (shs S).foldl ad 0 = s := ⟨_, rfl⟩
            rw [hs] at hsf ⊢
            have hh : hiB ≤ 9218868437227405312 := by decide
            have g1 := cmp_gt (x := s) (c := loB) (by have := hsf.2.1; omega) (by decide) hsf.1
            have g2 := cmp_lt (x := s) (c := hiB) (by have := hsf.2.1; omega) hh hsf.2.1
            unfold loB at g1
            unfold hiB at g2
            clear htk hlt hsf hs hh
            go_wp2_with fail
            go_ret
            exact ⟨rfl, hb1.out.trans (bel_mono hJ.out.bel hb1.out.size)⟩
set_option maxRecDepth 100000 in
theorem SchedLoads_lifted (os : Os) (started : os.Started) (H : Type) (enc : TypeId × Value → H) :
    ReturnsInHanded {} Try.checked os 3 .any (Rows.schedLoadsSpec.pre6 enc Try.prog Try.f3 Rows.schedLoadsRow.domain false) (Rows.schedLoadsSpec.post enc Try.prog Try.f3 false true false false) := by
  refine returnsInHanded_of_change (C := Try.checked) (by kernel_rfl) started (by kernel_rfl) Try.func3
    (ChangeSpec.witness6 (enc := enc) (C := Try.checked) false ⟨#[], #[.slice none 0 0], []⟩ 8 (by kernel_rfl) (by kernel_rfl) (by kernel_rfl) (by kernel_rfl)) ?_
  intro W base args ds gs before hval0 hW hcnd _
  have hval : ∀ (j : Nat) t v, Try.f3.params[j]? = some t → args[j]? = some v → Value.okWide Try.prog W .any base t v := hval0
  have hW' := hW
  obtain ⟨p, q, hA0, hV, rfl, hfz, hnd⟩ := hW
  have hA : DataW.TrodAll enc Try.prog W 0 (fun _ => true) true Try.f3.params.toList args.toList ds p := hA0
  rw [Try.params3] at hA hval
  obtain ⟨v0, vs0, d0, ds0, p0, q0, hargs, rfl, rfl, h0, r0⟩ := trodAll_cons hA
  obtain ⟨rfl, rfl, rfl⟩ := trodAll_nil r0
  obtain rfl : args = #[v0] := by cases args; simp_all
  obtain ⟨rfl, rfl⟩ := trodVars_none hV
  have k0 := h0
  have lt0 : ∀ x ∈ p0, x.block < W.heap.size := by obtain ⟨m, hm⟩ := k0; exact DataW.trod_lt m _ _ _ hm
  obtain ⟨o0, n0, c0, l0, rfl, w0⟩ := open_ops15 (hval 0 22 v0 rfl rfl) h0
  clear hA0 hval0
  refine (SchedLoads_walk o0 n0 c0 l0 W w0).mono fun e W' ⟨he, bel⟩ => ?_
  subst he
  exact ⟨_, rfl, _, _, _, [], _, [], hW', trodAll_mk1 (shut_bool Try.underlying4 _), (trodAll_cons_mk (Below.trod laidOut (by kernel_rfl) (of_decide_eq_true (by kernel_rfl)) k0 bel lt0) trodAll_mk0), rfl, bel.frame _, fun h => by cases h⟩

/-- The given statement of SchedLoads. -/
theorem SchedLoads_holds : Rows.SchedLoadsSaid :=
  OpenClaim.holds_of_wide 3 Try.f3 rfl rfl rfl rfl rfl rfl rfl ⟨rfl, rfl, rfl, rfl, rfl⟩ rfl rfl rfl rfl rfl (by kernel_rfl) Try.func3 (by kernel_rfl)
    (of_decide_eq_true (by kernel_rfl)) (by unfold Func.isWrapper; first | (rw [if_pos (by decide +kernel)]; kernel_rfl) | (rw [if_neg (by decide +kernel)]; exact ⟨rfl, rfl⟩))
    (fun os started H enc _ => SchedLoads_lifted os started H enc)

end Go.Proofs.Ytmikgkelmdgckaa

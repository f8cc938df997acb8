/- What a lot and a share want of floats: sums of weights are numbers, a lot is one of the list. -/
import Derived.Test.YtmikgkelmdgckaaSchWts
import Derived.Test.YtmikgkelmdgckaaShareChoose
import Derived.Test.YtmikgkelmdgckaaShareList
namespace Go.Proofs.Ytmikgkelmdgckaa
open Go.ChangeShapes Go.WideShapes Go.ChangeAt Go.RowKit
set_option linter.unusedVariables false
set_option linter.unusedSimpArgs false
set_option maxRecDepth 100000
namespace SD
open FM
theorem part_lot (p : Nat) (hp : p < 18446744073709551616) : ∃ (g1 g2 : Bool), (FloatKind.f64.format.order p 0 == some .gt || FloatKind.f64.format.order p 0 == some .eq) = g1 ∧ (FloatKind.f64.format.order p 4607182418800017408 == some .lt) = g2 ∧
    ((g1 = false ∧ partOK p = false) ∨ (g1 = true ∧ g2 = false ∧ partOK p = false) ∨ (g1 = true ∧ g2 = true ∧ partOK p = true)) := by
  refine ⟨_, _, rfl, rfl, ?_⟩
  show (((D.order p 0 == some .gt || D.order p 0 == some .eq) = false ∧ _) ∨ ((D.order p 0 == some .gt || D.order p 0 == some .eq) = true ∧ (D.order p 4607182418800017408 == some .lt) = false ∧ _) ∨ ((D.order p 0 == some .gt || D.order p 0 == some .eq) = true ∧ (D.order p 4607182418800017408 == some .lt) = true ∧ _))
  cases hn : isNan p with
  | true =>
    left
    rw [order_nan p 0 (.inl hn)]
    refine ⟨rfl, decide_eq_false ?_⟩
    rintro (h | rfl)
    · have hx : isNan p = false := decide_eq_false (by omega)
      rw [hx] at hn; cases hn
    · revert hn; decide
  | false =>
    have hkey := key_rank p hp hn
    have hr : rank p = if isNan p = true then 9218868437227405313 else if p < 9223372036854775808 then (p : Int) else -1 - ((p % 9223372036854775808 : Nat) : Int) := rfl
    rw [hn] at hr
    simp only [Bool.false_eq_true, if_false] at hr
    have h1 : key 4607182418800017408 = 4607182418800017408 := by decide
    have h0 : key 0 = 0 := by decide
    rw [gt_key p 0 hp (by decide) hn (by decide), eq_key p 0 hp (by decide) hn (by decide), lt_key p _ hp (by decide) hn (by decide), h1, h0]
    unfold partOK
    simp only [Bool.or_eq_true, Bool.or_eq_false_iff, decide_eq_true_eq, decide_eq_false_iff_not]
    split at hr <;> split at hkey <;> omega
def p2 (k : Nat) : Nat := (k + 1) * 4503599627370496
theorem V_p2 {k : Nat} (hk : k < 2046) : V (p2 k) = pw (52 + k) := by
  have hlt : p2 k < 9218868437227405312 := by unfold p2; omega
  obtain ⟨m, e, h1, h2, h3, h4, -⟩ := read_V hlt
  unfold p2 at h2
  have he : e = k := by
    rcases Nat.lt_or_ge 0 e with h0 | h0
    · have := h4 h0; omega
    · omega
  subst he
  have hm : m = 4503599627370496 := by omega
  rw [h1, hm, ← pw_52, pw_add]
  rfl
theorem ad_p2 {s x k : Nat} (hk : k < 2045) (hs : s ≤ p2 k) (hx : x ≤ p2 k) : ad s x ≤ p2 (k + 1) ∧ x ≤ ad s x ∧ s ≤ ad s x := by
  have hlt : p2 k < 9218868437227405312 := by unfold p2; omega
  have hs2 : s < 9218868437227405312 := by omega
  have hx2 : x < 9218868437227405312 := by omega
  have h1 := V_mono hlt hs
  have h2 := V_mono hlt hx
  have h3 : V (p2 (k + 1)) = V (p2 k) + V (p2 k) := by
    rw [V_p2 (show k < 2046 by omega), V_p2 (show k + 1 < 2046 by omega), show 52 + (k + 1) = (52 + k) + 1 by omega, pw_add]
    show pw (52 + k) * 2 = _
    omega
  have h4 : N (V (p2 (k + 1))) = p2 (k + 1) := N_V (by unfold p2; omega)
  rw [ad_N hs2 hx2]
  refine ⟨?_, ?_, ?_⟩
  · rw [← h4, h3]; exact N_mono (by omega)
  · have := N_mono (Nat.le_add_left (V x) (V s)); rwa [N_V hx2] at this
  · have := N_mono (Nat.le_add_right (V s) (V x)); rwa [N_V hs2] at this
theorem fold_p2 : ∀ (l : List Nat) (s k K : Nat), K ≤ k → k + l.length < 2045 → s ≤ p2 k → (∀ x ∈ l, x ≤ p2 K) → l.foldl ad s ≤ p2 (k + l.length) ∧ s ≤ l.foldl ad s
  | [], s, k, K, _, _, hs, _ => ⟨hs, Nat.le_refl _⟩
  | x :: l, s, k, K, hK, hl, hs, hx => by
    have hkk : p2 K ≤ p2 k := by unfold p2; omega
    obtain ⟨h1, -, h3⟩ := ad_p2 (by simp at hl; omega) hs (Nat.le_trans (hx x (by simp)) hkk)
    obtain ⟨h4, h5⟩ := fold_p2 l (ad s x) (k + 1) K (by omega) (by simp at hl; omega) h1 fun y hy => hx y (by simp [hy])
    rw [List.foldl_cons, List.length_cons, show k + (l.length + 1) = k + 1 + l.length by omega]
    exact ⟨h4, Nat.le_trans h3 h5⟩
theorem okW_of {l : List Nat} (h0 : l ≠ []) (hl : l.length ≤ 1000) (hx : ∀ x ∈ l, 0 < x ∧ x ≤ p2 1039) : okW l = true := by
  unfold okW
  rw [Bool.and_eq_true, List.all_eq_true]
  have hinf : p2 1039 < 9218868437227405312 := by unfold p2; omega
  refine ⟨fun x hm => decide_eq_true ⟨(hx x hm).1, by have := (hx x hm).2; omega⟩, decide_eq_true ?_⟩
  obtain ⟨h1, -⟩ := fold_p2 l 0 1039 1039 (Nat.le_refl _) (by omega) (Nat.zero_le _) fun x hm => (hx x hm).2
  have hb : p2 (1039 + l.length) < 9218868437227405312 := by unfold p2; omega
  refine ⟨?_, Nat.lt_of_le_of_lt h1 hb⟩
  cases l with
  | nil => exact absurd rfl h0
  | cons x t =>
    show 0 < (x :: t).foldl ad 0
    rw [List.foldl_cons]
    obtain ⟨h2, h3, -⟩ := ad_p2 (s := 0) (x := x) (k := 1039) (by omega) (Nat.zero_le _) (hx x (by simp)).2
    obtain ⟨-, h5⟩ := fold_p2 t (ad 0 x) 1040 1039 (by omega) (by simp at hl; omega) h2 fun y hy => (hx y (by simp [hy])).2
    have := (hx x (by simp)).1
    omega
theorem wt_in : ∀ k : Nat, k < 40 → 0 < wt ((k : Int) - 20) ∧ wt ((k : Int) - 20) ≤ p2 1039 := by decide +kernel
theorem wt_range {n : Int} (h : -20 ≤ n ∧ n ≤ 19) : 0 < wt n ∧ wt n ≤ p2 1039 := by
  have := wt_in (n + 20).toNat (by omega)
  rwa [show (((n + 20).toNat : Nat) : Int) - 20 = n by omega] at this
theorem wl_range {P : List Pr} (h : ∀ x ∈ P, -20 ≤ x.nice ∧ x.nice ≤ 19) : ∀ x ∈ wl P, 0 < x ∧ x ≤ p2 1039 := by
  intro x hx
  unfold wl rl at hx
  rw [List.mem_map] at hx
  obtain ⟨y, hy, rfl⟩ := hx
  exact wt_range (h y (List.mem_filter.1 hy).1)
theorem pickF_lt {b : Nat} {l : List Nat} (h0 : l ≠ []) : ∀ (f i : Nat), i + f ≤ l.length → pickF b l f i < l.length
  | 0, i, h => by
    have : 0 < l.length := List.length_pos_iff.2 h0
    unfold pickF; omega
  | f + 1, i, h => by
    unfold pickF
    split
    · omega
    · exact pickF_lt h0 f (i + 1) (by omega)
theorem pick_lt {b : Nat} {l : List Nat} (h0 : l ≠ []) : pick b l < l.length := pickF_lt h0 _ _ (by omega)
theorem fsl_of {w : World} {base n : Nat} {v : Value} {l : List Nat} (h : w.ownsRow base TF 1 v n (fcel l)) (hl : l.length = n) (hb : ∀ b ∈ l, b < 18446744073709551616) : ∃ ao cap, v = .slice ao n cap ∧ Fsl w ao n cap l := by
  rcases h.2 with ⟨rfl, h0⟩ | ⟨g, cap, cur, rfl, hb2, hg, h1, h2, h3, h4⟩
  · subst h0
    exact ⟨none, 0, rfl, hl, Nat.le_refl _, Nat.zero_le _, fun _ => rfl, hb, fun a e => by cases e⟩
  · refine ⟨_, cap, rfl, hl, h1, h2, fun e => (by cases e), hb, fun a e j u hu => ?_⟩
    cases e
    exact h.cells (g := g) rfl j u hu
end SD
end Go.Proofs.Ytmikgkelmdgckaa

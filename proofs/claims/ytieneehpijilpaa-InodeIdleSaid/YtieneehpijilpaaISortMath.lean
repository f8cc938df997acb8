/- Heaps, partitions, ranges that are left: plain, over rows of numbers that are turned by swaps. -/
import Derived.Test.YtieneehpijilpaaISort1
namespace Go.Proofs.Ytieneehpijilpaa
set_option linter.unusedVariables false
set_option linter.unusedSimpArgs false
namespace IS
namespace SO

theorem swp_l (X : Nat → Nat) (i j : Nat) : swp X i j i = X j := by unfold swp; rw [if_pos rfl]
theorem swp_r (X : Nat → Nat) (i j : Nat) : swp X i j j = X i := by
  unfold swp
  by_cases h : j = i
  · rw [if_pos h, h]
  · rw [if_neg h, if_pos rfl]
theorem swp_o (X : Nat → Nat) {i j p : Nat} (h1 : p ≠ i) (h2 : p ≠ j) : swp X i j p = X p := by unfold swp; rw [if_neg h1, if_neg h2]

/-! ### Heaps -/
/-- From place lo of a heap on (which begins at f and has hi places) no child is greater than its parent; but for r's children. -/
def HeapX (Y : Nat → Nat) (f lo hi r : Nat) : Prop := ∀ i c, lo ≤ i → i ≠ r → (c = 2 * i + 1 ∨ c = 2 * i + 2) → c < hi → Y (f + c) ≤ Y (f + i)
def Heap (Y : Nat → Nat) (f lo hi : Nat) : Prop := ∀ i c, lo ≤ i → (c = 2 * i + 1 ∨ c = 2 * i + 2) → c < hi → Y (f + c) ≤ Y (f + i)
/-- r's children are not greater than r's parent. -/
def Grand (Y : Nat → Nat) (f lo hi r : Nat) : Prop := ∀ p c, lo ≤ p → (r = 2 * p + 1 ∨ r = 2 * p + 2) → (c = 2 * r + 1 ∨ c = 2 * r + 2) → c < hi → Y (f + c) ≤ Y (f + p)
theorem heap_begin {Y : Nat → Nat} {f lo hi : Nat} (h : Heap Y f (lo + 1) hi) : HeapX Y f lo hi lo ∧ Grand Y f lo hi lo :=
  ⟨fun i c h1 h2 h3 h4 => h i c (by omega) h3 h4, fun p c h1 h2 => by omega⟩
theorem heap_leaf {Y : Nat → Nat} {f lo hi r : Nat} (h : HeapX Y f lo hi r) (hr : hi ≤ 2 * r + 1) : Heap Y f lo hi := fun i c h1 h2 h3 => by
  by_cases e : i = r
  · subst e; omega
  · exact h i c h1 e h2 h3
theorem heap_stop {Y : Nat → Nat} {f lo hi r c : Nat} (h : HeapX Y f lo hi r) (hc : c = 2 * r + 1 ∨ c = 2 * r + 2) (hm : ∀ d, (d = 2 * r + 1 ∨ d = 2 * r + 2) → d < hi → Y (f + d) ≤ Y (f + c)) (hle : Y (f + c) ≤ Y (f + r)) : Heap Y f lo hi := fun i d h1 h2 h3 => by
  by_cases e : i = r
  · subst e
    exact Nat.le_trans (hm d h2 h3) hle
  · exact h i d h1 e h2 h3
theorem heap_down {Y : Nat → Nat} {f lo hi r c : Nat} (h : HeapX Y f lo hi r) (g : Grand Y f lo hi r) (hlo : lo ≤ r) (hc : c = 2 * r + 1 ∨ c = 2 * r + 2) (hch : c < hi) (hm : ∀ d, (d = 2 * r + 1 ∨ d = 2 * r + 2) → d < hi → Y (f + d) ≤ Y (f + c)) (hlt : Y (f + r) < Y (f + c)) :
    HeapX (swp Y (f + r) (f + c)) f lo hi c ∧ Grand (swp Y (f + r) (f + c)) f lo hi c := by
  have hrc : r ≠ c := by omega
  refine ⟨fun i d h1 h2 h3 h4 => ?_, fun p d h1 h2 h3 h4 => ?_⟩
  · by_cases e : i = r
    · subst e
      rw [swp_l]
      by_cases e2 : d = c
      · subst e2; rw [swp_r]; omega
      · rw [swp_o _ (by omega) (by omega)]; exact hm d h3 h4
    · rw [swp_o (p := f + i) _ (by omega) (by omega)]
      by_cases e2 : d = r
      · subst e2
        rw [swp_l]
        exact g i c h1 h3 hc hch
      · rw [swp_o _ (by omega) (by omega)]
        exact h i d h1 e h3 h4
  · obtain rfl : p = r := by omega
    rw [swp_l, swp_o _ (by omega) (by omega)]
    exact h c d (by omega) (by omega) h3 h4
theorem heap_top {Y : Nat → Nat} {f hi : Nat} (h : Heap Y f 0 hi) : ∀ j, j < hi → Y (f + j) ≤ Y f := by
  intro j
  induction j using Nat.strongRecOn with
  | ind j ih =>
    intro hj
    by_cases e : j = 0
    · subst e; exact Nat.le_refl _
    · have h1 := h ((j - 1) / 2) j (Nat.zero_le _) (by omega) hj
      have h2 := ih ((j - 1) / 2) (by omega) (by omega)
      omega
theorem heap_pop {Y : Nat → Nat} {f i : Nat} (h : Heap Y f 0 (i + 1)) : Heap (swp Y f (f + i)) f 1 i := fun p c h1 h2 h3 => by
  rw [swp_o _ (by omega) (by omega), swp_o _ (by omega) (by omega)]
  exact h p c (Nat.zero_le _) h2 (by omega)
/-- From i on all is in order, and not less than what stands ahead. -/
def Tail (Y : Nat → Nat) (f i n : Nat) : Prop := ∀ p q, p < q → i ≤ q → q < n → Y (f + p) ≤ Y (f + q)
theorem tail_pop {Y : Nat → Nat} {f i n : Nat} (h : Heap Y f 0 (i + 1)) (t : Tail Y f (i + 1) n) (hi : i < n) : Tail (swp Y f (f + i)) f i n := fun p q h1 h2 h3 => by
  have ht := heap_top h
  by_cases e : q = i
  · subst e
    rw [swp_r]
    by_cases e2 : p = 0
    · subst e2
      rw [Nat.add_zero, swp_l]
      exact ht q (by omega)
    · rw [swp_o _ (by omega) (by omega)]; exact ht p (by omega)
  · rw [swp_o (p := f + q) _ (by omega) (by omega)]
    by_cases e2 : p = 0
    · subst e2
      rw [Nat.add_zero, swp_l]
      exact t i q (by omega) (by omega) h3
    · by_cases e3 : p = i
      · subst e3
        rw [swp_r]
        have := t 0 q (by omega) (by omega) h3
        rwa [Nat.add_zero] at this
      · rw [swp_o _ (by omega) (by omega)]
        exact t p q h1 (by omega) h3
theorem tail_sw {Y Z : Nat → Nat} {f i n : Nat} (t : Tail Y f i n) (s : Sw f (f + i) Y Z) : Tail Z f i n := fun p q h1 h2 h3 => by
  rw [s.out (f + q) (by omega)]
  by_cases e : p < i
  · exact s.all (P := fun v => v ≤ Y (f + q)) (fun r hr1 hr2 => by
      have := t (r - f) q (by omega) h2 h3
      rwa [show f + (r - f) = r by omega] at this) (f + p) (by omega) (by omega)
  · rw [s.out (f + p) (by omega)]
    exact t p q h1 h2 h3
theorem tail_up {Y : Nat → Nat} {f n : Nat} (t : Tail Y f 0 n) : Up Y f (f + n) := fun p q h1 h2 h3 => by
  have := t (p - f) (q - f) (by omega) (Nat.zero_le _) (by omega)
  rwa [show f + (p - f) = p by omega, show f + (q - f) = q by omega] at this

/-! ### What is left of a range -/
/-- What stands ahead of a range is not greater than anything in it. -/
def Bel (Y : Nat → Nat) (a b : Nat) : Prop := a = 0 ∨ ∀ p, a ≤ p → p < b → Y (a - 1) ≤ Y p
theorem bel_sw {Y Z : Nat → Nat} {a b : Nat} (h : Bel Y a b) (s : Sw a b Y Z) : Bel Z a b := by
  rcases h with h | h
  · exact .inl h
  · by_cases e : a = 0
    · exact .inl e
    · refine .inr fun p h1 h2 => ?_
      rw [s.out (a - 1) (by omega)]
      exact s.all (P := fun v => Y (a - 1) ≤ v) h p h1 h2
theorem bel_left {Y : Nat → Nat} {a b m : Nat} (h : Bel Y a b) (hm : m ≤ b) : Bel Y a m := by
  rcases h with h | h
  · exact .inl h
  · exact .inr fun p h1 h2 => h p h1 (by omega)
/-- All is in order but for what is left. -/
def Left (Y : Nat → Nat) (a b a' b' : Nat) : Prop := ∀ p q, a ≤ p → p < q → q < b → (p < a' ∨ b' ≤ p ∨ q < a' ∨ b' ≤ q) → Y p ≤ Y q
theorem left_begin (Y : Nat → Nat) (a b : Nat) : Left Y a b a b := fun p q h1 h2 h3 h4 => by omega
theorem left_sw {Y Z : Nat → Nat} {a b a' b' : Nat} (h : Left Y a b a' b') (s : Sw a' b' Y Z) (ha : a ≤ a') (hb : b' ≤ b) : Left Z a b a' b' := fun p q h1 h2 h3 h4 => by
  by_cases e1 : a' ≤ p ∧ p < b'
  · rw [s.out q (by omega)]
    exact s.all (P := fun v => v ≤ Y q) (fun r hr1 hr2 => h r q (by omega) (by omega) h3 (by omega)) p e1.1 e1.2
  · rw [s.out p (by omega)]
    by_cases e2 : a' ≤ q ∧ q < b'
    · exact s.all (P := fun v => Y p ≤ v) (fun r hr1 hr2 => h p r h1 (by omega) (by omega) (by omega)) q e2.1 e2.2
    · rw [s.out q (by omega)]
      exact h p q h1 h2 h3 h4
theorem left_done {Y : Nat → Nat} {a b a' b' : Nat} (h : Left Y a b a' b') (u : Up Y a' b') : Up Y a b := fun p q h1 h2 h3 => by
  by_cases e : a' ≤ p ∧ q < b'
  · exact u p q e.1 h2 e.2
  · exact h p q h1 h2 h3 (by omega)
/-- Parted at m. -/
def Parted (Y : Nat → Nat) (a b m : Nat) : Prop := (∀ p, a ≤ p → p < m → Y p ≤ Y m) ∧ ∀ p, m < p → p < b → Y m ≤ Y p
theorem parted_left {Y Z : Nat → Nat} {a b m : Nat} (h : Parted Y a b m) (s : Sw a m Y Z) (hm : m < b) : Parted Z a b m :=
  ⟨fun p h1 h2 => by
    rw [s.out m (by omega)]
    exact s.all (P := fun v => v ≤ Y m) h.1 p h1 h2, fun p h1 h2 => by
    rw [s.out m (by omega), s.out p (by omega)]
    exact h.2 p h1 h2⟩
theorem parted_right {Y Z : Nat → Nat} {a b m : Nat} (h : Parted Y a b m) (s : Sw (m + 1) b Y Z) : Parted Z a b m :=
  ⟨fun p h1 h2 => by
    rw [s.out m (by omega), s.out p (by omega)]
    exact h.1 p h1 h2, fun p h1 h2 => by
    rw [s.out m (by omega)]
    exact s.all (P := fun v => Y m ≤ v) (fun r hr1 hr2 => h.2 r (by omega) hr2) p (by omega) h2⟩
theorem left_lower {Y : Nat → Nat} {a b a' b' m : Nat} (h : Left Y a b a' b') (k : Parted Y a' b' m) (hm : a' ≤ m) (hmb : m < b') (u : Up Y a' m) : Left Y a b (m + 1) b' := fun p q h1 h2 h3 h4 => by
  by_cases e : a' ≤ p ∧ q < b'
  · by_cases e1 : q < m
    · exact u p q e.1 h2 e1
    · by_cases e2 : q = m
      · subst e2; exact k.1 p e.1 h2
      · have hq := k.2 q (by omega) e.2
        by_cases e3 : p = m
        · subst e3; exact hq
        · have hp := k.1 p e.1 (by omega)
          omega
  · exact h p q h1 h2 h3 (by omega)
theorem left_upper {Y : Nat → Nat} {a b a' b' m : Nat} (h : Left Y a b a' b') (k : Parted Y a' b' m) (hm : a' ≤ m) (hmb : m < b') (u : Up Y (m + 1) b') : Left Y a b a' m := fun p q h1 h2 h3 h4 => by
  by_cases e : a' ≤ p ∧ q < b'
  · by_cases e1 : m < p
    · exact u p q e1 h2 e.2
    · by_cases e2 : p = m
      · subst e2; exact k.2 q h2 e.2
      · have hp := k.1 p e.1 (by omega)
        by_cases e3 : q = m
        · subst e3; exact hp
        · have hq := k.2 q (by omega) e.2
          omega
  · exact h p q h1 h2 h3 (by omega)
theorem bel_right {Y : Nat → Nat} {a b m : Nat} (k : Parted Y a b m) : Bel Y (m + 1) b := .inr fun p h1 h2 => by
  rw [Nat.add_sub_cancel]
  exact k.2 p (by omega) h2

/-! ### The shifts -/
/-- In order from a up to b. -/
theorem up_next {Y : Nat → Nat} {a i : Nat} (h : Up Y a i) (ha : a < i) (hle : Y (i - 1) ≤ Y i) : Up Y a (i + 1) := fun p q h1 h2 h3 => by
  by_cases e : q = i
  · subst e
    by_cases e2 : p = q - 1
    · rw [e2]; exact hle
    · have := h p (q - 1) h1 (by omega) (by omega)
      omega
  · exact h p q h1 h2 (by omega)
theorem up_one (Y : Nat → Nat) (a : Nat) : Up Y a (a + 1) := fun p q h1 h2 h3 => by omega

/-! ### The parting -/
/-- The row while it's parted: the pivot at a, less ones up to i, the others behind j. -/
def Mid (Y : Nat → Nat) (a b i j : Nat) : Prop := (∀ p, a < p → p < i → Y p < Y a) ∧ ∀ p, j < p → p < b → Y a ≤ Y p
theorem mid_i {Y : Nat → Nat} {a b i j : Nat} (h : Mid Y a b i j) (hlt : Y i < Y a) : Mid Y a b (i + 1) j := ⟨fun p h1 h2 => by
  by_cases e : p = i
  · subst e; exact hlt
  · exact h.1 p h1 (by omega), h.2⟩
theorem mid_j {Y : Nat → Nat} {a b i j : Nat} (h : Mid Y a b i (j + 1)) (hle : Y a ≤ Y (j + 1)) : Mid Y a b i j := ⟨h.1, fun p h1 h2 => by
  by_cases e : p = j + 1
  · subst e; exact hle
  · exact h.2 p (by omega) h2⟩
theorem mid_swap {Y : Nat → Nat} {a b i j : Nat} (h : Mid Y a b i j) (ha : a < i) (hij : i < j) (hi : Y a ≤ Y i) (hj : Y j < Y a) : Mid (swp Y i j) a b (i + 1) (j - 1) := by
  refine ⟨fun p h1 h2 => ?_, fun p h1 h2 => ?_⟩
  · rw [swp_o (p := a) _ (by omega) (by omega)]
    by_cases e : p = i
    · subst e; rw [swp_l]; exact hj
    · rw [swp_o _ e (by omega)]; exact h.1 p h1 (by omega)
  · rw [swp_o (p := a) _ (by omega) (by omega)]
    by_cases e : p = j
    · subst e; rw [swp_r]; exact hi
    · rw [swp_o _ (by omega) e]; exact h.2 p (by omega) h2
theorem mid_done {Y : Nat → Nat} {a b i j : Nat} (h : Mid Y a b i j) (ha : a ≤ j) (hij : j < i) : Parted (swp Y j a) a b j := by
  refine ⟨fun p h1 h2 => ?_, fun p h1 h2 => ?_⟩
  · rw [swp_l]
    by_cases e : p = a
    · subst e; rw [swp_r]
      by_cases e2 : j = p
      · omega
      · exact Nat.le_of_lt (h.1 j (by omega) hij)
    · rw [swp_o _ (by omega) e]
      exact Nat.le_of_lt (h.1 p (by omega) (by omega))
  · rw [swp_l, swp_o _ (by omega) (by omega)]
    exact h.2 p h1 h2
end SO
end IS
end Go.Proofs.Ytieneehpijilpaa

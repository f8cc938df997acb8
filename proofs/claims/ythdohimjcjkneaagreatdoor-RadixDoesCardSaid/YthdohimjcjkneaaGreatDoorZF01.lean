/- breakPatternsOrdered, choosePivotOrdered. -/
import Derived.Test.YthdohimjcjkneaaGreatDoorZL11
import Derived.BigRegion
import Derived.Deep.CutRange
import Derived.Deep.CutBlock
import Derived.Laws.BitsAllLaws

/- Heaps, partitions, ranges that are left: plain, over rows of numbers that are turned by swaps. -/
namespace Go.Proofs.YthdohimjcjkneaaGreatDoor
set_option linter.unusedVariables false
set_option linter.unusedSimpArgs false
namespace SO

theorem swp_l (X : Nat → Nat) (i j : Nat) : swp X i j i = X j := by unfold swp; rw [if_pos rfl]
theorem swp_r (X : Nat → Nat) (i j : Nat) : swp X i j j = X i := by
  unfold swp
  by_cases h : j = i
  · rw [if_pos h, h]
  · rw [if_neg h, if_pos rfl]
theorem swp_o (X : Nat → Nat) {i j p : Nat} (h1 : p ≠ i) (h2 : p ≠ j) : swp X i j p = X p := by unfold swp; rw [if_neg h1, if_neg h2]

/-! ### Heaps -/
/-- From place lo of a heap on (which begins at f and has hi places) no child is greater than its parent; but for r's children. -/
def HeapX (Y : Nat → Nat) (f lo hi r : Nat) : Prop := ∀ i c, lo ≤ i → i ≠ r → (c = 2 * i + 1 ∨ c = 2 * i + 2) → c < hi → Y (f + c) ≤ Y (f + i)
def Heap (Y : Nat → Nat) (f lo hi : Nat) : Prop := ∀ i c, lo ≤ i → (c = 2 * i + 1 ∨ c = 2 * i + 2) → c < hi → Y (f + c) ≤ Y (f + i)
/-- r's children are not greater than r's parent. -/
def Grand (Y : Nat → Nat) (f lo hi r : Nat) : Prop := ∀ p c, lo ≤ p → (r = 2 * p + 1 ∨ r = 2 * p + 2) → (c = 2 * r + 1 ∨ c = 2 * r + 2) → c < hi → Y (f + c) ≤ Y (f + p)
theorem heap_begin {Y : Nat → Nat} {f lo hi : Nat} (h : Heap Y f (lo + 1) hi) : HeapX Y f lo hi lo ∧ Grand Y f lo hi lo :=
  ⟨fun i c h1 h2 h3 h4 => h i c (by omega) h3 h4, fun p c h1 h2 => by omega⟩
theorem heap_leaf {Y : Nat → Nat} {f lo hi r : Nat} (h : HeapX Y f lo hi r) (hr : hi ≤ 2 * r + 1) : Heap Y f lo hi := fun i c h1 h2 h3 => by
  by_cases e : i = r
  · subst e; omega
  · exact h i c h1 e h2 h3
theorem heap_stop {Y : Nat → Nat} {f lo hi r c : Nat} (h : HeapX Y f lo hi r) (hc : c = 2 * r + 1 ∨ c = 2 * r + 2) (hm : ∀ d, (d = 2 * r + 1 ∨ d = 2 * r + 2) → d < hi → Y (f + d) ≤ Y (f + c)) (hle : Y (f + c) ≤ Y (f + r)) : Heap Y f lo hi := fun i d h1 h2 h3 => by
  by_cases e : i = r
  · subst e
    exact Nat.le_trans (hm d h2 h3) hle
  · exact h i d h1 e h2 h3
theorem heap_down {Y : Nat → Nat} {f lo hi r c : Nat} (h : HeapX Y f lo hi r) (g : Grand Y f lo hi r) (hlo : lo ≤ r) (hc : c = 2 * r + 1 ∨ c = 2 * r + 2) (hch : c < hi) (hm : ∀ d, (d = 2 * r + 1 ∨ d = 2 * r + 2) → d < hi → Y (f + d) ≤ Y (f + c)) (hlt : Y (f + r) < Y (f + c)) :
    HeapX (swp Y (f + r) (f + c)) f lo hi c ∧ Grand (swp Y (f + r) (f + c)) f lo hi c := by
  have hrc : r ≠ c := by omega
  refine ⟨fun i d h1 h2 h3 h4 => ?_, fun p d h1 h2 h3 h4 => ?_⟩
  · by_cases e : i = r
    · subst e
      rw [swp_l]
      by_cases e2 : d = c
      · subst e2; rw [swp_r]; omega
      · rw [swp_o _ (by omega) (by omega)]; exact hm d h3 h4
    · rw [swp_o (p := f + i) _ (by omega) (by omega)]
      by_cases e2 : d = r
      · subst e2
        rw [swp_l]
        exact g i c h1 h3 hc hch
      · rw [swp_o _ (by omega) (by omega)]
        exact h i d h1 e h3 h4
  · obtain rfl : p = r := by omega
    rw [swp_l, swp_o _ (by omega) (by omega)]
    exact h c d (by omega) (by omega) h3 h4
theorem heap_top {Y : Nat → Nat} {f hi : Nat} (h : Heap Y f 0 hi) : ∀ j, j < hi → Y (f + j) ≤ Y f := by
  intro j
  induction j using Nat.strongRecOn with
  | ind j ih =>
    intro hj
    by_cases e : j = 0
    · subst e; exact Nat.le_refl _
    · have h1 := h ((j - 1) / 2) j (Nat.zero_le _) (by omega) hj
      have h2 := ih ((j - 1) / 2) (by omega) (by omega)
      omega
theorem heap_pop {Y : Nat → Nat} {f i : Nat} (h : Heap Y f 0 (i + 1)) : Heap (swp Y f (f + i)) f 1 i := fun p c h1 h2 h3 => by
  rw [swp_o _ (by omega) (by omega), swp_o _ (by omega) (by omega)]
  exact h p c (Nat.zero_le _) h2 (by omega)
/-- From i on all is in order, and not less than what stands ahead. -/
def Tail (Y : Nat → Nat) (f i n : Nat) : Prop := ∀ p q, p < q → i ≤ q → q < n → Y (f + p) ≤ Y (f + q)
theorem tail_pop {Y : Nat → Nat} {f i n : Nat} (h : Heap Y f 0 (i + 1)) (t : Tail Y f (i + 1) n) (hi : i < n) : Tail (swp Y f (f + i)) f i n := fun p q h1 h2 h3 => by
  have ht := heap_top h
  by_cases e : q = i
  · subst e
    rw [swp_r]
    by_cases e2 : p = 0
    · subst e2
      rw [Nat.add_zero, swp_l]
      exact ht q (by omega)
    · rw [swp_o _ (by omega) (by omega)]; exact ht p (by omega)
  · rw [swp_o (p := f + q) _ (by omega) (by omega)]
    by_cases e2 : p = 0
    · subst e2
      rw [Nat.add_zero, swp_l]
      exact t i q (by omega) (by omega) h3
    · by_cases e3 : p = i
      · subst e3
        rw [swp_r]
        have := t 0 q (by omega) (by omega) h3
        rwa [Nat.add_zero] at this
      · rw [swp_o _ (by omega) (by omega)]
        exact t p q h1 (by omega) h3
theorem tail_sw {Y Z : Nat → Nat} {f i n : Nat} (t : Tail Y f i n) (s : Sw f (f + i) Y Z) : Tail Z f i n := fun p q h1 h2 h3 => by
  rw [s.out (f + q) (by omega)]
  by_cases e : p < i
  · exact s.all (P := fun v => v ≤ Y (f + q)) (fun r hr1 hr2 => by
      have := t (r - f) q (by omega) h2 h3
      rwa [show f + (r - f) = r by omega] at this) (f + p) (by omega) (by omega)
  · rw [s.out (f + p) (by omega)]
    exact t p q h1 h2 h3
theorem tail_up {Y : Nat → Nat} {f n : Nat} (t : Tail Y f 0 n) : Up Y f (f + n) := fun p q h1 h2 h3 => by
  have := t (p - f) (q - f) (by omega) (Nat.zero_le _) (by omega)
  rwa [show f + (p - f) = p by omega, show f + (q - f) = q by omega] at this

/-! ### What is left of a range -/
/-- What stands ahead of a range is not greater than anything in it. -/
def Bel (Y : Nat → Nat) (a b : Nat) : Prop := a = 0 ∨ ∀ p, a ≤ p → p < b → Y (a - 1) ≤ Y p
theorem bel_sw {Y Z : Nat → Nat} {a b : Nat} (h : Bel Y a b) (s : Sw a b Y Z) : Bel Z a b := by
  rcases h with h | h
  · exact .inl h
  · by_cases e : a = 0
    · exact .inl e
    · refine .inr fun p h1 h2 => ?_
      rw [s.out (a - 1) (by omega)]
      exact s.all (P := fun v => Y (a - 1) ≤ v) h p h1 h2
theorem bel_left {Y : Nat → Nat} {a b m : Nat} (h : Bel Y a b) (hm : m ≤ b) : Bel Y a m := by
  rcases h with h | h
  · exact .inl h
  · exact .inr fun p h1 h2 => h p h1 (by omega)
/-- All is in order but for what is left. -/
def Left (Y : Nat → Nat) (a b a' b' : Nat) : Prop := ∀ p q, a ≤ p → p < q → q < b → (p < a' ∨ b' ≤ p ∨ q < a' ∨ b' ≤ q) → Y p ≤ Y q
theorem left_begin (Y : Nat → Nat) (a b : Nat) : Left Y a b a b := fun p q h1 h2 h3 h4 => by omega
theorem left_sw {Y Z : Nat → Nat} {a b a' b' : Nat} (h : Left Y a b a' b') (s : Sw a' b' Y Z) (ha : a ≤ a') (hb : b' ≤ b) : Left Z a b a' b' := fun p q h1 h2 h3 h4 => by
  by_cases e1 : a' ≤ p ∧ p < b'
  · rw [s.out q (by omega)]
    exact s.all (P := fun v => v ≤ Y q) (fun r hr1 hr2 => h r q (by omega) (by omega) h3 (by omega)) p e1.1 e1.2
  · rw [s.out p (by omega)]
    by_cases e2 : a' ≤ q ∧ q < b'
    · exact s.all (P := fun v => Y p ≤ v) (fun r hr1 hr2 => h p r h1 (by omega) (by omega) (by omega)) q e2.1 e2.2
    · rw [s.out q (by omega)]
      exact h p q h1 h2 h3 h4
theorem left_done {Y : Nat → Nat} {a b a' b' : Nat} (h : Left Y a b a' b') (u : Up Y a' b') : Up Y a b := fun p q h1 h2 h3 => by
  by_cases e : a' ≤ p ∧ q < b'
  · exact u p q e.1 h2 e.2
  · exact h p q h1 h2 h3 (by omega)
/-- Parted at m. -/
def Parted (Y : Nat → Nat) (a b m : Nat) : Prop := (∀ p, a ≤ p → p < m → Y p ≤ Y m) ∧ ∀ p, m < p → p < b → Y m ≤ Y p
theorem parted_left {Y Z : Nat → Nat} {a b m : Nat} (h : Parted Y a b m) (s : Sw a m Y Z) (hm : m < b) : Parted Z a b m :=
  ⟨fun p h1 h2 => by
    rw [s.out m (by omega)]
    exact s.all (P := fun v => v ≤ Y m) h.1 p h1 h2, fun p h1 h2 => by
    rw [s.out m (by omega), s.out p (by omega)]
    exact h.2 p h1 h2⟩
theorem parted_right {Y Z : Nat → Nat} {a b m : Nat} (h : Parted Y a b m) (s : Sw (m + 1) b Y Z) : Parted Z a b m :=
  ⟨fun p h1 h2 => by
    rw [s.out m (by omega), s.out p (by omega)]
    exact h.1 p h1 h2, fun p h1 h2 => by
    rw [s.out m (by omega)]
    exact s.all (P := fun v => Y m ≤ v) (fun r hr1 hr2 => h.2 r (by omega) hr2) p (by omega) h2⟩
theorem left_lower {Y : Nat → Nat} {a b a' b' m : Nat} (h : Left Y a b a' b') (k : Parted Y a' b' m) (hm : a' ≤ m) (hmb : m < b') (u : Up Y a' m) : Left Y a b (m + 1) b' := fun p q h1 h2 h3 h4 => by
  by_cases e : a' ≤ p ∧ q < b'
  · by_cases e1 : q < m
    · exact u p q e.1 h2 e1
    · by_cases e2 : q = m
      · subst e2; exact k.1 p e.1 h2
      · have hq := k.2 q (by omega) e.2
        by_cases e3 : p = m
        · subst e3; exact hq
        · have hp := k.1 p e.1 (by omega)
          omega
  · exact h p q h1 h2 h3 (by omega)
theorem left_upper {Y : Nat → Nat} {a b a' b' m : Nat} (h : Left Y a b a' b') (k : Parted Y a' b' m) (hm : a' ≤ m) (hmb : m < b') (u : Up Y (m + 1) b') : Left Y a b a' m := fun p q h1 h2 h3 h4 => by
  by_cases e : a' ≤ p ∧ q < b'
  · by_cases e1 : m < p
    · exact u p q e1 h2 e.2
    · by_cases e2 : p = m
      · subst e2; exact k.2 q h2 e.2
      · have hp := k.1 p e.1 (by omega)
        by_cases e3 : q = m
        · subst e3; exact hp
        · have hq := k.2 q (by omega) e.2
          omega
  · exact h p q h1 h2 h3 (by omega)
theorem bel_right {Y : Nat → Nat} {a b m : Nat} (k : Parted Y a b m) : Bel Y (m + 1) b := .inr fun p h1 h2 => by
  rw [Nat.add_sub_cancel]
  exact k.2 p (by omega) h2

/-! ### The shifts -/
/-- In order from a up to b. -/
theorem up_next {Y : Nat → Nat} {a i : Nat} (h : Up Y a i) (ha : a < i) (hle : Y (i - 1) ≤ Y i) : Up Y a (i + 1) := fun p q h1 h2 h3 => by
  by_cases e : q = i
  · subst e
    by_cases e2 : p = q - 1
    · rw [e2]; exact hle
    · have := h p (q - 1) h1 (by omega) (by omega)
      omega
  · exact h p q h1 h2 (by omega)
theorem up_one (Y : Nat → Nat) (a : Nat) : Up Y a (a + 1) := fun p q h1 h2 h3 => by omega

/-! ### The parting -/
/-- The row while it's parted: the pivot at a, less ones up to i, the others behind j. -/
def Mid (Y : Nat → Nat) (a b i j : Nat) : Prop := (∀ p, a < p → p < i → Y p < Y a) ∧ ∀ p, j < p → p < b → Y a ≤ Y p
theorem mid_i {Y : Nat → Nat} {a b i j : Nat} (h : Mid Y a b i j) (hlt : Y i < Y a) : Mid Y a b (i + 1) j := ⟨fun p h1 h2 => by
  by_cases e : p = i
  · subst e; exact hlt
  · exact h.1 p h1 (by omega), h.2⟩
theorem mid_j {Y : Nat → Nat} {a b i j : Nat} (h : Mid Y a b i (j + 1)) (hle : Y a ≤ Y (j + 1)) : Mid Y a b i j := ⟨h.1, fun p h1 h2 => by
  by_cases e : p = j + 1
  · subst e; exact hle
  · exact h.2 p (by omega) h2⟩
theorem mid_swap {Y : Nat → Nat} {a b i j : Nat} (h : Mid Y a b i j) (ha : a < i) (hij : i < j) (hi : Y a ≤ Y i) (hj : Y j < Y a) : Mid (swp Y i j) a b (i + 1) (j - 1) := by
  refine ⟨fun p h1 h2 => ?_, fun p h1 h2 => ?_⟩
  · rw [swp_o (p := a) _ (by omega) (by omega)]
    by_cases e : p = i
    · subst e; rw [swp_l]; exact hj
    · rw [swp_o _ e (by omega)]; exact h.1 p h1 (by omega)
  · rw [swp_o (p := a) _ (by omega) (by omega)]
    by_cases e : p = j
    · subst e; rw [swp_r]; exact hi
    · rw [swp_o _ (by omega) e]; exact h.2 p (by omega) h2
theorem mid_done {Y : Nat → Nat} {a b i j : Nat} (h : Mid Y a b i j) (ha : a ≤ j) (hij : j < i) : Parted (swp Y j a) a b j := by
  refine ⟨fun p h1 h2 => ?_, fun p h1 h2 => ?_⟩
  · rw [swp_l]
    by_cases e : p = a
    · subst e; rw [swp_r]
      by_cases e2 : j = p
      · omega
      · exact Nat.le_of_lt (h.1 j (by omega) hij)
    · rw [swp_o _ (by omega) e]
      exact Nat.le_of_lt (h.1 p (by omega) (by omega))
  · rw [swp_l, swp_o _ (by omega) (by omega)]
    exact h.2 p h1 h2
end SO
end Go.Proofs.YthdohimjcjkneaaGreatDoor

/- reverseRangeOrdered: a row is turned by swaps. -/
namespace Go.Proofs.YthdohimjcjkneaaGreatDoor
open Go.ChangeShapes Go.WideShapes Go.ChangeAt Go.RowKit
set_option linter.unusedVariables false
set_option linter.unusedSimpArgs false

set_option maxRecDepth 100000 in
set_option maxHeartbeats 1000000 in
theorem reverse_any (g N cap : Nat) (rest : List Value) (a b : Nat) (X : Nat → Nat) (w : World) (h : RW w g N X rest) (hab : a < b) (hb : b ≤ N) (hN : N ≤ 65536) (hcap : N ≤ cap) :
    Calls Tryz.prog 194 #[.slice (some ⟨g, 0, none⟩) N cap, .int .i64 (a : Int), .int .i64 (b : Int)] w fun e w' => e = .returned (.tuple #[]) ∧ Two g g w w' ∧ ∃ Y, RW w' g N Y rest ∧ SO.Sw a b X Y := by
  have h := W_hid h
  go_enter Tryz.func194, Tryz.ntmps194
  go_wp2_with fail
  go_loopw [6, 7] (fun v u wr => ∃ (i j : Nat) (Y : Nat → Nat), v = .int .i64 (i : Int) ∧ u = .int .i64 (j : Int) ∧ a ≤ i ∧ j < b ∧ Hid (RW wr g N Y rest) ∧ Hid (SO.Sw a b X Y) ∧ Hid (Two g g w wr)) (fun _ u _ => (intOf u).toNat)
  case atStart => exact ⟨a, b - 1, X, rfl, by congr 1; omega, Nat.le_refl _, by omega, h, W_hid .refl, W_hid (Two.refl _ _ _)⟩
  case round =>
    obtain ⟨i, j, Y, rfl, rfl, hai, hjb, hR, hS, hT⟩ := hrel
    by_cases hij : i < j
    · have ci := hR.out.cell i (by omega)
      have cj := hR.out.cell j (by omega)
      have fi := hR.out.fz i
      have fj := hR.out.fz j
      have hR2 := W_hid (hR.out.swap i j (by omega) (by omega))
      have hS2 := W_hid (hS.out.step (i := i) (j := j) hai (by omega) (by omega) hjb)
      have hT2 := W_hid ((hT.out.setCell (p := ⟨g, i, none⟩) (.inl rfl) (.int .u64 (Y j : Int))).setCell (p := ⟨g, j, none⟩) (.inl rfl) (.int .u64 (Y i : Int)))
      go_wp2_with fail
      go_region
      go_wp2_with fail
      exact ⟨⟨i + 1, j - 1, _, by go_num, by congr 1; omega, by omega, by omega, W_hid hR2.out.drew, hS2, W_hid ⟨hT2.out.os, hT2.out.tape, hT2.out.output, hT2.out.size, hT2.out.block⟩⟩, by simp [intOf]; omega⟩
    · go_wp2_with fail
      go_end0
      exact ⟨rfl, hT.out, Y, hR.out, hS.out⟩

/-- What order2Ordered and its callers leave: the row as it was, the count of swaps risen by at most d. -/
structure Cnt (g N : Nat) (X : Nat → Nat) (rest : List Value) (y s d : Nat) (w w' : World) : Prop where
  row : RW w' g N X rest
  two : Two y y w w'
  ex : ∃ t, s ≤ t ∧ t ≤ s + d ∧ Blk w' y 3 [.int .i64 (t : Int)]

set_option maxRecDepth 100000 in
set_option maxHeartbeats 1000000 in
theorem order2_any (g N cap : Nat) (rest : List Value) (a b y s : Nat) (X : Nat → Nat) (w : World) (h : RW w g N X rest) (ha : a < N) (hb : b < N) (hN : N ≤ 65536) (hcap : N ≤ cap) (hy : Blk w y 3 [.int .i64 (s : Int)]) (hyg : y ≠ g) (hs : s ≤ 1000) :
    Calls Tryz.prog 208 #[.slice (some ⟨g, 0, none⟩) N cap, .int .i64 (a : Int), .int .i64 (b : Int), .pointer (some ⟨y, 0, none⟩)] w fun e w' => ∃ p q : Nat, e = .returned (.tuple #[.int .i64 (p : Int), .int .i64 (q : Int)]) ∧ ((p = a ∧ q = b) ∨ (p = b ∧ q = a)) ∧ Cnt g N X rest y s 1 w w' := by
  have ca := h.cell a ha
  have cb := h.cell b hb
  have cy := hy.cell (j := 0) rfl
  have fy := hy.fz
  have hL := W_hid (fun t => Calls.quiet_of_same (Less_any (X b) (X a) (w.drewN t)))
  have h := W_hid h
  have hy := W_hid hy
  cases hd : decide (X b < X a) with
  | true =>
    rw [hd] at hL
    clear hd
    generalize X a = xa at *
    generalize X b = xb at *
    go_enter Tryz.func208, Tryz.ntmps208
    go_wp2_with fail
    go_quiet ((go_at_call 196; exact hL.out _))
    obtain ⟨W, hW⟩ : ∃ W, w.drewN nq = W := ⟨_, rfl⟩
    have hR : RW W g N X rest := by rw [← hW]; exact h.out.drewN nq
    have hY : Blk W y 3 [.int .i64 (s : Int)] := by rw [← hW]; exact hy.out
    have hT : Two y y w W := by rw [← hW]; exact (Two.refl _ _ _).drew nq
    rw [hW]
    have c2 := hY.cell (j := 0) rfl
    have f2 := hY.fz
    have hfin := W_hid (show Cnt g N X rest y s 1 w (W.setCell ⟨y, 0, none⟩ (.int .i64 ((s + 1 : Nat) : Int))) from ⟨hR.far (Ne.symm hyg) _, hT.setCell (.inl rfl) _, s + 1, by omega, by omega, hY.set 0 _⟩)
    rw [show ((s + 1 : Nat) : Int) = (s : Int) + 1 from by omega] at hfin
    clear hR hY hT
    go_wp2
    go_ret2
    exact ⟨b, a, rfl, .inr ⟨rfl, rfl⟩, hfin.out⟩
  | false =>
    rw [hd] at hL
    clear hd
    generalize X a = xa at *
    generalize X b = xb at *
    go_enter Tryz.func208, Tryz.ntmps208
    go_wp2_with fail
    go_quiet ((go_at_call 196; exact hL.out _))
    have hfin := W_hid (show Cnt g N X rest y s 1 w (w.drewN nq) from ⟨h.out.drewN nq, (Two.refl _ _ _).drew nq, s, Nat.le_refl _, by omega, hy.out⟩)
    go_wp2
    go_ret2
    exact ⟨a, b, rfl, .inl ⟨rfl, rfl⟩, hfin.out⟩
end Go.Proofs.YthdohimjcjkneaaGreatDoor

/- medianOrdered, medianAdjacentOrdered: a place among three. -/
namespace Go.Proofs.YthdohimjcjkneaaGreatDoor
open Go.ChangeShapes Go.WideShapes Go.ChangeAt Go.RowKit
set_option linter.unusedVariables false
set_option linter.unusedSimpArgs false

theorem Cnt.trans {g N y s d d' t : Nat} {X : Nat → Nat} {rest : List Value} {w w1 w2 : World} (h : Cnt g N X rest y s d w w1) (hst : t ≤ s + d) (hst2 : s ≤ t) (k : Cnt g N X rest y t d' w1 w2) : Cnt g N X rest y s (d + d') w w2 := by
  obtain ⟨u, h1, h2, h3⟩ := k.ex
  exact ⟨k.row, h.two.trans k.two, u, by omega, by omega, h3⟩

set_option maxRecDepth 100000 in
set_option maxHeartbeats 1000000 in
theorem median_any (g N cap : Nat) (rest : List Value) (a b c y s : Nat) (X : Nat → Nat) (w : World) (h : RW w g N X rest) (ha : a < N) (hb : b < N) (hc : c < N) (hN : N ≤ 65536) (hcap : N ≤ cap) (hy : Blk w y 3 [.int .i64 (s : Int)]) (hyg : y ≠ g) (hs : s ≤ 900) :
    Calls Tryz.prog 206 #[.slice (some ⟨g, 0, none⟩) N cap, .int .i64 (a : Int), .int .i64 (b : Int), .int .i64 (c : Int), .pointer (some ⟨y, 0, none⟩)] w fun e w' => ∃ p : Nat, e = .returned (.int .i64 (p : Int)) ∧ (p = a ∨ p = b ∨ p = c) ∧ Cnt g N X rest y s 3 w w' := by
  have o2 := W_hid (fun a b s w h ha hb hy hs => order2_any g N cap rest a b y s X w h ha hb hN hcap hy hyg hs)
  have h1 := W_hid (o2.out a b s w h ha hb hy (by omega))
  clear h hy
  go_enter Tryz.func206, Tryz.ntmps206
  go_wp2_with fail
  refine h1.out.mono ?_
  rintro e w1 ⟨p1, q1, rfl, hp1, k1⟩
  obtain ⟨s1, l1, u1, y1⟩ := k1.ex
  have h2 := W_hid (o2.out q1 c s1 w1 k1.row (by omega) hc y1 (by omega))
  replace k1 := W_hid k1
  replace hp1 := W_hid hp1
  clear y1 h1
  go_wp2_with fail
  refine h2.out.mono ?_
  rintro e w2 ⟨p2, q2, rfl, hp2, k2⟩
  obtain ⟨s2, l2, u2, y2⟩ := k2.ex
  have h3 := W_hid (o2.out p1 p2 s2 w2 k2.row (by have := hp1.out; omega) (by have := hp1.out; omega) y2 (by omega))
  replace k2 := W_hid k2
  replace hp2 := W_hid hp2
  clear y2 h2
  go_wp2_with fail
  refine h3.out.mono ?_
  rintro e w3 ⟨p3, q3, rfl, hp3, k3⟩
  have hfin := W_hid ((k1.out.trans u1 l1 k2.out).trans (by omega) (by omega) k3)
  replace hp3 := W_hid hp3
  clear k1 k2 k3 h3
  go_wp2
  go_ret
  exact ⟨q3, rfl, by have := hp1.out; have := hp2.out; have := hp3.out; omega, hfin.out⟩

set_option maxRecDepth 100000 in
set_option maxHeartbeats 1000000 in
theorem adjacent_any (g N cap : Nat) (rest : List Value) (a y s : Nat) (X : Nat → Nat) (w : World) (h : RW w g N X rest) (h1 : 1 ≤ a) (ha : a + 1 < N) (hN : N ≤ 65536) (hcap : N ≤ cap) (hy : Blk w y 3 [.int .i64 (s : Int)]) (hyg : y ≠ g) (hs : s ≤ 900) :
    Calls Tryz.prog 205 #[.slice (some ⟨g, 0, none⟩) N cap, .int .i64 (a : Int), .pointer (some ⟨y, 0, none⟩)] w fun e w' => ∃ p : Nat, e = .returned (.int .i64 (p : Int)) ∧ a ≤ p + 1 ∧ p ≤ a + 1 ∧ Cnt g N X rest y s 3 w w' := by
  have hm := median_any g N cap rest (a - 1) a (a + 1) y s X w h (by omega) (by omega) (by omega) hN hcap hy hyg hs
  rw [show ((a - 1 : Nat) : Int) = (a : Int) - 1 from by omega, show ((a + 1 : Nat) : Int) = (a : Int) + 1 from by omega] at hm
  replace hm := W_hid hm
  clear h hy
  go_enter Tryz.func205, Tryz.ntmps205
  go_wp2_with fail
  refine hm.out.mono ?_
  rintro e w1 ⟨p, rfl, hp, k⟩
  have hfin := W_hid (show a ≤ p + 1 ∧ p ≤ a + 1 ∧ Cnt g N X rest y s 3 w w1 from ⟨by omega, by omega, k⟩)
  clear hp k
  go_wp2
  go_ret
  exact ⟨p, rfl, hfin.out⟩
end Go.Proofs.YthdohimjcjkneaaGreatDoor

/- siftDownOrdered, heapSortOrdered. -/
namespace Go.Proofs.YthdohimjcjkneaaGreatDoor
open Go.ChangeShapes Go.WideShapes Go.ChangeAt Go.RowKit
set_option linter.unusedVariables false
set_option linter.unusedSimpArgs false

theorem Two.drewed {g b : Nat} {w w' : World} (h : Two g b w w'.drew) : Two g b w w' := ⟨h.os, h.tape, h.output, h.size, h.block⟩

set_option maxRecDepth 100000 in
set_option maxHeartbeats 4000000 in
theorem sift_any (g N cap : Nat) (rest : List Value) (lo hi f : Nat) (X : Nat → Nat) (w : World) (h : RW w g N X rest) (hlo : lo ≤ hi) (hf : f + hi ≤ N) (hN : N ≤ 65536) (hcap : N ≤ cap) (hH : SO.Heap X f (lo + 1) hi) :
    Calls Tryz.prog 202 #[.slice (some ⟨g, 0, none⟩) N cap, .int .i64 (lo : Int), .int .i64 (hi : Int), .int .i64 (f : Int)] w fun e w' => e = .returned (.tuple #[]) ∧ Two g g w w' ∧ ∃ Y, RW w' g N Y rest ∧ SO.Sw (f + lo) (f + hi) X Y ∧ SO.Heap Y f lo hi := by
  have h := W_hid h
  obtain ⟨hx0, hg0⟩ := SO.heap_begin hH
  have hx0 := W_hid hx0
  have hg0 := W_hid hg0
  clear hH
  go_enter Tryz.func202, Tryz.ntmps202
  go_wp2_with fail
  go_loopw [8, 9] (fun v u wr => ∃ (r : Nat) (Z : Nat → Nat), v = .int .i64 (r : Int) ∧ lo ≤ r ∧ r ≤ hi ∧ Hid (RW wr g N Z rest) ∧ Hid (SO.Sw (f + lo) (f + hi) X Z) ∧ Hid (SO.HeapX Z f lo hi r) ∧ Hid (SO.Grand Z f lo hi r) ∧ Hid (Two g g w wr)) (fun v _ _ => hi - (intOf v).toNat)
  case atStart => exact ⟨lo, X, rfl, Nat.le_refl _, hlo, h, W_hid .refl, hx0, hg0, W_hid (Two.refl _ _ _)⟩
  case round =>
    clear hx0 hg0
    obtain ⟨r, Z, rfl, hlr, hrh, hR, hS, hHX, hG, hT⟩ := hrel
    obtain ⟨c1, hc1⟩ : ∃ c1, 2 * r + 1 = c1 := ⟨_, rfl⟩
    have e1 : 2 * (r : Int) + 1 = (c1 : Int) := by omega
    by_cases h1 : c1 < hi
    · obtain ⟨p0, hp0⟩ : ∃ p, f + r = p := ⟨_, rfl⟩
      obtain ⟨p1, hp1⟩ : ∃ p, f + c1 = p := ⟨_, rfl⟩
      obtain ⟨c2, hc2⟩ : ∃ c, c1 + 1 = c := ⟨_, rfl⟩
      obtain ⟨p2, hp2⟩ : ∃ p, p1 + 1 = p := ⟨_, rfl⟩
      have f0 : (f : Int) + (r : Int) = (p0 : Int) := by omega
      have f1 : (f : Int) + (c1 : Int) = (p1 : Int) := by omega
      have f2 : (p1 : Int) + 1 = (p2 : Int) := by omega
      have f3 : (c1 : Int) + 1 = (c2 : Int) := by omega
      have f4 : (f : Int) + (c2 : Int) = (p2 : Int) := by omega
      have b0 : p0 < N := by omega
      have b1 : p1 < N := by omega
      have hcc : Hid (c1 = 2 * r + 1 ∧ c2 = 2 * r + 2 ∧ f + r = p0 ∧ f + c1 = p1 ∧ f + c2 = p2) := ⟨by omega, by omega, hp0, hp1, by omega⟩
      have d0 := hR.out.cell p0 b0
      have d1 := hR.out.cell p1 b1
      have gz := hR.out.fz
      obtain ⟨v0, hv0⟩ : ∃ v, Z p0 = v := ⟨_, rfl⟩
      obtain ⟨v1, hv1⟩ : ∃ v, Z p1 = v := ⟨_, rfl⟩
      rw [hv0] at d0
      rw [hv1] at d1
      replace hv0 := W_hid hv0
      replace hv1 := W_hid hv1
      by_cases h2 : c2 < hi
      · have b2 : p2 < N := by omega
        have d2 := hR.out.cell p2 b2
        obtain ⟨v2, hv2⟩ : ∃ v, Z p2 = v := ⟨_, rfl⟩
        rw [hv2] at d2
        replace hv2 := W_hid hv2
        have hL := W_hid (fun t => Calls.quiet_of_same (Less_any v1 v2 (wr.drewN t)))
        clear hc1 hc2 hp0 hp1 hp2
        by_cases h3 : v1 < v2
        · rw [show decide (v1 < v2) = true by simp [h3]] at hL
          have hm : Hid (∀ d, (d = 2 * r + 1 ∨ d = 2 * r + 2) → d < hi → Z (f + d) ≤ Z (f + c2)) := by
            obtain ⟨q1, q2, q3, q4, q5⟩ := hcc.out
            have := hv1.out
            have := hv2.out
            rw [← q4] at hv1
            rintro d (rfl | rfl) hd
            · rw [q5, hv2.out, ← q1, hv1.out]; omega
            · rw [← q2]; exact Nat.le_refl _
          replace h3 := W_hid h3
          have hLL := W_hid (fun W t => Calls.quiet_of_same (Less_any v0 v2 (World.drewN W t)))
          have hcx : Hid ((c2 = 2 * r + 1 ∨ c2 = 2 * r + 2) ∧ c2 < hi ∧ f + c2 = p2) := by
            obtain ⟨q1, q2, q3, q4, q5⟩ := hcc.out
            exact ⟨by omega, by omega, by omega⟩
          go_wp2_with fail
          go_quiet ((go_at_call 196; exact hL.out _))
          obtain ⟨W, hW⟩ : ∃ W, wr.drewN nq = W := ⟨_, rfl⟩
          have hR3 : RW W g N Z rest := by rw [← hW]; exact hR.out.drewN nq
          have hT3 : Two g g w W := by rw [← hW]; exact hT.out.drew nq
          rw [hW]
          clear hW d0 d1 d2 gz
          have d0 := hR3.cell p0 b0
          have dc := hR3.cell p2 b2
          have gz := hR3.fz
          rw [hv0.out] at d0
          rw [hv2.out] at dc
          replace hR3 := W_hid hR3
          replace hT3 := W_hid hT3
          by_cases h4 : v0 < v2
          · replace hLL := W_hid (hLL.out W)
            rw [show decide (v0 < v2) = true by simp [h4]] at hLL
            have hnx := W_hid (SO.heap_down hHX.out hG.out hlr hcx.out.1 hcx.out.2.1 hm.out (by rw [hcx.out.2.2, hcc.out.2.2.1, hv0.out, hv2.out]; exact h4))
            rw [hcx.out.2.2, hcc.out.2.2.1] at hnx
            have hS3 := W_hid (hS.out.step (i := p0) (j := p2) (by have := hcc.out.2.2.1; omega) (by have := hcc.out.2.2.1; omega) (by have := hcx.out; omega) (by have := hcx.out; omega))
            have hlt : Hid (r < c2 ∧ c2 ≤ hi ∧ lo ≤ c2) := by
              have := hcx.out
              show _ ∧ _ ∧ _
              omega
            replace h4 := W_hid h4
            go_wp2_with fail
            go_quiet ((go_at_call 196; exact hLL.out _))
            go_wp2_with fail
            obtain ⟨V, hV⟩ : ∃ V, W.drewN nq = V := ⟨_, rfl⟩
            have hR4 : RW V g N Z rest := by rw [← hV]; exact hR3.out.drewN nq
            have hT4 : Two g g w V := by rw [← hV]; exact hT3.out.drew nq
            rw [hV]
            clear hV d0 dc gz
            have d0 := hR4.cell p0 b0
            have dc := hR4.cell p2 b2
            have gz := hR4.fz
            rw [hv0.out] at d0
            rw [hv2.out] at dc
            have hR5 := W_hid (hR4.swap p0 p2 b0 b2)
            rw [hv0.out, hv2.out] at hR5
            have hT5 := W_hid ((hT4.setCell (p := ⟨g, p0, none⟩) (.inl rfl) (.int .u64 (v2 : Int))).setCell (p := ⟨g, p2, none⟩) (.inl rfl) (.int .u64 (v0 : Int)))
            clear hR4 hT4
            go_region
            go_wp2_with fail
            exact ⟨⟨c2, _, rfl, hlt.out.2.2, hlt.out.2.1, W_hid hR5.out.drew, hS3, W_hid hnx.out.1, W_hid hnx.out.2, W_hid ⟨hT5.out.os, hT5.out.tape, hT5.out.output, hT5.out.size, hT5.out.block⟩⟩, by have := hlt.out; simp [intOf]; omega⟩
          · replace hLL := W_hid (hLL.out W)
            rw [show decide (v0 < v2) = false by simp [h4]] at hLL
            have hfin := W_hid (SO.heap_stop hHX.out hcx.out.1 hm.out (by rw [hcx.out.2.2, hcc.out.2.2.1, hv0.out, hv2.out]; omega))
            replace h4 := W_hid h4
            go_wp2_with fail
            go_quiet ((go_at_call 196; exact hLL.out _))
            go_wp2_with fail
            refine bodyPost_ret (results_none rfl _ _ _) rfl ?_
            exact ⟨rfl, hT3.out.drew nq, Z, hR3.out.drewN nq, hS.out, hfin.out⟩
        · rw [show decide (v1 < v2) = false by simp [h3]] at hL
          have hm : Hid (∀ d, (d = 2 * r + 1 ∨ d = 2 * r + 2) → d < hi → Z (f + d) ≤ Z (f + c1)) := by
            obtain ⟨q1, q2, q3, q4, q5⟩ := hcc.out
            rintro d (rfl | rfl) hd
            · rw [← q1]; exact Nat.le_refl _
            · rw [← q2, q5, hv2.out, q4, hv1.out]; omega
          replace h3 := W_hid h3
          have hLL := W_hid (fun W t => Calls.quiet_of_same (Less_any v0 v1 (World.drewN W t)))
          have hcx : Hid ((c1 = 2 * r + 1 ∨ c1 = 2 * r + 2) ∧ c1 < hi ∧ f + c1 = p1) := by
            obtain ⟨q1, q2, q3, q4, q5⟩ := hcc.out
            exact ⟨by omega, by omega, by omega⟩
          go_wp2_with fail
          go_quiet ((go_at_call 196; exact hL.out _))
          obtain ⟨W, hW⟩ : ∃ W, wr.drewN nq = W := ⟨_, rfl⟩
          have hR3 : RW W g N Z rest := by rw [← hW]; exact hR.out.drewN nq
          have hT3 : Two g g w W := by rw [← hW]; exact hT.out.drew nq
          rw [hW]
          clear hW d0 d1 d2 gz
          have d0 := hR3.cell p0 b0
          have dc := hR3.cell p1 b1
          have gz := hR3.fz
          rw [hv0.out] at d0
          rw [hv1.out] at dc
          replace hR3 := W_hid hR3
          replace hT3 := W_hid hT3
          by_cases h4 : v0 < v1
          · replace hLL := W_hid (hLL.out W)
            rw [show decide (v0 < v1) = true by simp [h4]] at hLL
            have hnx := W_hid (SO.heap_down hHX.out hG.out hlr hcx.out.1 hcx.out.2.1 hm.out (by rw [hcx.out.2.2, hcc.out.2.2.1, hv0.out, hv1.out]; exact h4))
            rw [hcx.out.2.2, hcc.out.2.2.1] at hnx
            have hS3 := W_hid (hS.out.step (i := p0) (j := p1) (by have := hcc.out.2.2.1; omega) (by have := hcc.out.2.2.1; omega) (by have := hcx.out; omega) (by have := hcx.out; omega))
            have hlt : Hid (r < c1 ∧ c1 ≤ hi ∧ lo ≤ c1) := by
              have := hcx.out
              show _ ∧ _ ∧ _
              omega
            replace h4 := W_hid h4
            go_wp2_with fail
            go_quiet ((go_at_call 196; exact hLL.out _))
            go_wp2_with fail
            obtain ⟨V, hV⟩ : ∃ V, W.drewN nq = V := ⟨_, rfl⟩
            have hR4 : RW V g N Z rest := by rw [← hV]; exact hR3.out.drewN nq
            have hT4 : Two g g w V := by rw [← hV]; exact hT3.out.drew nq
            rw [hV]
            clear hV d0 dc gz
            have d0 := hR4.cell p0 b0
            have dc := hR4.cell p1 b1
            have gz := hR4.fz
            rw [hv0.out] at d0
            rw [hv1.out] at dc
            have hR5 := W_hid (hR4.swap p0 p1 b0 b1)
            rw [hv0.out, hv1.out] at hR5
            have hT5 := W_hid ((hT4.setCell (p := ⟨g, p0, none⟩) (.inl rfl) (.int .u64 (v1 : Int))).setCell (p := ⟨g, p1, none⟩) (.inl rfl) (.int .u64 (v0 : Int)))
            clear hR4 hT4
            go_region
            go_wp2_with fail
            exact ⟨⟨c1, _, rfl, hlt.out.2.2, hlt.out.2.1, W_hid hR5.out.drew, hS3, W_hid hnx.out.1, W_hid hnx.out.2, W_hid ⟨hT5.out.os, hT5.out.tape, hT5.out.output, hT5.out.size, hT5.out.block⟩⟩, by have := hlt.out; simp [intOf]; omega⟩
          · replace hLL := W_hid (hLL.out W)
            rw [show decide (v0 < v1) = false by simp [h4]] at hLL
            have hfin := W_hid (SO.heap_stop hHX.out hcx.out.1 hm.out (by rw [hcx.out.2.2, hcc.out.2.2.1, hv0.out, hv1.out]; omega))
            replace h4 := W_hid h4
            go_wp2_with fail
            go_quiet ((go_at_call 196; exact hLL.out _))
            go_wp2_with fail
            refine bodyPost_ret (results_none rfl _ _ _) rfl ?_
            exact ⟨rfl, hT3.out.drew nq, Z, hR3.out.drewN nq, hS.out, hfin.out⟩
      · clear hc1 hc2 hp0 hp1 hp2
        have hm : Hid (∀ d, (d = 2 * r + 1 ∨ d = 2 * r + 2) → d < hi → Z (f + d) ≤ Z (f + c1)) := by
          obtain ⟨q1, q2, q3, q4, q5⟩ := hcc.out
          rintro d (rfl | rfl) hd
          · rw [← q1]; exact Nat.le_refl _
          · omega
        have hLL := W_hid (fun W t => Calls.quiet_of_same (Less_any v0 v1 (World.drewN W t)))
        have hcx : Hid ((c1 = 2 * r + 1 ∨ c1 = 2 * r + 2) ∧ c1 < hi ∧ f + c1 = p1) := by
          obtain ⟨q1, q2, q3, q4, q5⟩ := hcc.out
          exact ⟨by omega, by omega, by omega⟩
        go_wp2_with fail
        go_quiet (fail)
        obtain ⟨W, hW⟩ : ∃ W, wr.drewN nq = W := ⟨_, rfl⟩
        have hR3 : RW W g N Z rest := by rw [← hW]; exact hR.out.drewN nq
        have hT3 : Two g g w W := by rw [← hW]; exact hT.out.drew nq
        rw [hW]
        clear hW d0 d1 gz
        have d0 := hR3.cell p0 b0
        have dc := hR3.cell p1 b1
        have gz := hR3.fz
        rw [hv0.out] at d0
        rw [hv1.out] at dc
        replace hR3 := W_hid hR3
        replace hT3 := W_hid hT3
        by_cases h4 : v0 < v1
        · replace hLL := W_hid (hLL.out W)
          rw [show decide (v0 < v1) = true by simp [h4]] at hLL
          have hnx := W_hid (SO.heap_down hHX.out hG.out hlr hcx.out.1 hcx.out.2.1 hm.out (by rw [hcx.out.2.2, hcc.out.2.2.1, hv0.out, hv1.out]; exact h4))
          rw [hcx.out.2.2, hcc.out.2.2.1] at hnx
          have hS3 := W_hid (hS.out.step (i := p0) (j := p1) (by have := hcc.out.2.2.1; omega) (by have := hcc.out.2.2.1; omega) (by have := hcx.out; omega) (by have := hcx.out; omega))
          have hlt : Hid (r < c1 ∧ c1 ≤ hi ∧ lo ≤ c1) := by
            have := hcx.out
            show _ ∧ _ ∧ _
            omega
          replace h4 := W_hid h4
          go_wp2_with fail
          go_quiet ((go_at_call 196; exact hLL.out _))
          go_wp2_with fail
          obtain ⟨V, hV⟩ : ∃ V, W.drewN nq = V := ⟨_, rfl⟩
          have hR4 : RW V g N Z rest := by rw [← hV]; exact hR3.out.drewN nq
          have hT4 : Two g g w V := by rw [← hV]; exact hT3.out.drew nq
          rw [hV]
          clear hV d0 dc gz
          have d0 := hR4.cell p0 b0
          have dc := hR4.cell p1 b1
          have gz := hR4.fz
          rw [hv0.out] at d0
          rw [hv1.out] at dc
          have hR5 := W_hid (hR4.swap p0 p1 b0 b1)
          rw [hv0.out, hv1.out] at hR5
          have hT5 := W_hid ((hT4.setCell (p := ⟨g, p0, none⟩) (.inl rfl) (.int .u64 (v1 : Int))).setCell (p := ⟨g, p1, none⟩) (.inl rfl) (.int .u64 (v0 : Int)))
          clear hR4 hT4
          go_region
          go_wp2_with fail
          exact ⟨⟨c1, _, rfl, hlt.out.2.2, hlt.out.2.1, W_hid hR5.out.drew, hS3, W_hid hnx.out.1, W_hid hnx.out.2, W_hid ⟨hT5.out.os, hT5.out.tape, hT5.out.output, hT5.out.size, hT5.out.block⟩⟩, by have := hlt.out; simp [intOf]; omega⟩
        · replace hLL := W_hid (hLL.out W)
          rw [show decide (v0 < v1) = false by simp [h4]] at hLL
          have hfin := W_hid (SO.heap_stop hHX.out hcx.out.1 hm.out (by rw [hcx.out.2.2, hcc.out.2.2.1, hv0.out, hv1.out]; omega))
          replace h4 := W_hid h4
          go_wp2_with fail
          go_quiet ((go_at_call 196; exact hLL.out _))
          go_wp2_with fail
          refine bodyPost_ret (results_none rfl _ _ _) rfl ?_
          exact ⟨rfl, hT3.out.drew nq, Z, hR3.out.drewN nq, hS.out, hfin.out⟩
    · have hfin : SO.Heap Z f lo hi := SO.heap_leaf hHX.out (by omega)
      go_wp2_with fail
      go_end0
      exact ⟨rfl, hT.out, Z, hR.out, hS.out, hfin⟩

set_option maxRecDepth 100000 in
set_option maxHeartbeats 4000000 in
theorem heap_any (g N cap : Nat) (rest : List Value) (a b : Nat) (X : Nat → Nat) (w : World) (h : RW w g N X rest) (hab : a < b) (hb : b ≤ N) (hN : N ≤ 65536) (hcap : N ≤ cap) :
    Calls Tryz.prog 191 #[.slice (some ⟨g, 0, none⟩) N cap, .int .i64 (a : Int), .int .i64 (b : Int)] w fun e w' => e = .returned (.tuple #[]) ∧ Two g g w w' ∧ ∃ Y, RW w' g N Y rest ∧ SO.Sw a b X Y ∧ SO.Up Y a b := by
  have h := W_hid h
  obtain ⟨n, hn⟩ : ∃ n, b - a = n := ⟨_, rfl⟩
  have hni : (b : Int) - (a : Int) = (n : Int) := by omega
  have hn1 : 1 ≤ n := by omega
  have hnb : a + n = b := by omega
  obtain ⟨m, hm⟩ : ∃ m, (n - 1) / 2 = m := ⟨_, rfl⟩
  have hn0 : (n : Int) - 1 = ((n - 1 : Nat) : Int) := by omega
  have hmi : ((n - 1 : Nat) : Int).tdiv 2 = (m : Int) := by rw [← hm]; rfl
  obtain ⟨n1, hn2⟩ : ∃ n1, n - 1 = n1 := ⟨_, rfl⟩
  rw [hn2] at hn0 hmi
  have hmn : m < n := by omega
  have hm0 : Hid (SO.Heap X a (m + 1) n) := fun i c h1 h2 h3 => by omega
  have hn3 : n1 + 1 = n := by omega
  have cS := W_hid (fun lo hi (Z : Nat → Nat) (W : World) h1 h2 h3 h4 => sift_any g N cap rest lo hi a Z W h1 h2 h3 hN hcap h4)
  clear hn hm hn2
  go_enter Tryz.func191, Tryz.ntmps191
  go_wp2_with fail
  go_loopw [9] (fun v wr => ∃ (i : Nat) (Z : Nat → Nat), v = .int .i64 ((i : Int) - 1) ∧ i ≤ n ∧ Hid (RW wr g N Z rest) ∧ Hid (SO.Sw a b X Z) ∧ Hid (SO.Heap Z a i n) ∧ Hid (Two g g w wr)) (fun v _ => (intOf v + 1).toNat)
  case atStart => exact ⟨m + 1, X, by congr 1; omega, by omega, h, W_hid .refl, hm0, W_hid (Two.refl _ _ _)⟩
  case round =>
    clear hm0
    obtain ⟨i, Z, rfl, hi, hR, hS, hH, hT⟩ := hrel
    rcases Nat.eq_zero_or_pos i with rfl | hpos
    · obtain ⟨wa, rfl⟩ : ∃ wa, wa = wr := ⟨wr, rfl⟩
      have ht0 : Hid (SO.Tail Z a n n) := fun p q h1 h2 h3 => by omega
      rw [show (((0 : Nat) : Int) - 1) = -1 from rfl]
      go_wp2_with fail
      go_loopw [10] (fun v wr => ∃ (i : Nat) (Z : Nat → Nat), v = .int .i64 ((i : Int) - 1) ∧ i ≤ n ∧ Hid (RW wr g N Z rest) ∧ Hid (SO.Sw a b X Z) ∧ Hid (SO.Heap Z a 0 i) ∧ Hid (SO.Tail Z a i n) ∧ Hid (Two g g w wr)) (fun v _ => (intOf v + 1).toNat)
      case atStart => exact ⟨n, Z, by congr 1; omega, Nat.le_refl _, hR, hS, hH, ht0, hT⟩
      case round =>
        clear hR hS hH ht0 hT
        obtain ⟨i, Z, rfl, hi, hR, hS, hH, hTl, hT⟩ := hrel
        rcases Nat.eq_zero_or_pos i with rfl | hpos
        · have hU := SO.tail_up hTl.out
          rw [hnb] at hU
          go_wp2_with fail
          go_end0
          exact ⟨rfl, hT.out, Z, hR.out, hS.out, hU⟩
        · obtain ⟨j, rfl⟩ : ∃ j, i = j + 1 := ⟨i - 1, by omega⟩
          have ej : ((j + 1 : Nat) : Int) - 1 = (j : Int) := by omega
          obtain ⟨q, hq⟩ : ∃ q, a + j = q := ⟨_, rfl⟩
          have eq : (a : Int) + (j : Int) = (q : Int) := by omega
          have bq : q < N := by omega
          have ba : a < N := by omega
          have da := hR.out.cell a ba
          have dq := hR.out.cell q bq
          have gz := hR.out.fz
          obtain ⟨va, hva⟩ : ∃ v, Z a = v := ⟨_, rfl⟩
          obtain ⟨vq, hvq⟩ : ∃ v, Z q = v := ⟨_, rfl⟩
          have hR2 := W_hid (hR.out.swap a q ba bq)
          have hT2 := W_hid ((hT.out.setCell (p := ⟨g, a, none⟩) (.inl rfl) (.int .u64 (Z q : Int))).setCell (p := ⟨g, q, none⟩) (.inl rfl) (.int .u64 (Z a : Int)))
          have hS2 := W_hid (hS.out.step (i := a) (j := q) (Nat.le_refl _) hab (by omega) (by omega))
          have hP := W_hid (SO.heap_pop hH.out)
          have hTl2 := W_hid (SO.tail_pop hH.out hTl.out (by omega))
          rw [hq] at hP hTl2
          rw [hva, hvq] at hR2 hT2
          rw [hva] at da
          rw [hvq] at dq
          replace hq := W_hid hq
          replace hva := W_hid hva
          replace hvq := W_hid hvq
          rw [ej]
          clear hR hT hH hTl ej
          obtain ⟨V, hV⟩ : ∃ V, World.drew ((wr.setCell ⟨g, a, none⟩ (.int .u64 (vq : Int))).setCell ⟨g, q, none⟩ (.int .u64 (va : Int))) = V := ⟨_, rfl⟩
          have hR3 : RW V g N (SO.swp Z a q) rest := by rw [← hV]; exact hR2.out.drew
          have hT3 : Hid (Two g g w V) := by rw [← hV]; exact ⟨hT2.out.os, hT2.out.tape, hT2.out.output, hT2.out.size, hT2.out.block⟩
          have hc := W_hid (cS.out 0 j (SO.swp Z a q) V hR3 (Nat.zero_le _) (by omega) hP.out)
          clear hR3 hR2 hT2
          have hcs : q = a ∨ ¬ q = a := by omega
          rcases hcs with hqa | hne
          case' inl =>
            obtain rfl : va = vq := hva.out.symm.trans (by rw [← hqa]; exact hvq.out)
            subst hqa
          case' inr => have hne2 : ¬ a = q := fun e => hne e.symm
          all_goals
            go_wp2_with fail
            go_region
            try rw [hV]
            clear hV da dq gz
            go_wp2_with (go_at_call 202; refine hc.out.mono ?_; rintro e w5 ⟨rfl, hT5, Y5, hR5, hS5, hH5⟩)
            go_roundw
            case rel => exact ⟨j, Y5, by go_num, by omega, W_hid hR5, W_hid (hS2.out.trans (hS5.wide (by omega) (by omega))), W_hid hH5, W_hid (SO.tail_sw hTl2.out (hS5.wide (by omega) (Nat.le_refl _))), W_hid (hT3.out.trans hT5)⟩
            case measure => first | (simp [intOf]; omega) | simp [intOf]
    · obtain ⟨j, rfl⟩ : ∃ j, i = j + 1 := ⟨i - 1, by omega⟩
      have ej : ((j + 1 : Nat) : Int) - 1 = (j : Int) := by omega
      have hc := W_hid (cS.out j n Z wr hR.out (by omega) (by omega) hH.out)
      rw [ej]
      clear ej hR hH
      go_wp2_with (go_at_call 202; refine hc.out.mono ?_; rintro e w5 ⟨rfl, hT5, Y5, hR5, hS5, hH5⟩)
      go_roundw
      case rel => exact ⟨j, Y5, by go_num, by omega, W_hid hR5, W_hid (hS.out.trans (hS5.wide (by omega) (by omega))), W_hid hH5, W_hid (hT.out.trans hT5)⟩
      case measure => first | (simp [intOf]; omega) | simp [intOf]
end Go.Proofs.YthdohimjcjkneaaGreatDoor

/- partitionOrdered. -/
namespace Go.Proofs.YthdohimjcjkneaaGreatDoor
open Go.ChangeShapes Go.WideShapes Go.ChangeAt Go.RowKit
set_option linter.unusedVariables false
set_option linter.unusedSimpArgs false

set_option maxRecDepth 100000 in
set_option maxHeartbeats 8000000 in
theorem partition_any (g N cap : Nat) (rest : List Value) (a b pv : Nat) (X : Nat → Nat) (w : World) (h : RW w g N X rest) (hap : a ≤ pv) (hpb : pv < b) (hb : b ≤ N) (hN : N ≤ 65536) (hcap : N ≤ cap) :
    Calls Tryz.prog 198 #[.slice (some ⟨g, 0, none⟩) N cap, .int .i64 (a : Int), .int .i64 (b : Int), .int .i64 (pv : Int)] w fun e w' => ∃ (m : Nat) (t : Bool), e = .returned (.tuple #[.int .i64 (m : Int), .bool t]) ∧ a ≤ m ∧ m < b ∧ Two g g w w' ∧ ∃ Y, RW w' g N Y rest ∧ SO.Sw a b X Y ∧ SO.Parted Y a b m := by
  have ba : a < N := by omega
  have bp : pv < N := by omega
  have da := h.cell a ba
  have dp := h.cell pv bp
  have gz := h.fz
  have hR2 := W_hid (h.swap a pv ba bp)
  have hT2 := W_hid (((Two.refl g g w).setCell (p := ⟨g, a, none⟩) (.inl rfl) (.int .u64 (X pv : Int))).setCell (p := ⟨g, pv, none⟩) (.inl rfl) (.int .u64 (X a : Int)))
  have hS2 := W_hid ((SO.Sw.refl (a := a) (b := b) (X := X)).step (i := a) (j := pv) (Nat.le_refl _) (by omega) hap hpb)
  obtain ⟨va, hva⟩ : ∃ v, X a = v := ⟨_, rfl⟩
  obtain ⟨vp, hvp⟩ : ∃ v, X pv = v := ⟨_, rfl⟩
  rw [hva, hvp] at hR2 hT2
  rw [hva] at da
  rw [hvp] at dp
  obtain ⟨i0, hi0⟩ : ∃ i, a + 1 = i := ⟨_, rfl⟩
  obtain ⟨j0, hj0⟩ : ∃ j, b - 1 = j := ⟨_, rfl⟩
  have ei : (a : Int) + 1 = (i0 : Int) := by omega
  have ej : (b : Int) - 1 = (j0 : Int) := by omega
  have hj1 : j0 + 1 = b := by omega
  replace hva := W_hid hva
  replace hvp := W_hid hvp
  clear h hj0
  generalize hX2 : SO.swp X a pv = X2 at *
  replace hX2 := W_hid hX2
  have hM0 : Hid (SO.Mid X2 a b i0 j0) := ⟨fun p h1 h2 => by omega, fun p h1 h2 => by omega⟩
  replace hi0 := W_hid hi0
  have hbd : i0 ≤ j0 + 1 ∧ a < i0 ∧ j0 < b := by have := hi0.out; omega
  replace hj1 := W_hid hj1
  go_enter Tryz.func198, Tryz.ntmps198
  obtain ⟨V, hV⟩ : ∃ V, World.drew ((w.setCell ⟨g, a, none⟩ (.int .u64 (vp : Int))).setCell ⟨g, pv, none⟩ (.int .u64 (va : Int))) = V := ⟨_, rfl⟩
  have hR : RW V g N X2 rest := by rw [← hV]; exact hR2.out.drew
  have hT : Two g g w V := by rw [← hV]; exact ⟨hT2.out.os, hT2.out.tape, hT2.out.output, hT2.out.size, hT2.out.block⟩
  replace hR := W_hid hR
  replace hT := W_hid hT
  clear hR2 hT2
  go_upto_region 1 with fail
  go_cut [] from 12 to 167 (fun wc => wc = V)
  case first =>
    rename_i J1 K1 hJ1 hK1
    have hcs : pv = a ∨ ¬ pv = a := by omega
    rcases hcs with hqa | hne
    case' inl =>
      obtain rfl : va = vp := hva.out.symm.trans (by rw [← hqa]; exact hvp.out)
      subst hqa
    case' inr => have hne2 : ¬ a = pv := fun e => hne e.symm
    all_goals
      go_region
      try rw [hV]
      refine hK1 _ _ (Met.intro (hJ1 _ _ ?_))
      repeat apply Exists.intro
      exact ⟨rfl, rfl⟩
  case rest =>
  obtain rfl := hcut
  clear hV da dp gz
  go_upto_block 0 with fail
  go_cut [10] from 12 to 167 (fun v wx => ∃ i : Nat, v = .int .i64 (i : Int) ∧ i0 ≤ i ∧ i ≤ j0 + 1 ∧ Hid (SO.Mid X2 a b i j0) ∧ Hid (i ≤ j0 → X2 a ≤ X2 i) ∧ Hid (RW wx g N X2 rest) ∧ Hid (Two g g w wx))
  case first =>
    rename_i J1 K1 hJ1 hK1
    go_wp2_with fail
    go_loopw [10] (fun v wr => ∃ i : Nat, v = .int .i64 (i : Int) ∧ i0 ≤ i ∧ i ≤ j0 + 1 ∧ Hid (SO.Mid X2 a b i j0) ∧ Hid (RW wr g N X2 rest) ∧ Hid (Two g g w wr)) (fun v _ => j0 + 1 - (intOf v).toNat)
    case atStart => exact ⟨i0, rfl, Nat.le_refl _, hbd.1, hM0, hR, hT⟩
    case round =>
      obtain ⟨i, rfl, hi1, hi2, hM, hR, hT⟩ := hrel
      by_cases hle : i ≤ j0
      · have bi : i < N := by omega
        have di := hR.out.cell i bi
        have da := hR.out.cell a ba
        have gz := hR.out.fz
        obtain ⟨vi, hvi⟩ : ∃ v, X2 i = v := ⟨_, rfl⟩
        obtain ⟨vb, hvb⟩ : ∃ v, X2 a = v := ⟨_, rfl⟩
        rw [hvi] at di
        rw [hvb] at da
        have hL := W_hid (fun t => Calls.quiet_of_same (Less_any vi vb (wr.drewN t)))
        by_cases hl : vi < vb
        · rw [show decide (vi < vb) = true by simp [hl]] at hL
          have hM2 := W_hid (SO.mid_i hM.out (by rw [hvi, hvb]; exact hl))
          replace hl := W_hid hl
          replace hvi := W_hid hvi
          replace hvb := W_hid hvb
          go_wp2_with fail
          go_quiet ((go_at_call 196; exact hL.out _))
          go_wp2_with fail
          go_roundw
          case rel => exact ⟨i + 1, by go_num, by omega, by omega, hM2, W_hid (hR.out.drewN nq), W_hid (hT.out.drew nq)⟩
          case measure => first | (simp [intOf]; omega) | simp [intOf]
        · rw [show decide (vi < vb) = false by simp [hl]] at hL
          have hst : Hid (i ≤ j0 → X2 a ≤ X2 i) := fun _ => by rw [hvi, hvb]; omega
          replace hl := W_hid hl
          replace hvi := W_hid hvi
          replace hvb := W_hid hvb
          go_wp2_with fail
          go_quiet ((go_at_call 196; exact hL.out _))
          go_wp2_with fail
          go_meet
          exact ⟨i, rfl, hi1, hi2, hM, hst, W_hid (hR.out.drewN nq), W_hid (hT.out.drew nq)⟩
      · have hst : Hid (i ≤ j0 → X2 a ≤ X2 i) := fun h => absurd h hle
        go_wp2_with fail
        go_quiet (fail)
        go_wp2_with fail
        go_meet
        exact ⟨i, rfl, hi1, hi2, hM, hst, W_hid (hR.out.drewN nq), W_hid (hT.out.drew nq)⟩
  case rest =>
  clear hR hT hM0
  obtain ⟨i, rfl, hi1, hi2, hM, hst, hR, hT⟩ := hcut
  obtain ⟨W1, rfl⟩ : ∃ W, W = wc := ⟨wc, rfl⟩
  go_upto_block 2 with fail
  go_cut [11] from 12 to 167 (fun v wx => ∃ j : Nat, v = .int .i64 (j : Int) ∧ i ≤ j + 1 ∧ j ≤ j0 ∧ Hid (SO.Mid X2 a b i j) ∧ Hid (i ≤ j → X2 a ≤ X2 i) ∧ Hid (i ≤ j → X2 j < X2 a) ∧ Hid (RW wx g N X2 rest) ∧ Hid (Two g g w wx))
  case first =>
    rename_i J1 K1 hJ1 hK1
    go_wp2_with fail
    go_loopw [11] (fun v wr => ∃ j : Nat, v = .int .i64 (j : Int) ∧ i ≤ j + 1 ∧ j ≤ j0 ∧ Hid (SO.Mid X2 a b i j) ∧ Hid (RW wr g N X2 rest) ∧ Hid (Two g g w wr)) (fun v _ => (intOf v).toNat)
    case atStart => exact ⟨j0, rfl, hi2, Nat.le_refl _, hM, hR, hT⟩
    case round =>
      obtain ⟨j, rfl, hj1, hj2, hM, hR, hT⟩ := hrel
      by_cases hle : i ≤ j
      · have bj : j < N := by omega
        have dj := hR.out.cell j bj
        have da := hR.out.cell a ba
        have gz := hR.out.fz
        obtain ⟨vj, hvj⟩ : ∃ v, X2 j = v := ⟨_, rfl⟩
        obtain ⟨vb, hvb⟩ : ∃ v, X2 a = v := ⟨_, rfl⟩
        rw [hvj] at dj
        rw [hvb] at da
        have hL := W_hid (fun t => Calls.quiet_of_same (Less_any vj vb (wr.drewN t)))
        by_cases hl : vj < vb
        · rw [show decide (vj < vb) = true by simp [hl]] at hL
          have hst2 : Hid (i ≤ j → X2 j < X2 a) := fun _ => by rw [hvj, hvb]; exact hl
          have hst1 : Hid (i ≤ j → X2 a ≤ X2 i) := fun h => hst.out (by omega)
          replace hl := W_hid hl
          replace hvj := W_hid hvj
          replace hvb := W_hid hvb
          go_wp2_with fail
          go_quiet ((go_at_call 196; exact hL.out _))
          go_wp2_with fail
          go_meet
          exact ⟨j, rfl, hj1, hj2, hM, hst1, hst2, W_hid (hR.out.drewN nq), W_hid (hT.out.drew nq)⟩
        · rw [show decide (vj < vb) = false by simp [hl]] at hL
          obtain ⟨j', hj'⟩ : ∃ j', j = j' + 1 := ⟨j - 1, by omega⟩
          have ejj : (j : Int) - 1 = (j' : Int) := by omega
          have hM2 : Hid (SO.Mid X2 a b i j') := by
            subst hj'
            exact SO.mid_j hM.out (by rw [hvj, hvb]; omega)
          replace hl := W_hid hl
          replace hvj := W_hid hvj
          replace hvb := W_hid hvb
          have hjb : Hid (i ≤ j' + 1 ∧ j' ≤ j0 ∧ j' < j) := by show _ ∧ _ ∧ _; omega
          replace hj' := W_hid hj'
          go_wp2_with fail
          go_quiet ((go_at_call 196; exact hL.out _))
          go_wp2_with fail
          go_roundw
          case rel => exact ⟨j', rfl, hjb.out.1, hjb.out.2.1, hM2, W_hid (hR.out.drewN nq), W_hid (hT.out.drew nq)⟩
          case measure => (have := hjb.out.2.2); first | (simp [intOf]; omega) | simp [intOf]
      · have hst1 : Hid (i ≤ j → X2 a ≤ X2 i) := fun h => absurd h hle
        have hst2 : Hid (i ≤ j → X2 j < X2 a) := fun h => absurd h hle
        go_wp2_with fail
        go_quiet (fail)
        go_wp2_with fail
        go_meet
        exact ⟨j, rfl, hj1, hj2, hM, hst1, hst2, W_hid (hR.out.drewN nq), W_hid (hT.out.drew nq)⟩
  case rest =>
  clear hR hT hM hst
  obtain ⟨j, rfl, hj1, hj2, hM, hst1, hst2, hR, hT⟩ := hcut
  by_cases hgt : j < i
  · clear hst1 hst2
    have bj : j < N := by omega
    have dj := hR.out.cell j bj
    have da := hR.out.cell a ba
    have gz := hR.out.fz
    obtain ⟨vj, hvj⟩ : ∃ v, X2 j = v := ⟨_, rfl⟩
    obtain ⟨vb, hvb⟩ : ∃ v, X2 a = v := ⟨_, rfl⟩
    have hR2 := W_hid (hR.out.swap j a bj ba)
    have hT2 := W_hid ((hT.out.setCell (p := ⟨g, j, none⟩) (.inl rfl) (.int .u64 (X2 a : Int))).setCell (p := ⟨g, a, none⟩) (.inl rfl) (.int .u64 (X2 j : Int)))
    have haj : a ≤ j := by have := hbd.2.1; omega
    have hS5 := W_hid ((hS2.out).step (i := j) (j := a) haj (by omega) (Nat.le_refl _) (by omega))
    have hP5 := W_hid (SO.mid_done hM.out haj (by omega))
    rw [hvb, hvj] at hR2 hT2
    rw [hvj] at dj
    rw [hvb] at da
    have hjb : j < b := by omega
    replace hvj := W_hid hvj
    replace hvb := W_hid hvb
    obtain ⟨V5, hV5⟩ : ∃ V, World.drew ((wc.setCell ⟨g, j, none⟩ (.int .u64 (vb : Int))).setCell ⟨g, a, none⟩ (.int .u64 (vj : Int))) = V := ⟨_, rfl⟩
    have hR5 : RW V5 g N (SO.swp X2 j a) rest := by rw [← hV5]; exact hR2.out.drew
    have hT5 : Two g g w V5 := by rw [← hV5]; exact ⟨hT2.out.os, hT2.out.tape, hT2.out.output, hT2.out.size, hT2.out.block⟩
    replace hR5 := W_hid hR5
    replace hT5 := W_hid hT5
    clear hR2 hT2 hR hT hM
    have hcs : j = a ∨ ¬ j = a := by omega
    rcases hcs with hqa | hne
    case' inl =>
      obtain rfl : vj = vb := hvj.out.symm.trans (by rw [hqa]; exact hvb.out)
      subst hqa
    case' inr => have hne2 : ¬ a = j := fun e => hne e.symm
    all_goals
      go_wp2_with fail
      go_region
      try rw [hV5]
      go_wp2_with fail
      go_ret2
      exact ⟨j, true, rfl, haj, hjb, hT5.out, _, hR5.out, hS5.out, hP5.out⟩
  · 
    have hij : i < j := by
      have h1 := hst1.out (by omega)
      have h2 := hst2.out (by omega)
      rcases Nat.lt_or_ge i j with hh | hh
      · exact hh
      · exfalso
        have : i = j := by omega
        subst this
        omega
    have bi : i < N := by omega
    have bj : j < N := by omega
    have di := hR.out.cell i bi
    have dj := hR.out.cell j bj
    have gz := hR.out.fz
    obtain ⟨vi, hvi⟩ : ∃ v, X2 i = v := ⟨_, rfl⟩
    obtain ⟨vj, hvj⟩ : ∃ v, X2 j = v := ⟨_, rfl⟩
    have hR2 := W_hid (hR.out.swap i j bi bj)
    have hT2 := W_hid ((hT.out.setCell (p := ⟨g, i, none⟩) (.inl rfl) (.int .u64 (X2 j : Int))).setCell (p := ⟨g, j, none⟩) (.inl rfl) (.int .u64 (X2 i : Int)))
    have hai : a < i := by have := hbd.2.1; omega
    have hS5 := W_hid ((hS2.out).step (i := i) (j := j) (by omega) (by omega) (by omega) (by omega))
    have hM5 := W_hid (SO.mid_swap hM.out hai hij (hst1.out (by omega)) (hst2.out (by omega)))
    rw [hvi, hvj] at hR2 hT2
    rw [hvi] at di
    rw [hvj] at dj
    obtain ⟨j', hj'⟩ : ∃ j', j - 1 = j' := ⟨_, rfl⟩
    have ejj : (j : Int) - 1 = (j' : Int) := by omega
    rw [hj'] at hM5
    have hjb : Hid (i + 1 ≤ j' + 1 ∧ j' ≤ j0 ∧ j' < j) := by show _ ∧ _ ∧ _; omega
    replace hj' := W_hid hj'
    replace hvi := W_hid hvi
    replace hvj := W_hid hvj
    obtain ⟨V4, hV4⟩ : ∃ V, World.drew ((wc.setCell ⟨g, i, none⟩ (.int .u64 (vj : Int))).setCell ⟨g, j, none⟩ (.int .u64 (vi : Int))) = V := ⟨_, rfl⟩
    have hR4 : RW V4 g N (SO.swp X2 i j) rest := by rw [← hV4]; exact hR2.out.drew
    have hT4 : Two g g w V4 := by rw [← hV4]; exact ⟨hT2.out.os, hT2.out.tape, hT2.out.output, hT2.out.size, hT2.out.block⟩
    replace hR4 := W_hid hR4
    replace hT4 := W_hid hT4
    have hne1 : ¬ i = j := by omega
    have hne2 : ¬ j = i := by omega
    clear hR2 hT2 hR hT hM
    go_wp2_with fail
    go_region
    try rw [hV4]
    clear hV4 di dj gz
    go_upto_block 4 with fail
    go_wp2_with fail
    obtain ⟨W2, rfl⟩ : ∃ W, W = V4 := ⟨V4, rfl⟩
    go_loopw [10, 11] (fun u v wr => ∃ (i j : Nat) (Y : Nat → Nat), u = .int .i64 (i : Int) ∧ v = .int .i64 (j : Int) ∧ i0 ≤ i ∧ i ≤ j + 1 ∧ j ≤ j0 ∧ Hid (SO.Mid Y a b i j) ∧ Hid (RW wr g N Y rest) ∧ Hid (SO.Sw a b X Y) ∧ Hid (Two g g w wr)) (fun _ v _ => (intOf v).toNat)
    case atStart => exact ⟨i + 1, j', _, by go_num, rfl, by omega, hjb.out.1, hjb.out.2.1, hM5, hR4, hS5, hT4⟩
    case round =>
      clear hM5 hR4 hS5 hT4 hst1 hst2
      obtain ⟨i1, jm, Y, rfl, rfl, hi1, hij, hjj, hM, hR, hS, hT⟩ := hrel
      go_upto_block 6 with fail
      go_cut [10] from 99 to 152 (fun v wx => ∃ i : Nat, v = .int .i64 (i : Int) ∧ i0 ≤ i ∧ i ≤ jm + 1 ∧ Hid (SO.Mid Y a b i jm) ∧ Hid (i ≤ jm → Y a ≤ Y i) ∧ Hid (RW wx g N Y rest) ∧ Hid (Two g g w wx))
      case first =>
        rename_i J1 K1 hJ1 hK1
        go_wp2_with fail
        go_loopw [10] (fun v wr => ∃ i : Nat, v = .int .i64 (i : Int) ∧ i0 ≤ i ∧ i ≤ jm + 1 ∧ Hid (SO.Mid Y a b i jm) ∧ Hid (RW wr g N Y rest) ∧ Hid (Two g g w wr)) (fun v _ => jm + 1 - (intOf v).toNat)
        case atStart => exact ⟨i1, rfl, hi1, hij, hM, hR, hT⟩
        case round =>
          obtain ⟨i, rfl, hi1, hi2, hM, hR, hT⟩ := hrel
          by_cases hle : i ≤ jm
          · have bi : i < N := by omega
            have di := hR.out.cell i bi
            have da := hR.out.cell a ba
            have gz := hR.out.fz
            obtain ⟨vi, hvi⟩ : ∃ v, Y i = v := ⟨_, rfl⟩
            obtain ⟨vb, hvb⟩ : ∃ v, Y a = v := ⟨_, rfl⟩
            rw [hvi] at di
            rw [hvb] at da
            have hL := W_hid (fun t => Calls.quiet_of_same (Less_any vi vb (wr.drewN t)))
            by_cases hl : vi < vb
            · rw [show decide (vi < vb) = true by simp [hl]] at hL
              have hM2 := W_hid (SO.mid_i hM.out (by rw [hvi, hvb]; exact hl))
              replace hl := W_hid hl
              replace hvi := W_hid hvi
              replace hvb := W_hid hvb
              go_wp2_with fail
              go_quiet ((go_at_call 196; exact hL.out _))
              go_wp2_with fail
              go_roundw
              case rel => exact ⟨i + 1, by go_num, by omega, by omega, hM2, W_hid (hR.out.drewN nq), W_hid (hT.out.drew nq)⟩
              case measure => first | (simp [intOf]; omega) | simp [intOf]
            · rw [show decide (vi < vb) = false by simp [hl]] at hL
              have hst : Hid (i ≤ jm → Y a ≤ Y i) := fun _ => by rw [hvi, hvb]; omega
              replace hl := W_hid hl
              replace hvi := W_hid hvi
              replace hvb := W_hid hvb
              go_wp2_with fail
              go_quiet ((go_at_call 196; exact hL.out _))
              go_wp2_with fail
              go_meet
              exact ⟨i, rfl, hi1, hi2, hM, hst, W_hid (hR.out.drewN nq), W_hid (hT.out.drew nq)⟩
          · have hst : Hid (i ≤ jm → Y a ≤ Y i) := fun h => absurd h hle
            go_wp2_with fail
            go_quiet (fail)
            go_wp2_with fail
            go_meet
            exact ⟨i, rfl, hi1, hi2, hM, hst, W_hid (hR.out.drewN nq), W_hid (hT.out.drew nq)⟩
      case rest =>
      clear hR hT hM
      obtain ⟨i, rfl, hi1, hi2, hM, hst, hR, hT⟩ := hcut
      obtain ⟨W3, rfl⟩ : ∃ W, W = wc := ⟨wc, rfl⟩
      go_upto_block 8 with fail
      go_cut [11] from 99 to 152 (fun v wx => ∃ j : Nat, v = .int .i64 (j : Int) ∧ i ≤ j + 1 ∧ j ≤ jm ∧ Hid (SO.Mid Y a b i j) ∧ Hid (i ≤ j → Y a ≤ Y i) ∧ Hid (i ≤ j → Y j < Y a) ∧ Hid (RW wx g N Y rest) ∧ Hid (Two g g w wx))
      case first =>
        rename_i J1 K1 hJ1 hK1
        go_wp2_with fail
        go_loopw [11] (fun v wr => ∃ j : Nat, v = .int .i64 (j : Int) ∧ i ≤ j + 1 ∧ j ≤ jm ∧ Hid (SO.Mid Y a b i j) ∧ Hid (RW wr g N Y rest) ∧ Hid (Two g g w wr)) (fun v _ => (intOf v).toNat)
        case atStart => exact ⟨jm, rfl, hi2, Nat.le_refl _, hM, hR, hT⟩
        case round =>
          obtain ⟨j, rfl, hj1, hj2, hM, hR, hT⟩ := hrel
          by_cases hle : i ≤ j
          · have bj : j < N := by omega
            have dj := hR.out.cell j bj
            have da := hR.out.cell a ba
            have gz := hR.out.fz
            obtain ⟨vj, hvj⟩ : ∃ v, Y j = v := ⟨_, rfl⟩
            obtain ⟨vb, hvb⟩ : ∃ v, Y a = v := ⟨_, rfl⟩
            rw [hvj] at dj
            rw [hvb] at da
            have hL := W_hid (fun t => Calls.quiet_of_same (Less_any vj vb (wr.drewN t)))
            by_cases hl : vj < vb
            · rw [show decide (vj < vb) = true by simp [hl]] at hL
              have hst2 : Hid (i ≤ j → Y j < Y a) := fun _ => by rw [hvj, hvb]; exact hl
              have hst1 : Hid (i ≤ j → Y a ≤ Y i) := fun h => hst.out (by omega)
              replace hl := W_hid hl
              replace hvj := W_hid hvj
              replace hvb := W_hid hvb
              go_wp2_with fail
              go_quiet ((go_at_call 196; exact hL.out _))
              go_wp2_with fail
              go_meet
              exact ⟨j, rfl, hj1, hj2, hM, hst1, hst2, W_hid (hR.out.drewN nq), W_hid (hT.out.drew nq)⟩
            · rw [show decide (vj < vb) = false by simp [hl]] at hL
              obtain ⟨j', hj'⟩ : ∃ j', j = j' + 1 := ⟨j - 1, by omega⟩
              have ejj : (j : Int) - 1 = (j' : Int) := by omega
              have hM2 : Hid (SO.Mid Y a b i j') := by
                subst hj'
                exact SO.mid_j hM.out (by rw [hvj, hvb]; omega)
              replace hl := W_hid hl
              replace hvj := W_hid hvj
              replace hvb := W_hid hvb
              have hjb : Hid (i ≤ j' + 1 ∧ j' ≤ jm ∧ j' < j) := by show _ ∧ _ ∧ _; omega
              replace hj' := W_hid hj'
              go_wp2_with fail
              go_quiet ((go_at_call 196; exact hL.out _))
              go_wp2_with fail
              go_roundw
              case rel => exact ⟨j', rfl, hjb.out.1, hjb.out.2.1, hM2, W_hid (hR.out.drewN nq), W_hid (hT.out.drew nq)⟩
              case measure => (have := hjb.out.2.2); first | (simp [intOf]; omega) | simp [intOf]
          · have hst1 : Hid (i ≤ j → Y a ≤ Y i) := fun h => absurd h hle
            have hst2 : Hid (i ≤ j → Y j < Y a) := fun h => absurd h hle
            go_wp2_with fail
            go_quiet (fail)
            go_wp2_with fail
            go_meet
            exact ⟨j, rfl, hj1, hj2, hM, hst1, hst2, W_hid (hR.out.drewN nq), W_hid (hT.out.drew nq)⟩
      case rest =>
      clear hR hT hM hst
      obtain ⟨j, rfl, hj1, hj2, hM, hst1, hst2, hR, hT⟩ := hcut
      by_cases hgt : j < i
      · clear hst1 hst2
        have bj : j < N := by omega
        have dj := hR.out.cell j bj
        have da := hR.out.cell a ba
        have gz := hR.out.fz
        obtain ⟨vj, hvj⟩ : ∃ v, Y j = v := ⟨_, rfl⟩
        obtain ⟨vb, hvb⟩ : ∃ v, Y a = v := ⟨_, rfl⟩
        have hR2 := W_hid (hR.out.swap j a bj ba)
        have hT2 := W_hid ((hT.out.setCell (p := ⟨g, j, none⟩) (.inl rfl) (.int .u64 (Y a : Int))).setCell (p := ⟨g, a, none⟩) (.inl rfl) (.int .u64 (Y j : Int)))
        have haj : a ≤ j := by have := hbd.2.1; omega
        have hS5 := W_hid ((hS.out).step (i := j) (j := a) haj (by omega) (Nat.le_refl _) (by omega))
        have hP5 := W_hid (SO.mid_done hM.out haj (by omega))
        rw [hvb, hvj] at hR2 hT2
        rw [hvj] at dj
        rw [hvb] at da
        have hjb : j < b := by omega
        replace hvj := W_hid hvj
        replace hvb := W_hid hvb
        obtain ⟨V5, hV5⟩ : ∃ V, World.drew ((wc.setCell ⟨g, j, none⟩ (.int .u64 (vb : Int))).setCell ⟨g, a, none⟩ (.int .u64 (vj : Int))) = V := ⟨_, rfl⟩
        have hR5 : RW V5 g N (SO.swp Y j a) rest := by rw [← hV5]; exact hR2.out.drew
        have hT5 : Two g g w V5 := by rw [← hV5]; exact ⟨hT2.out.os, hT2.out.tape, hT2.out.output, hT2.out.size, hT2.out.block⟩
        replace hR5 := W_hid hR5
        replace hT5 := W_hid hT5
        clear hR2 hT2 hR hT hM
        have hcs : j = a ∨ ¬ j = a := by omega
        rcases hcs with hqa | hne
        case' inl =>
          obtain rfl : vj = vb := hvj.out.symm.trans (by rw [hqa]; exact hvb.out)
          subst hqa
        case' inr => have hne2 : ¬ a = j := fun e => hne e.symm
        all_goals
          go_wp2_with fail
          go_region
          try rw [hV5]
          go_wp2_with fail
          go_ret2
          exact ⟨j, false, rfl, haj, hjb, hT5.out, _, hR5.out, hS5.out, hP5.out⟩
      · 
        have hij : i < j := by
          have h1 := hst1.out (by omega)
          have h2 := hst2.out (by omega)
          rcases Nat.lt_or_ge i j with hh | hh
          · exact hh
          · exfalso
            have : i = j := by omega
            subst this
            omega
        have bi : i < N := by omega
        have bj : j < N := by omega
        have di := hR.out.cell i bi
        have dj := hR.out.cell j bj
        have gz := hR.out.fz
        obtain ⟨vi, hvi⟩ : ∃ v, Y i = v := ⟨_, rfl⟩
        obtain ⟨vj, hvj⟩ : ∃ v, Y j = v := ⟨_, rfl⟩
        have hR2 := W_hid (hR.out.swap i j bi bj)
        have hT2 := W_hid ((hT.out.setCell (p := ⟨g, i, none⟩) (.inl rfl) (.int .u64 (Y j : Int))).setCell (p := ⟨g, j, none⟩) (.inl rfl) (.int .u64 (Y i : Int)))
        have hai : a < i := by have := hbd.2.1; omega
        have hS5 := W_hid ((hS.out).step (i := i) (j := j) (by omega) (by omega) (by omega) (by omega))
        have hM5 := W_hid (SO.mid_swap hM.out hai hij (hst1.out (by omega)) (hst2.out (by omega)))
        rw [hvi, hvj] at hR2 hT2
        rw [hvi] at di
        rw [hvj] at dj
        obtain ⟨j', hj'⟩ : ∃ j', j - 1 = j' := ⟨_, rfl⟩
        have ejj : (j : Int) - 1 = (j' : Int) := by omega
        rw [hj'] at hM5
        have hjb : Hid (i + 1 ≤ j' + 1 ∧ j' ≤ j0 ∧ j' < j) := by show _ ∧ _ ∧ _; omega
        replace hj' := W_hid hj'
        replace hvi := W_hid hvi
        replace hvj := W_hid hvj
        obtain ⟨V4, hV4⟩ : ∃ V, World.drew ((wc.setCell ⟨g, i, none⟩ (.int .u64 (vj : Int))).setCell ⟨g, j, none⟩ (.int .u64 (vi : Int))) = V := ⟨_, rfl⟩
        have hR4 : RW V4 g N (SO.swp Y i j) rest := by rw [← hV4]; exact hR2.out.drew
        have hT4 : Two g g w V4 := by rw [← hV4]; exact ⟨hT2.out.os, hT2.out.tape, hT2.out.output, hT2.out.size, hT2.out.block⟩
        replace hR4 := W_hid hR4
        replace hT4 := W_hid hT4
        have hne1 : ¬ i = j := by omega
        have hne2 : ¬ j = i := by omega
        clear hR2 hT2 hR hT hM
        go_wp2_with fail
        go_region
        try rw [hV4]
        clear hV4 di dj gz
        go_wp2_with fail
        go_roundw
        case rel => exact ⟨i + 1, j', _, by go_num, rfl, by omega, hjb.out.1, by have := hjb.out.2.1; omega, hM5, hR4, hS5, hT4⟩
        case measure => (have := hjb.out.2.2); first | (simp [intOf]; omega) | simp [intOf]
end Go.Proofs.YthdohimjcjkneaaGreatDoor

/- partialInsertionSortOrdered. -/
namespace Go.Proofs.YthdohimjcjkneaaGreatDoor
open Go.ChangeShapes Go.WideShapes Go.ChangeAt Go.RowKit
set_option linter.unusedVariables false
set_option linter.unusedSimpArgs false

theorem up_cut {Y : Nat → Nat} {a b c : Nat} (h : SO.Up Y a b) (hc : c ≤ b) : SO.Up Y a c := fun p q h1 h2 h3 => h p q h1 h2 (by omega)
theorem up_away {Y : Nat → Nat} {a i p q : Nat} (h : SO.Up Y a i) (hp : i ≤ p) (hq : i ≤ q) : SO.Up (SO.swp Y p q) a i := fun r s h1 h2 h3 => by
  rw [SO.swp_o _ (by omega) (by omega), SO.swp_o _ (by omega) (by omega)]
  exact h r s h1 h2 h3

set_option maxRecDepth 100000 in
set_option maxHeartbeats 8000000 in
theorem partins_any (g N cap : Nat) (rest : List Value) (a b : Nat) (X : Nat → Nat) (w : World) (h : RW w g N X rest) (hab : a < b) (hb : b ≤ N) (hN : N ≤ 65536) (hcap : N ≤ cap) (hBel : SO.Bel X a b) :
    Calls Tryz.prog 195 #[.slice (some ⟨g, 0, none⟩) N cap, .int .i64 (a : Int), .int .i64 (b : Int)] w fun e w' => ∃ t : Bool, e = .returned (.bool t) ∧ Two g g w w' ∧ ∃ Y, RW w' g N Y rest ∧ SO.Sw a b X Y ∧ (t = true → SO.Up Y a b) := by
  have h := W_hid h
  have hBel := W_hid hBel
  have hU0 : Hid (SO.Up X a (a + 1)) := SO.up_one X a
  obtain ⟨n, hn⟩ : ∃ n, b - a = n := ⟨_, rfl⟩
  have hni : (b : Int) - (a : Int) = (n : Int) := by omega
  replace hn := W_hid hn
  go_enter Tryz.func195, Tryz.ntmps195
  go_wp2_with fail
  go_loopw [7, 8] (fun u v wr => ∃ (i c : Nat) (Z : Nat → Nat), u = .int .i64 (i : Int) ∧ v = .int .i64 (c : Int) ∧ c ≤ 5 ∧ a + 1 ≤ i ∧ i ≤ b ∧ Hid (RW wr g N Z rest) ∧ Hid (SO.Sw a b X Z) ∧ Hid (SO.Up Z a i) ∧ Hid (Two g g w wr)) (fun _ v _ => 5 - (intOf v).toNat)
  case atStart => exact ⟨a + 1, 0, X, by go_num, rfl, by omega, Nat.le_refl _, by omega, h, W_hid .refl, hU0, W_hid (Two.refl _ _ _)⟩
  case round =>
    clear hU0
    obtain ⟨i1, c, Z, rfl, rfl, hc, hi1, hi2, hR, hS, hU, hT⟩ := hrel
    by_cases hc5 : c < 5
    · go_upto_block 2 with fail
      go_cut [7] from 13 to 132 (fun u wx => ∃ i : Nat, u = .int .i64 (i : Int) ∧ a + 1 ≤ i ∧ i ≤ b ∧ Hid (RW wx g N Z rest) ∧ Hid (SO.Up Z a i) ∧ Hid (Two g g w wx))
      case first =>
        go_wp2_with fail
        go_loopw [7] (fun u wr => ∃ i : Nat, u = .int .i64 (i : Int) ∧ a + 1 ≤ i ∧ i ≤ b ∧ Hid (RW wr g N Z rest) ∧ Hid (SO.Up Z a i) ∧ Hid (Two g g w wr)) (fun u _ => b - (intOf u).toNat)
        case atStart => exact ⟨i1, rfl, hi1, hi2, hR, hU, hT⟩
        case round =>
          clear hR hU hT hi1 hi2
          obtain ⟨i, rfl, hi1, hi2, hR, hU, hT⟩ := hrel
          by_cases hlt : i < b
          · obtain ⟨k, hk⟩ : ∃ k, i - 1 = k := ⟨_, rfl⟩
            have ek : (i : Int) - 1 = (k : Int) := by omega
            have di := hR.out.cell i (by omega)
            have dk := hR.out.cell k (by omega)
            have gz := hR.out.fz
            obtain ⟨vi, hvi⟩ : ∃ v, Z i = v := ⟨_, rfl⟩
            obtain ⟨vk, hvk⟩ : ∃ v, Z k = v := ⟨_, rfl⟩
            rw [hvi] at di
            rw [hvk] at dk
            have hL := W_hid (fun t => Calls.quiet_of_same (Less_any vi vk (wr.drewN t)))
            have bk : k < N := by omega
            by_cases hl : vi < vk
            · rw [show decide (vi < vk) = true by simp [hl]] at hL
              replace hl := W_hid hl
              replace hvi := W_hid hvi
              replace hvk := W_hid hvk
              replace hk := W_hid hk
              go_wp2_with fail
              go_quiet ((go_at_call 196; exact hL.out _))
              go_wp2_with fail
              go_meet
              exact ⟨i, rfl, hi1, hi2, W_hid (hR.out.drewN nq), hU, W_hid (hT.out.drew nq)⟩
            · rw [show decide (vi < vk) = false by simp [hl]] at hL
              have hU2 := W_hid (SO.up_next hU.out (by omega) (by rw [hk, hvi, hvk]; omega))
              replace hl := W_hid hl
              replace hvi := W_hid hvi
              replace hvk := W_hid hvk
              replace hk := W_hid hk
              go_wp2_with fail
              go_quiet ((go_at_call 196; exact hL.out _))
              go_wp2_with fail
              go_roundw
              case rel => exact ⟨i + 1, by go_num, by omega, by omega, W_hid (hR.out.drewN nq), hU2, W_hid (hT.out.drew nq)⟩
              case measure => first | (simp [intOf]; omega) | simp [intOf]
          · go_wp2_with fail
            go_quiet (fail)
            go_wp2_with fail
            go_meet
            exact ⟨i, rfl, hi1, hi2, W_hid (hR.out.drewN nq), hU, W_hid (hT.out.drew nq)⟩
      case rest =>
      clear hR hU hT hi1 hi2
      obtain ⟨i, rfl, hi1, hi2, hR, hU, hT⟩ := hcut
      by_cases hib : i = b
      · have hU2 := hU.out
        rw [hib] at hU2
        have hib2 : ((i : Int) == (b : Int)) = true := by simp [hib]
        replace hU2 := W_hid hU2
        subst hib
        go_wp2_with fail
        go_ret
        exact ⟨true, rfl, hT.out, Z, hR.out, hS.out, fun _ => hU2.out⟩
      · have hib2 : ((i : Int) == (b : Int)) = false := by simp; omega
        have hlt : i < b := by omega
        by_cases h50 : n < 50
        · go_wp2_with fail
          go_ret
          exact ⟨false, rfl, hT.out, Z, hR.out, hS.out, fun h => by cases h⟩
        · obtain ⟨k, hk⟩ : ∃ k, i = k + 1 := ⟨i - 1, by omega⟩
          have ek : (i : Int) - 1 = (k : Int) := by omega
          have hak : a ≤ k := by omega
          have bI := (show i < N by omega)
          have bJ := (show k < N by omega)
          have dI := hR.out.cell i bI
          have dJ := hR.out.cell k bJ
          have gz := hR.out.fz
          obtain ⟨vI, hvI⟩ : ∃ v, Z i = v := ⟨_, rfl⟩
          obtain ⟨vJ, hvJ⟩ : ∃ v, Z k = v := ⟨_, rfl⟩
          have hR2 := W_hid (hR.out.swap i k bI bJ)
          have hT2 := W_hid ((hT.out.setCell (p := ⟨g, i, none⟩) (.inl rfl) (.int .u64 (Z k : Int))).setCell (p := ⟨g, k, none⟩) (.inl rfl) (.int .u64 (Z i : Int)))
          rw [hvI, hvJ] at hR2 hT2
          rw [hvI] at dI
          rw [hvJ] at dJ
          replace hvI := W_hid hvI
          replace hvJ := W_hid hvJ
          obtain ⟨V1, hV1⟩ : ∃ V, World.drew ((wc.setCell ⟨g, i, none⟩ (.int .u64 (vJ : Int))).setCell ⟨g, k, none⟩ (.int .u64 (vI : Int))) = V := ⟨_, rfl⟩
          have hRs : RW V1 g N (SO.swp Z i k) rest := by rw [← hV1]; exact hR2.out.drew
          have hTs : Two g g w V1 := by rw [← hV1]; exact ⟨hT2.out.os, hT2.out.tape, hT2.out.output, hT2.out.size, hT2.out.block⟩
          replace hRs := W_hid hRs
          replace hTs := W_hid hTs
          have hne1 : ¬ i = k := by omega
          have hne2 : ¬ k = i := by omega
          clear hR2 hT2
          have hSs := W_hid (hS.out.step (i := i) (j := k) (by omega) hlt hak (by omega))
          have hUs : Hid (SO.Up (SO.swp Z i k) a k) := up_away (up_cut hU.out (by omega)) (by omega) (Nat.le_refl _)
          have hU1 : Hid (k = a → SO.Up (SO.swp Z i k) a i) := fun e => by subst e; rw [hk]; exact SO.up_one _ _
          replace hk := W_hid hk
          clear hR hT hU hS
          go_wp2_with fail
          go_region
          try rw [hV1]
          clear hV1 dI dJ gz
          generalize SO.swp Z i k = Z1 at *
          obtain ⟨n2, hn2⟩ : ∃ n2, i - a = n2 := ⟨_, rfl⟩
          have hn2i : (i : Int) - (a : Int) = (n2 : Int) := by omega
          have hk2 : Hid (i = k + 1) := hk
          obtain ⟨n3, hn3⟩ : ∃ n3, b - i = n3 := ⟨_, rfl⟩
          have hn3i : (b : Int) - (i : Int) = (n3 : Int) := by omega
          have hbn : n2 ≤ 65536 ∧ n3 ≤ 65536 := by omega
          replace hn2 := W_hid hn2
          replace hn3 := W_hid hn3
          clear hk
          go_upto_if 61 with fail
          go_cut [9] from 13 to 132 (fun _ wx => ∃ Y : Nat → Nat, Hid (RW wx g N Y rest) ∧ Hid (SO.Sw a b X Y) ∧ Hid (SO.Up Y a i) ∧ Hid (Two g g w wx))
          case first =>
            by_cases h2 : 2 ≤ n2
            · go_wp2_with fail
              go_loopw [9] (fun v wr => ∃ (j : Nat) (Y : Nat → Nat), v = .int .i64 (j : Int) ∧ a ≤ j ∧ j ≤ k ∧ Hid (RW wr g N Y rest) ∧ Hid (SO.Sw a b X Y) ∧ Hid (SO.Ins Y a k j) ∧ Hid (Two g g w wr)) (fun v _ => (intOf v).toNat)
              case atStart => exact ⟨k, Z1, rfl, hak, Nat.le_refl _, hRs, hSs, W_hid (SO.ins_start hUs.out), hTs⟩
              case round =>
                clear hRs hSs hUs hTs hU1
                obtain ⟨j, Y, rfl, haj, hjk, hR, hS, hI, hT⟩ := hrel
                by_cases hj1 : 1 ≤ j
                · obtain ⟨q, hq⟩ : ∃ q, j = q + 1 := ⟨j - 1, by omega⟩
                  have eq : (j : Int) - 1 = (q : Int) := by omega
                  have dj := hR.out.cell j (by omega)
                  have dq := hR.out.cell q (by omega)
                  have gz := hR.out.fz
                  obtain ⟨vj, hvj⟩ : ∃ v, Y j = v := ⟨_, rfl⟩
                  obtain ⟨vq, hvq⟩ : ∃ v, Y q = v := ⟨_, rfl⟩
                  rw [hvj] at dj
                  rw [hvq] at dq
                  have hL := W_hid (fun t => Calls.quiet_of_same (Less_any vj vq (wr.drewN t)))
                  by_cases hl : vj < vq
                  · rw [show decide (vj < vq) = true by simp [hl]] at hL
                    have hja : a < j := by
                      rcases Nat.lt_or_ge a j with hh | hh
                      · exact hh
                      · exfalso
                        rcases SO.bel_sw hBel.out hS.out with h0 | h0
                        · omega
                        · have h1 := h0 j haj (by omega)
                          rw [show a - 1 = q by omega, hvj, hvq] at h1
                          omega
                    have hI2 : Hid (SO.Ins (SO.swp Y j q) a k q) := by
                      have h1 := SO.ins_swap hI.out hja hjk (by rw [show j - 1 = q by omega, hvj, hvq]; exact hl)
                      rw [show j - 1 = q by omega] at h1
                      exact h1
                    have hS2 := W_hid (hS.out.step (i := j) (j := q) haj (by omega) (by omega) (by omega))
                    have hqq : Hid (a ≤ q ∧ q ≤ k ∧ q < j) := by show _ ∧ _ ∧ _; omega
                    replace hl := W_hid hl
                    replace hvj := W_hid hvj
                    replace hvq := W_hid hvq
                    replace hq := W_hid hq
                    go_wp2_with fail
                    go_quiet ((go_at_call 196; exact hL.out _))
                    go_wp2_with fail
                    have hqx := hq.out
                    obtain ⟨W, hW⟩ : ∃ W, wr.drewN nq = W := ⟨_, rfl⟩
                    replace hR : RW W g N Y rest := by rw [← hW]; exact hR.out.drewN nq
                    replace hT : Two g g w W := by rw [← hW]; exact hT.out.drew nq
                    replace hR := W_hid hR
                    replace hT := W_hid hT
                    rw [hW]
                    clear hW dj dq gz hS hI
                    have bI := (show j < N by omega)
                    have bJ := (show q < N by omega)
                    have dI := hR.out.cell j bI
                    have dJ := hR.out.cell q bJ
                    have gz := hR.out.fz
                    obtain ⟨vI, hvI⟩ : ∃ v, Y j = v := ⟨_, rfl⟩
                    obtain ⟨vJ, hvJ⟩ : ∃ v, Y q = v := ⟨_, rfl⟩
                    have hR2 := W_hid (hR.out.swap j q bI bJ)
                    have hT2 := W_hid ((hT.out.setCell (p := ⟨g, j, none⟩) (.inl rfl) (.int .u64 (Y q : Int))).setCell (p := ⟨g, q, none⟩) (.inl rfl) (.int .u64 (Y j : Int)))
                    rw [hvI, hvJ] at hR2 hT2
                    rw [hvI] at dI
                    rw [hvJ] at dJ
                    replace hvI := W_hid hvI
                    replace hvJ := W_hid hvJ
                    obtain ⟨V2, hV2⟩ : ∃ V, World.drew ((W.setCell ⟨g, j, none⟩ (.int .u64 (vJ : Int))).setCell ⟨g, q, none⟩ (.int .u64 (vI : Int))) = V := ⟨_, rfl⟩
                    have hRt : RW V2 g N (SO.swp Y j q) rest := by rw [← hV2]; exact hR2.out.drew
                    have hTt : Two g g w V2 := by rw [← hV2]; exact ⟨hT2.out.os, hT2.out.tape, hT2.out.output, hT2.out.size, hT2.out.block⟩
                    replace hRt := W_hid hRt
                    replace hTt := W_hid hTt
                    have hne1 : ¬ j = q := by omega
                    have hne2 : ¬ q = j := by omega
                    clear hR2 hT2
                    clear hR hT hqx
                    go_region
                    try rw [hV2]
                    clear hV2 dI dJ gz
                    go_wp2_with fail
                    go_roundw
                    case rel => exact ⟨q, _, rfl, hqq.out.1, hqq.out.2.1, hRt, hS2, hI2, hTt⟩
                    case measure => (have := hqq.out.2.2); first | (simp [intOf]; omega) | simp [intOf]
                  · rw [show decide (vj < vq) = false by simp [hl]] at hL
                    have hfin : Hid (SO.Up Y a i) := by
                      have h1 := SO.ins_done hI.out haj hjk (.inr (by rw [show j - 1 = q by omega, hvj, hvq]; omega))
                      rw [← hk2.out] at h1
                      exact h1
                    replace hl := W_hid hl
                    replace hvj := W_hid hvj
                    replace hvq := W_hid hvq
                    replace hq := W_hid hq
                    go_wp2_with fail
                    go_quiet ((go_at_call 196; exact hL.out _))
                    go_wp2_with fail
                    go_meet
                    exact ⟨Y, W_hid (hR.out.drewN nq), hS, hfin, W_hid (hT.out.drew nq)⟩
                · have hfin : Hid (SO.Up Y a i) := by
                    have h1 := SO.ins_done hI.out haj hjk (.inl (by omega))
                    rw [← hk2.out] at h1
                    exact h1
                  go_wp2_with fail
                  go_meet
                  exact ⟨Y, hR, hS, hfin, hT⟩
            · have hfin := W_hid (hU1.out (by have := hn2.out; have := hk2.out; omega))
              go_wp2_with fail
              go_meet
              exact ⟨Z1, hRs, hSs, hfin, hTs⟩
          case rest =>
          clear hRs hSs hUs hTs hU1
          obtain ⟨Z2, hRs, hSs, hUs, hTs⟩ := hcut
          by_cases h3 : 2 ≤ n3
          · go_wp2_with fail
            obtain ⟨W4, rfl⟩ : ∃ W, W = wc := ⟨wc, rfl⟩
            go_loopw [10] (fun v wr => ∃ (j : Nat) (Y : Nat → Nat), v = .int .i64 (j : Int) ∧ i + 1 ≤ j ∧ j ≤ b ∧ Hid (RW wr g N Y rest) ∧ Hid (SO.Sw a b X Y) ∧ Hid (SO.Up Y a i) ∧ Hid (Two g g w wr)) (fun v _ => b - (intOf v).toNat)
            case atStart => exact ⟨i + 1, Z2, by go_num, Nat.le_refl _, by omega, hRs, hSs, hUs, hTs⟩
            case round =>
              clear hRs hSs hUs hTs
              obtain ⟨j, Y, rfl, hij, hjb, hR, hS, hU, hT⟩ := hrel
              by_cases hjl : j < b
              · obtain ⟨q, hq⟩ : ∃ q, j = q + 1 := ⟨j - 1, by omega⟩
                have eq : (j : Int) - 1 = (q : Int) := by omega
                have dj := hR.out.cell j (by omega)
                have dq := hR.out.cell q (by omega)
                have gz := hR.out.fz
                obtain ⟨vj, hvj⟩ : ∃ v, Y j = v := ⟨_, rfl⟩
                obtain ⟨vq, hvq⟩ : ∃ v, Y q = v := ⟨_, rfl⟩
                rw [hvj] at dj
                rw [hvq] at dq
                have hL := W_hid (fun t => Calls.quiet_of_same (Less_any vj vq (wr.drewN t)))
                have bq : q < N := by omega
                by_cases hl : vj < vq
                · rw [show decide (vj < vq) = true by simp [hl]] at hL
                  have hU2 : Hid (SO.Up (SO.swp Y j q) a i) := up_away hU.out (by omega) (by omega)
                  have hS2 := W_hid (hS.out.step (i := j) (j := q) (by omega) (by omega) (by omega) (by omega))
                  replace hl := W_hid hl
                  replace hvj := W_hid hvj
                  replace hvq := W_hid hvq
                  replace hq := W_hid hq
                  go_wp2_with fail
                  go_quiet ((go_at_call 196; exact hL.out _))
                  go_wp2_with fail
                  have hqx := hq.out
                  obtain ⟨W, hW⟩ : ∃ W, wr.drewN nq = W := ⟨_, rfl⟩
                  replace hR : RW W g N Y rest := by rw [← hW]; exact hR.out.drewN nq
                  replace hT : Two g g w W := by rw [← hW]; exact hT.out.drew nq
                  replace hR := W_hid hR
                  replace hT := W_hid hT
                  rw [hW]
                  clear hW dj dq gz hS hU
                  have bI := (show j < N by omega)
                  have bJ := (show q < N by omega)
                  have dI := hR.out.cell j bI
                  have dJ := hR.out.cell q bJ
                  have gz := hR.out.fz
                  obtain ⟨vI, hvI⟩ : ∃ v, Y j = v := ⟨_, rfl⟩
                  obtain ⟨vJ, hvJ⟩ : ∃ v, Y q = v := ⟨_, rfl⟩
                  have hR2 := W_hid (hR.out.swap j q bI bJ)
                  have hT2 := W_hid ((hT.out.setCell (p := ⟨g, j, none⟩) (.inl rfl) (.int .u64 (Y q : Int))).setCell (p := ⟨g, q, none⟩) (.inl rfl) (.int .u64 (Y j : Int)))
                  rw [hvI, hvJ] at hR2 hT2
                  rw [hvI] at dI
                  rw [hvJ] at dJ
                  replace hvI := W_hid hvI
                  replace hvJ := W_hid hvJ
                  obtain ⟨V2, hV2⟩ : ∃ V, World.drew ((W.setCell ⟨g, j, none⟩ (.int .u64 (vJ : Int))).setCell ⟨g, q, none⟩ (.int .u64 (vI : Int))) = V := ⟨_, rfl⟩
                  have hRt : RW V2 g N (SO.swp Y j q) rest := by rw [← hV2]; exact hR2.out.drew
                  have hTt : Two g g w V2 := by rw [← hV2]; exact ⟨hT2.out.os, hT2.out.tape, hT2.out.output, hT2.out.size, hT2.out.block⟩
                  replace hRt := W_hid hRt
                  replace hTt := W_hid hTt
                  have hne1 : ¬ j = q := by omega
                  have hne2 : ¬ q = j := by omega
                  clear hR2 hT2
                  clear hR hT hqx
                  go_region
                  try rw [hV2]
                  clear hV2 dI dJ gz
                  go_wp2_with fail
                  go_roundw
                  case rel => exact ⟨j + 1, _, by go_num, by omega, by omega, hRt, hS2, hU2, hTt⟩
                  case measure => first | (simp [intOf]; omega) | simp [intOf]
                · rw [show decide (vj < vq) = false by simp [hl]] at hL
                  replace hl := W_hid hl
                  replace hvj := W_hid hvj
                  replace hvq := W_hid hvq
                  replace hq := W_hid hq
                  go_wp2_with fail
                  go_quiet ((go_at_call 196; exact hL.out _))
                  go_wp2_with fail
                  go_roundw
                  case rel => exact ⟨i, c + 1, Y, rfl, by go_num, by omega, hi1, hi2, W_hid (hR.out.drewN nq), hS, hU, W_hid (hT.out.drew nq)⟩
                  case measure => first | (simp [intOf]; omega) | simp [intOf]
              · go_wp2_with fail
                go_roundw
                case rel => exact ⟨i, c + 1, Y, rfl, by go_num, by omega, hi1, hi2, hR, hS, hU, hT⟩
                case measure => first | (simp [intOf]; omega) | simp [intOf]
          · go_wp2_with fail
            go_roundw
            case rel => exact ⟨i, c + 1, Z2, rfl, by go_num, by omega, hi1, hi2, hRs, hSs, hUs, hTs⟩
            case measure => first | (simp [intOf]; omega) | simp [intOf]
    · go_wp2_with fail
      go_ret
      exact ⟨false, rfl, hT.out, Z, hR.out, hS.out, fun h => by cases h⟩
end Go.Proofs.YthdohimjcjkneaaGreatDoor

/- xorshift's Next, nextPowerOfTwo, breakPatternsOrdered, choosePivotOrdered. -/
namespace Go.Proofs.YthdohimjcjkneaaGreatDoor
open Go.ChangeShapes Go.WideShapes Go.ChangeAt Go.RowKit
set_option linter.unusedVariables false
set_option linter.unusedSimpArgs false

theorem wrapn (x : Nat) : ∃ y : Nat, y < 18446744073709551616 ∧ IntKind.u64.wrap (x : Int) = (y : Int) := ⟨x % 18446744073709551616, Nat.mod_lt _ (by decide), by rw [IntKind.wrap_u64]; omega⟩
theorem wrapm (m : Nat) (h : m ≤ 2 ^ 16) : IntKind.u64.wrap (m : Int) = (m : Int) := by rw [IntKind.wrap_u64]; omega
theorem xor_some (x y : Nat) (hx : x < 18446744073709551616) (hy : y < 18446744073709551616) : ∃ z : Nat, z < 18446744073709551616 ∧ bits BinOp.xor IntKind.u64 (x : Int) (y : Int) = (z : Int) :=
  ⟨x ^^^ y, Nat.xor_lt_two_pow (n := 64) hx hy, u64_xor_nat _ _ hx hy⟩
theorem shl_some (x : Nat) (c : Nat) (hx : x < 18446744073709551616) : ∃ z : Nat, z < 18446744073709551616 ∧ bits BinOp.xor IntKind.u64 (x : Int) (IntKind.u64.wrap ((x : Int) * (c : Int))) = (z : Int) := by
  obtain ⟨y, hy, e⟩ := wrapn (x * c)
  rw [show ((x * c : Nat) : Int) = (x : Int) * (c : Int) by push_cast; rfl] at e
  rw [e]
  exact xor_some x y hx hy
theorem shr_some (x : Nat) (hx : x < 18446744073709551616) : ∃ z : Nat, z < 18446744073709551616 ∧ bits BinOp.xor IntKind.u64 (x : Int) ((x : Int) / 128) = (z : Int) := by
  rw [show (x : Int) / 128 = ((x / 128 : Nat) : Int) by omega]
  exact xor_some x _ hx (by omega)

set_option maxRecDepth 100000 in
set_option maxHeartbeats 1000000 in
theorem Next_any (y x : Nat) (w : World) (hy : Blk w y 228 [.int .u64 (x : Int)]) (hx : x < 18446744073709551616) :
    Calls Tryz.prog 204 #[.pointer (some ⟨y, 0, none⟩)] w fun e w' => ∃ z : Nat, e = .returned (.int .u64 (z : Int)) ∧ z < 18446744073709551616 ∧ Blk w' y 228 [.int .u64 (z : Int)] ∧ Two y y w w' := by
  obtain ⟨x1, h1, e1⟩ : ∃ z : Nat, z < 18446744073709551616 ∧ bits BinOp.xor IntKind.u64 (x : Int) (IntKind.u64.wrap ((x : Int) * 8192)) = (z : Int) := shl_some x 8192 hx
  obtain ⟨x2, h2, e2⟩ := shr_some x1 h1
  obtain ⟨x3, h3, e3⟩ : ∃ z : Nat, z < 18446744073709551616 ∧ bits BinOp.xor IntKind.u64 (x2 : Int) (IntKind.u64.wrap ((x2 : Int) * 131072)) = (z : Int) := shl_some x2 131072 h2
  have c0 := hy.cell (j := 0) rfl
  have f0 := hy.fz
  have q1 := W_hid (hy.set 0 (.int .u64 (x1 : Int)))
  have t1 := W_hid ((Two.refl y y w).setCell (p := ⟨y, 0, none⟩) (.inl rfl) (.int .u64 (x1 : Int)))
  replace h3 := W_hid h3
  clear hx h1 h2 hy
  obtain ⟨w1, hw1⟩ : ∃ V, World.drew (w.setCell ⟨y, 0, none⟩ (.int .u64 (x1 : Int))) = V := ⟨_, rfl⟩
  have b1 : Blk w1 y 228 [.int .u64 (x1 : Int)] := by rw [← hw1]; exact q1.out
  have k1 : Two y y w w1 := by rw [← hw1]; exact ⟨t1.out.os, t1.out.tape, t1.out.output, t1.out.size, t1.out.block⟩
  obtain ⟨w2, hw2⟩ : ∃ V, World.drew (w1.setCell ⟨y, 0, none⟩ (.int .u64 (x2 : Int))) = V := ⟨_, rfl⟩
  have b2 : Blk w2 y 228 [.int .u64 (x2 : Int)] := by rw [← hw2]; exact b1.set 0 _
  have k2 : Two y y w w2 := by
    have t := k1.setCell (p := ⟨y, 0, none⟩) (.inl rfl) (.int .u64 (x2 : Int))
    rw [← hw2]; exact ⟨t.os, t.tape, t.output, t.size, t.block⟩
  obtain ⟨w3, hw3⟩ : ∃ V, World.drew (w2.setCell ⟨y, 0, none⟩ (.int .u64 (x3 : Int))) = V := ⟨_, rfl⟩
  have b3 : Blk w3 y 228 [.int .u64 (x3 : Int)] := by rw [← hw3]; exact b2.set 0 _
  have k3 : Two y y w w3 := by
    have t := k2.setCell (p := ⟨y, 0, none⟩) (.inl rfl) (.int .u64 (x3 : Int))
    rw [← hw3]; exact ⟨t.os, t.tape, t.output, t.size, t.block⟩
  have c1 := b1.cell (j := 0) rfl
  have f1 := b1.fz
  have c2 := b2.cell (j := 0) rfl
  have f2 := b2.fz
  have c3 := b3.cell (j := 0) rfl
  replace b3 := W_hid b3
  replace k3 := W_hid k3
  clear b1 b2 k1 k2 q1 t1
  go_enter Tryz.func204, Tryz.ntmps204
  go_wp2_with fail
  go_region
  try rw [hw1]
  go_wp2_with fail
  go_region
  try rw [hw2]
  go_wp2_with fail
  go_region
  try rw [hw3]
  go_wp2_with fail
  go_ret
  exact ⟨x3, rfl, h3.out, b3.out, k3.out⟩

def lenOk (t i : Nat) : Bool := decide (i < 2 ^ t) && (decide (i = 0) || decide (2 ^ t ≤ 2 * i)) && decide (t ≤ 8)
theorem len_at (s : ByteArray) (hs : s.size = 256) (hp : ∀ i : Fin 256, lenOk (s.get! i.val).toNat i.val = true) (k : Nat) (hk : k < 256) : ∃ t : Nat, k < 2 ^ t ∧ (k = 0 ∨ 2 ^ t ≤ 2 * k) ∧ t ≤ 8 ∧ ∀ w, (Instr.index 9 (.string s) (.int .u8 (k : Int))).run Tryz.prog w = .ok (.int .u8 (t : Int)) w := by
  have hlt : k < s.size := by omega
  have h1 := hp ⟨k, hk⟩
  have e : s.get! k = s[k] := by
    show s.data[k]! = s.data[k]
    exact getElem!_pos s.data k hlt
  rw [show s.get! (⟨k, hk⟩ : Fin 256).val = s[k] from e] at h1
  unfold lenOk at h1
  simp only [Bool.and_eq_true, Bool.or_eq_true, decide_eq_true_eq] at h1
  refine ⟨(s[k]).toNat, h1.1.1, h1.1.2, h1.2, fun w => ?_⟩
  rw [run_index_string w _ s _ _ und_str, dif_pos ⟨by omega, by omega⟩]
  rfl

set_option maxRecDepth 100000 in
set_option maxHeartbeats 4000000 in
theorem Len64_fine (X : Nat) (w : World) (h0 : 1 ≤ X) (hX : X < 65536) : Calls Tryz.prog 200 #[.int .u64 (X : Int)] w fun e w' => (∃ k : Nat, e = .returned (.int .i64 (k : Int)) ∧ k ≤ 16 ∧ X < 2 ^ k ∧ 2 ^ k ≤ 2 * X) ∧ w' = w := by
  obtain ⟨Y, hY⟩ : ∃ Y : Int, Y = (X : Int) := ⟨_, rfl⟩
  have d0 : 0 ≤ Y := by omega
  have d1 : Y < 4294967296 := by omega
  have d2 : Y < 65536 := by omega
  rw [← hY]
  go_enter Tryz.func200, Tryz.ntmps200
  generalize hT : Value.string _ = T
  have hI : ∀ k : Nat, k < 256 → ∃ t : Nat, k < 2 ^ t ∧ (k = 0 ∨ 2 ^ t ≤ 2 * k) ∧ t ≤ 8 ∧ ∀ w, (Instr.index 9 T (.int .u8 (k : Int))).run Tryz.prog w = .ok (.int .u8 (t : Int)) w := by
    intro k hk
    rw [← hT]
    exact len_at _ (by rfl) (by decide +kernel) k hk
  clear hT
  by_cases h : 256 ≤ X
  · obtain ⟨t, ht1, ht2, ht3, hi⟩ := hI (X / 256) (by omega)
    have hfin : Hid (t + 8 ≤ 16 ∧ X < 2 ^ (t + 8) ∧ 2 ^ (t + 8) ≤ 2 * X) := by
      show _ ∧ _ ∧ _
      rw [Nat.pow_add]
      have : 2 ^ 8 = 256 := rfl
      omega
    obtain ⟨Q, hQ⟩ : ∃ Q : Int, Q = ((X / 256 : Nat) : Int) := ⟨_, rfl⟩
    have hYQ : Y / 256 = Q := by omega
    have hq : 0 ≤ Q ∧ Q < 256 := by omega
    have hy : 256 ≤ Y := by omega
    rw [← hQ] at hi
    have ht4 : t ≤ 8 := ht3
    clear hI ht1 ht2 ht3 hQ hY h0 hX h
    go_wp2_with fail
    go_ret
    exact ⟨⟨t + 8, by simp; omega, hfin.out⟩, rfl⟩
  · obtain ⟨t, ht1, ht2, ht3, hi⟩ := hI X (by omega)
    have hfin : Hid (t ≤ 16 ∧ X < 2 ^ t ∧ 2 ^ t ≤ 2 * X) := by
      show _ ∧ _ ∧ _
      omega
    have h2 : Y < 256 := by omega
    have ht4 : t ≤ 8 := ht3
    rw [← hY] at hi
    clear hI ht1 ht2 ht3 hY h0 hX h
    go_wp2_with fail
    go_ret
    exact ⟨⟨t, rfl, hfin.out⟩, rfl⟩

set_option maxRecDepth 100000 in
set_option maxHeartbeats 4000000 in
theorem Len_fine (X : Nat) (w : World) (h0 : 1 ≤ X) (hX : X < 65536) : Calls Tryz.prog 171 #[.int .u64 (X : Int)] w fun e w' => (∃ k : Nat, e = .returned (.int .i64 (k : Int)) ∧ k ≤ 16 ∧ X < 2 ^ k ∧ 2 ^ k ≤ 2 * X) ∧ w' = w := by
  have c := W_hid (Len64_fine X w h0 hX)
  clear h0 hX
  go_enter Tryz.func171, Tryz.ntmps171
  go_wp2_with (go_at_call 200; refine c.out.mono ?_; rintro e w' ⟨⟨k, rfl, hk⟩, rfl⟩)
  go_ret
  exact ⟨⟨k, rfl, hk⟩, rfl⟩

set_option maxRecDepth 100000 in
set_option maxHeartbeats 4000000 in
theorem power_any (X : Nat) (w : World) (h0 : 1 ≤ X) (hX : X < 65536) : Calls Tryz.prog 203 #[.int .i64 (X : Int)] w fun e w' => (∃ m : Nat, e = .returned (.int .u64 (m : Int)) ∧ X < m ∧ m ≤ 2 * X) ∧ w' = w := by
  have c := W_hid (Len_fine X w h0 hX)
  have hsh : Hid (∀ (k : Nat), k ≤ 16 → IntKind.u64.wrap ((2 : Int) ^ k) = ((2 ^ k : Nat) : Int)) := by
    intro k hk
    have hp : 2 ^ k ≤ 2 ^ 16 := Nat.pow_le_pow_right (by decide) hk
    rw [show ((2 : Int) ^ k) = ((2 ^ k : Nat) : Int) by push_cast; rfl]
    exact wrapm _ hp
  have hx1 : (X : Int) < 65536 := by omega
  clear h0 hX
  go_enter Tryz.func203, Tryz.ntmps203
  go_wp2_with fail
  refine c.out.mono ?_
  rintro e w' ⟨⟨k, rfl, hk, hk1, hk2⟩, rfl⟩
  have hs := hsh.out k hk
  obtain ⟨m, hm⟩ : ∃ m, 2 ^ k = m := ⟨_, rfl⟩
  rw [hm] at hs hk1 hk2
  replace hm := W_hid hm
  replace hs := W_hid hs
  go_wp2_with fail
  go_ret
  exact ⟨⟨m, ret_u64 hs.out, hk1, hk2⟩, rfl⟩
end Go.Proofs.YthdohimjcjkneaaGreatDoor

namespace Go.Proofs.YthdohimjcjkneaaGreatDoor
open Go.ChangeShapes Go.WideShapes Go.ChangeAt Go.RowKit
set_option linter.unusedVariables false
set_option linter.unusedSimpArgs false

theorem Two.own {g y : Nat} {w w' : World} (h : Two g y w w') (hy : w.heap.size ≤ y) : Two g g w w' := ⟨h.os, h.tape, h.output, h.size, fun k hk h1 _ => h.block k hk h1 (by omega)⟩
theorem Two.swap' {g y : Nat} {w w' : World} (h : Two y g w w') : Two g y w w' := ⟨h.os, h.tape, h.output, h.size, fun k hk h1 h2 => h.block k hk h2 h1⟩
theorem Two.wider {g y : Nat} {w w' : World} (h : Two y y w w') : Two g y w w' := ⟨h.os, h.tape, h.output, h.size, fun k hk h1 h2 => h.block k hk h2 h2⟩
theorem RW.two {w w' : World} {g y N : Nat} {X : Nat → Nat} {rest : List Value} (h : RW w g N X rest) (t : Two y y w w') (hne : g ≠ y) : RW w' g N X rest := ⟨h.blk.two t hne hne⟩
theorem and_some (x m n : Nat) (hx : x < 18446744073709551616) (h1 : n < m) (h2 : m ≤ 2 * n) (hn : n ≤ 65536) : ∃ r : Nat, r < 2 * n ∧ bits BinOp.and IntKind.u64 (x : Int) ((m : Int) - 1) = (r : Int) := by
  have e : (m : Int) - 1 = ((m - 1 : Nat) : Int) := by omega
  have h3 : x &&& (m - 1) ≤ m - 1 := Nat.and_le_right
  exact ⟨x &&& (m - 1), by omega, by rw [e]; exact u64_and_nat _ _ hx (by omega)⟩

set_option maxRecDepth 100000 in
set_option maxHeartbeats 4000000 in
theorem break_any (g N cap : Nat) (rest : List Value) (a b : Nat) (X : Nat → Nat) (w : World) (h : RW w g N X rest) (hab : a + 8 ≤ b) (hb : b ≤ N) (hN : N < 65536) (hcap : N ≤ cap) :
    Calls Tryz.prog 192 #[.slice (some ⟨g, 0, none⟩) N cap, .int .i64 (a : Int), .int .i64 (b : Int)] w fun e w' => e = .returned (.tuple #[]) ∧ Two g g w w' ∧ ∃ Y, RW w' g N Y rest ∧ SO.Sw a b X Y := by
  have hgl := h.lt
  have h := W_hid h
  obtain ⟨n, hn⟩ : ∃ n, b - a = n := ⟨_, rfl⟩
  have hni : (b : Int) - (a : Int) = (n : Int) := by omega
  have hn8 : 8 ≤ n := by omega
  have hnN : n < 65536 := by omega
  obtain ⟨d, hd⟩ : ∃ d, n / 4 = d := ⟨_, rfl⟩
  have hdi : (n : Int).tdiv 4 = (d : Int) := by rw [← hd]; rfl
  obtain ⟨d2, hd2⟩ : ∃ d2, d * 2 = d2 := ⟨_, rfl⟩
  have hd2i : (d : Int) * 2 = (d2 : Int) := by omega
  obtain ⟨s1, hs1⟩ : ∃ s, a + d2 = s := ⟨_, rfl⟩
  have hs1i : (a : Int) + (d2 : Int) = (s1 : Int) := by omega
  obtain ⟨s0, hs0⟩ : ∃ s, s1 - 1 = s := ⟨_, rfl⟩
  have hs0i : (s1 : Int) - 1 = (s0 : Int) := by omega
  have hbd : Hid (a ≤ s0 ∧ s1 + 1 < b ∧ s0 + 1 = s1 ∧ a + n = b) := by show _ ∧ _ ∧ _ ∧ _; omega
  have hsm : s1 ≤ 65536 ∧ s0 ≤ 65536 ∧ d2 ≤ 65536 ∧ d ≤ 65536 := by omega
  have cP := W_hid (fun w => power_any n w (by omega) hnN)
  have b1 : Below w.heap.size w (w.alloc (.cells #[.int .u64 (n : Int)] 228)) := (Below.refl _ _).alloc (Nat.le_refl _) _
  have hY := W_hid (Blk.new w 228 [.int .u64 (n : Int)] rfl)
  have hR1 := W_hid (h.out.keep b1)
  have hT1 : Hid (Two g w.heap.size w (w.alloc (.cells #[.int .u64 (n : Int)] 228))) := Two.of b1
  have hgy : ¬ g = w.heap.size := by omega
  replace hd := W_hid hd
  replace hd2 := W_hid hd2
  replace hs1 := W_hid hs1
  replace hs0 := W_hid hs0
  replace hn := W_hid hn
  clear b1
  go_enter Tryz.func192, Tryz.ntmps192
  go_wp2_with fail
  refine (cP.out _).mono ?_
  rintro e w1 ⟨⟨m, rfl, hm1, hm2⟩, rfl⟩
  have hmi : 0 ≤ (m : Int) - 1 ∧ (m : Int) - 1 ≤ 131072 := by omega
  replace hm1 := W_hid hm1
  replace hm2 := W_hid hm2
  go_wp2_with fail
  obtain ⟨W1, hW1⟩ : ∃ W, w.alloc (.cells #[.int .u64 (n : Int)] 228) = W := ⟨_, rfl⟩
  rw [hW1] at hY hR1 hT1 ⊢
  go_loopw [9] (fun v wr => ∃ (q x : Nat) (Z : Nat → Nat), v = .int .i64 (q : Int) ∧ s0 ≤ q ∧ q ≤ s1 + 2 ∧ Hid (x < 18446744073709551616) ∧ Hid (Blk wr w.heap.size 228 [.int .u64 (x : Int)]) ∧ Hid (RW wr g N Z rest) ∧ Hid (SO.Sw a b X Z) ∧ Hid (Two g w.heap.size w wr)) (fun v _ => s1 + 2 - (intOf v).toNat)
  case atStart => exact ⟨s0, n, X, rfl, Nat.le_refl _, by have := hbd.out; omega, (show n < 18446744073709551616 by omega), hY, hR1, W_hid .refl, hT1⟩
  case round =>
    clear hY hR1 hT1
    obtain ⟨q, x, Z, rfl, hq1, hq2, hx, hY, hR, hS, hT⟩ := hrel
    by_cases hle : q ≤ s1 + 1
    · have hlei : (q : Int) ≤ (s1 : Int) + 1 := by omega
      have cN := W_hid (Next_any w.heap.size x wr hY.out hx.out)
      go_wp2_with fail
      refine cN.out.mono ?_
      rintro e w2 ⟨z, rfl, hz, hY2, hT2⟩
      obtain ⟨r, hr1, hr2⟩ := and_some z m n hz hm1.out hm2.out (by omega)
      have hR2 := W_hid (hR.out.two hT2 hgy)
      have hT3 := W_hid (hT.out.trans hT2.wider)
      replace hz := W_hid hz
      replace hY2 := W_hid hY2
      have hrb : r ≤ 131072 := by omega
      clear hY hR hT hT2 cN
      obtain ⟨o, ho, hor⟩ : ∃ o : Nat, o < n ∧ ((r < n ∧ o = r) ∨ (n ≤ r ∧ (r : Int) - (n : Int) = (o : Int))) := by
        by_cases hh : r < n
        · exact ⟨r, hh, .inl ⟨hh, rfl⟩⟩
        · exact ⟨r - n, by omega, .inr ⟨by omega, by omega⟩⟩
      obtain ⟨p, hp⟩ : ∃ p, a + o = p := ⟨_, rfl⟩
      have hpi : (a : Int) + (o : Int) = (p : Int) := by omega
      have hpb : a ≤ p ∧ p < b ∧ p < N := by have := hbd.out; omega
      have hqb : a ≤ q ∧ q < b ∧ q < N := by have := hbd.out; omega
      have dq := hR2.out.cell q hqb.2.2
      have dp := hR2.out.cell p hpb.2.2
      have gz := hR2.out.fz
      obtain ⟨vq, hvq⟩ : ∃ v, Z q = v := ⟨_, rfl⟩
      obtain ⟨vp, hvp⟩ : ∃ v, Z p = v := ⟨_, rfl⟩
      have hR4 := W_hid (hR2.out.swap q p hqb.2.2 hpb.2.2)
      have hT4 := W_hid ((hT3.out.setCell (p := ⟨g, q, none⟩) (.inl rfl) (.int .u64 (Z p : Int))).setCell (p := ⟨g, p, none⟩) (.inl rfl) (.int .u64 (Z q : Int)))
      have hS4 := W_hid (hS.out.step (i := q) (j := p) hqb.1 hqb.2.1 hpb.1 hpb.2.1)
      have hY4 := W_hid ((hY2.out.far (p := ⟨g, q, none⟩) (fun e => hgy e.symm) (.int .u64 (vp : Int))).far (p := ⟨g, p, none⟩) (fun e => hgy e.symm) (.int .u64 (vq : Int)))
      rw [hvq, hvp] at hR4 hT4
      rw [hvq] at dq
      rw [hvp] at dp
      replace hvq := W_hid hvq
      replace hvp := W_hid hvp
      replace hp := W_hid hp
      obtain ⟨V, hV⟩ : ∃ V, World.drew ((w2.setCell ⟨g, q, none⟩ (.int .u64 (vp : Int))).setCell ⟨g, p, none⟩ (.int .u64 (vq : Int))) = V := ⟨_, rfl⟩
      have hR5 : RW V g N (SO.swp Z q p) rest := by rw [← hV]; exact hR4.out.drew
      have hT5 : Two g w.heap.size w V := by rw [← hV]; exact ⟨hT4.out.os, hT4.out.tape, hT4.out.output, hT4.out.size, hT4.out.block⟩
      have hY5 : Blk V w.heap.size 228 [.int .u64 (z : Int)] := by rw [← hV]; exact hY4.out
      replace hR5 := W_hid hR5
      replace hT5 := W_hid hT5
      replace hY5 := W_hid hY5
      clear hR2 hT3 hY2 hR4 hT4 hY4 hS
      obtain ⟨qn, hqn⟩ : ∃ x, q + 1 = x := ⟨_, rfl⟩
      have hqi : (q : Int) + 1 = (qn : Int) := by omega
      have hqs : s0 ≤ qn ∧ qn ≤ s1 + 2 := by omega
      have hqm : Hid (s1 + 2 - qn < s1 + 2 - q) := by show _ < _; omega
      replace hqn := W_hid hqn
      rcases hor with ⟨hr, rfl⟩ | ⟨hr, hro⟩
      all_goals
        have hcs : p = q ∨ ¬ p = q := by omega
        rcases hcs with hqa | hne
        case' inl =>
          obtain rfl : vq = vp := hvq.out.symm.trans (by rw [← hqa]; exact hvp.out)
          subst hqa
        case' inr => have hne2 : ¬ q = p := fun e => hne e.symm
        all_goals
          go_wp2_with fail
          go_region
          try rw [hV]
          clear hV dq dp gz
          go_wp2_with fail
          go_roundw
          case rel => exact ⟨qn, z, _, rfl, hqs.1, hqs.2, hz, hY5, hR5, hS4, hT5⟩
          case measure => (have := hqm.out); first | (simp [intOf]; omega) | simp [intOf]
    · have hlei : ¬ (q : Int) ≤ (s1 : Int) + 1 := by omega
      go_wp2_with fail
      go_end0
      exact ⟨rfl, hT.out.own (Nat.le_refl _), Z, hR.out, hS.out⟩

set_option maxRecDepth 100000 in
set_option maxHeartbeats 4000000 in
theorem pivot_any (g N cap : Nat) (rest : List Value) (a b : Nat) (X : Nat → Nat) (w : World) (h : RW w g N X rest) (hab : a + 8 ≤ b) (hb : b ≤ N) (hN : N < 65536) (hcap : N ≤ cap) :
    Calls Tryz.prog 193 #[.slice (some ⟨g, 0, none⟩) N cap, .int .i64 (a : Int), .int .i64 (b : Int)] w fun e w' => ∃ p c : Nat, e = .returned (.tuple #[.int .i64 (p : Int), .int .i64 (c : Int)]) ∧ a ≤ p ∧ p < b ∧ c ≤ 2 ∧ Two g g w w' ∧ RW w' g N X rest := by
  have hgl := h.lt
  have hN' : N ≤ 65536 := by omega
  obtain ⟨n, hn⟩ : ∃ n, b - a = n := ⟨_, rfl⟩
  have hni : (b : Int) - (a : Int) = (n : Int) := by omega
  have hn8 : 8 ≤ n := by omega
  have hnN : n < 65536 := by omega
  obtain ⟨d, hd⟩ : ∃ d, n / 4 = d := ⟨_, rfl⟩
  have hdi : (n : Int).tdiv 4 = (d : Int) := by rw [← hd]; rfl
  obtain ⟨d2, hd2⟩ : ∃ d2, d * 2 = d2 := ⟨_, rfl⟩
  have hd2i : (d : Int) * 2 = (d2 : Int) := by omega
  obtain ⟨d3, hd3⟩ : ∃ d3, d * 3 = d3 := ⟨_, rfl⟩
  have hd3i : (d : Int) * 3 = (d3 : Int) := by omega
  obtain ⟨i, hi⟩ : ∃ s, a + d = s := ⟨_, rfl⟩
  have hii : (a : Int) + (d : Int) = (i : Int) := by omega
  obtain ⟨j, hj⟩ : ∃ s, a + d2 = s := ⟨_, rfl⟩
  have hji : (a : Int) + (d2 : Int) = (j : Int) := by omega
  obtain ⟨k, hk⟩ : ∃ s, a + d3 = s := ⟨_, rfl⟩
  have hki : (a : Int) + (d3 : Int) = (k : Int) := by omega
  have hsm : i < 65536 ∧ j < 65536 ∧ k < 65536 ∧ d ≤ 65536 ∧ d2 ≤ 65536 ∧ d3 ≤ 65536 := by omega
  have hbd : Hid (a ≤ i ∧ i < b ∧ a ≤ j ∧ j < b ∧ a ≤ k ∧ k < b) := by show _ ∧ _ ∧ _ ∧ _ ∧ _ ∧ _; omega
  have hbd2 : Hid (50 ≤ n → a + 1 ≤ i ∧ i + 1 < b ∧ a + 1 ≤ j ∧ j + 1 < b ∧ a + 1 ≤ k ∧ k + 1 < b) := by intro _; omega
  have b1 : Below w.heap.size w (w.alloc (.cells #[.int .i64 0] 3)) := (Below.refl _ _).alloc (Nat.le_refl _) _
  have hY := Blk.new w 3 [.int .i64 0] rfl
  have hR1 := h.keep b1
  have hT1 : Two w.heap.size w.heap.size w (w.alloc (.cells #[.int .i64 0] 3)) := Two.of b1
  have hgy : w.heap.size ≠ g := by omega
  obtain ⟨W1, hW1⟩ : ∃ W, w.alloc (.cells #[.int .i64 0] 3) = W := ⟨_, rfl⟩
  rw [hW1] at hY hR1 hT1
  -- the three places
  have hmed := W_hid (fun a b c s (V : World) h h1 h2 h3 h4 h5 => median_any g N cap rest a b c w.heap.size s X V h h1 h2 h3 hN' hcap h4 hgy h5)
  have hadj := W_hid (fun a s (V : World) h h1 h2 h4 h5 => adjacent_any g N cap rest a w.heap.size s X V h h1 h2 hN' hcap h4 hgy h5)
  replace hn := W_hid hn
  replace hd := W_hid hd
  replace hd2 := W_hid hd2
  replace hd3 := W_hid hd3
  replace hi := W_hid hi
  replace hj := W_hid hj
  replace hk := W_hid hk
  replace hgy := W_hid hgy
  replace hY := W_hid hY
  replace hR1 := W_hid hR1
  replace hT1 := W_hid hT1
  clear b1 h
  go_enter Tryz.func193, Tryz.ntmps193
  by_cases h50 : 50 ≤ n
  · have hb2 := hbd2.out h50
    have hA1 := W_hid (hadj.out i 0 W1 hR1.out (by omega) (by omega) hY.out (by omega))
    go_wp2_with fail
    try rw [hW1]
    clear hW1
    refine hA1.out.mono ?_
    rintro e w2 ⟨p1, rfl, hp1, hp1', k1⟩
    obtain ⟨s1, l1, u1, y1⟩ := k1.ex
    have hA2 := W_hid (hadj.out j s1 w2 k1.row (by omega) (by omega) y1 (by omega))
    replace k1 := W_hid k1
    clear y1 hA1 hR1 hY
    go_wp2_with fail
    refine hA2.out.mono ?_
    rintro e w3 ⟨p2, rfl, hp2, hp2', k2⟩
    obtain ⟨s2, l2, u2, y2⟩ := k2.ex
    have hA3 := W_hid (hadj.out k s2 w3 k2.row (by omega) (by omega) y2 (by omega))
    replace k2 := W_hid k2
    clear y2 hA2
    go_wp2_with fail
    refine hA3.out.mono ?_
    rintro e w4 ⟨p3, rfl, hp3, hp3', k3⟩
    obtain ⟨s3, l3, u3, y3⟩ := k3.ex
    have hA4 := W_hid (hmed.out p1 p2 p3 s3 w4 k3.row (by omega) (by omega) (by omega) y3 (by omega))
    replace k3 := W_hid k3
    clear y3 hA3
    go_wp2_with fail
    refine hA4.out.mono ?_
    rintro e w5 ⟨p4, rfl, hp4, k4⟩
    obtain ⟨s4, l4, u4, y4⟩ := k4.ex
    have hfin : Hid (a ≤ p4 ∧ p4 < b ∧ Two g g w w5 ∧ RW w5 g N X rest) := ⟨by omega, by omega, Two.own (g := g) ((((hT1.out.trans k1.out.two).trans k2.out.two).trans k3.out.two).trans k4.two).wider (Nat.le_refl _), k4.row⟩
    have c4 := y4.cell (j := 0) rfl
    have hs4 : s4 ≤ 12 := by omega
    clear k1 k2 k3 k4 hA4 y4 l1 l2 l3 l4 u1 u2 u3 u4 hb2 hp1 hp1' hp2 hp2' hp3 hp3' hp4 hT1
    have hcs : s4 = 0 ∨ s4 = 12 ∨ (¬ s4 = 0 ∧ ¬ s4 = 12) := by omega
    rcases hcs with rfl | rfl | ⟨q1, q2⟩
    · go_wp2_with fail
      go_ret2
      exact ⟨p4, 1, rfl, hfin.out.1, hfin.out.2.1, by omega, hfin.out.2.2⟩
    · go_wp2_with fail
      go_ret2
      exact ⟨p4, 2, rfl, hfin.out.1, hfin.out.2.1, by omega, hfin.out.2.2⟩
    · have z1 : ((s4 : Int) == 0) = false := by simp; omega
      have z2 : ((s4 : Int) == 12) = false := by simp; omega
      go_wp2_with fail
      go_ret2
      exact ⟨p4, 0, rfl, hfin.out.1, hfin.out.2.1, by omega, hfin.out.2.2⟩
  · have hb2 := hbd.out
    have hA4 := W_hid (hmed.out i j k 0 W1 hR1.out (by omega) (by omega) (by omega) hY.out (by omega))
    go_wp2_with fail
    try rw [hW1]
    clear hW1
    refine hA4.out.mono ?_
    rintro e w5 ⟨p4, rfl, hp4, k4⟩
    obtain ⟨s4, l4, u4, y4⟩ := k4.ex
    have hfin : Hid (a ≤ p4 ∧ p4 < b ∧ Two g g w w5 ∧ RW w5 g N X rest) := ⟨by omega, by omega, Two.own (g := g) (hT1.out.trans k4.two).wider (Nat.le_refl _), k4.row⟩
    have c4 := y4.cell (j := 0) rfl
    have hs4 : s4 ≤ 12 := by omega
    clear k4 hA4 y4 l4 u4 hb2 hp4 hT1 hR1 hY
    have hcs : s4 = 0 ∨ s4 = 12 ∨ (¬ s4 = 0 ∧ ¬ s4 = 12) := by omega
    rcases hcs with rfl | rfl | ⟨q1, q2⟩
    · go_wp2_with fail
      go_ret2
      exact ⟨p4, 1, rfl, hfin.out.1, hfin.out.2.1, by omega, hfin.out.2.2⟩
    · go_wp2_with fail
      go_ret2
      exact ⟨p4, 2, rfl, hfin.out.1, hfin.out.2.1, by omega, hfin.out.2.2⟩
    · have z1 : ((s4 : Int) == 0) = false := by simp; omega
      have z2 : ((s4 : Int) == 12) = false := by simp; omega
      go_wp2_with fail
      go_ret2
      exact ⟨p4, 0, rfl, hfin.out.1, hfin.out.2.1, by omega, hfin.out.2.2⟩
end Go.Proofs.YthdohimjcjkneaaGreatDoor

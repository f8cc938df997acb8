/- Page tables, on plain numbers: tables by level and place, pages by level and place, words. -/
import Derived.Test.YthiojnbnhagcgaaDoorEntryMath
namespace Go.Proofs.YthiojnbnhagcgaaDoor
namespace RX
set_option linter.unusedVariables false

/-- Tables: level, place, frame. Pages: level (1 or 2), place, frame and permissions. -/
abbrev Tabs := Nat → Nat → Option Nat
abbrev Pags := Nat → Nat → Option (Nat × Int)

/-- The word that describes place c at level l. -/
def word (F : Tabs) (G : Pags) (l c : Nat) : Nat :=
  match F (l - 1) c with
  | some f => EN.wd false 7 f
  | none => match G l c with
    | some (f, p) => EN.wd (decide (l = 2)) p f
    | none => 0
/-- What it says. -/
def ent (F : Tabs) (G : Pags) (l c : Nat) : Bool × Bool × Int × Nat :=
  match F (l - 1) c with
  | some f => (true, false, 7, f)
  | none => match G l c with
    | some (f, p) => (false, decide (l = 2), p, f)
    | none => (false, false, 0, 0)
def pres (F : Tabs) (G : Pags) (l c : Nat) : Bool := (F (l - 1) c).isSome || (G l c).isSome

structure Inv (F : Tabs) (G : Pags) (r n : Nat) : Prop where
  n2 : n ≤ 65536
  root : F 4 0 = some r
  lev : ∀ {l j f}, F l j = some f → 1 ≤ l ∧ l ≤ 4 ∧ (l = 4 → j = 0) ∧ f < n
  inj : ∀ {l j l' j' f}, F l j = some f → F l' j' = some f → l = l' ∧ j = j'
  page : ∀ {k c f p}, G k c = some (f, p) → 1 ≤ k ∧ k ≤ 2 ∧ EN.right false (decide (k = 2)) p f k ∧ c * EN.sz (k - 1) < 140737488355328
  up : ∀ {l j f}, F l j = some f → l ≤ 3 → ∃ f', F (l + 1) (j / 512) = some f'
  way : ∀ {k c x}, G k c = some x → ∃ f', F k (c / 512) = some f'
  apart : ∀ {c x}, G 2 c = some x → F 1 c = none

/-- What is in memory is that. -/
structure Rep (M : Nat → Option (Nat → Nat)) (F : Tabs) (G : Pags) : Prop where
  yes : ∀ {l j f}, F l j = some f → ∃ ws, M f = some ws ∧ ∀ i, i < 512 → ws i = word F G l (512 * j + i)
  no : ∀ {f}, (∀ l j, F l j ≠ some f) → M f = none

/-- Every table but the root has a word. -/
def Used (F : Tabs) (G : Pags) : Prop := ∀ l j f, F l j = some f → l ≤ 3 → ∃ i, i < 512 ∧ pres F G l (512 * j + i) = true

theorem at_sz (va l : Nat) (h : 1 ≤ l) : 512 * (va / EN.sz l) + EN.idx va l = va / EN.sz (l - 1) := by
  obtain ⟨k, rfl⟩ : ∃ k, l = k + 1 := ⟨l - 1, by omega⟩
  unfold EN.idx
  rw [Nat.add_sub_cancel, EN.sz_succ, ← Nat.div_div_eq_div_mul]
  omega
theorem sz_down (va l : Nat) (h : 1 ≤ l) : va / EN.sz (l - 1) / 512 = va / EN.sz l := by
  obtain ⟨k, rfl⟩ : ∃ k, l = k + 1 := ⟨l - 1, by omega⟩
  rw [Nat.add_sub_cancel, EN.sz_succ, ← Nat.div_div_eq_div_mul]
theorem top_zero (va : Nat) (h : va < 140737488355328) : va / EN.sz 4 = 0 := Nat.div_eq_of_lt (by unfold EN.sz; omega)

section
variable {F : Tabs} {G : Pags} {r n : Nat}

theorem word_rd (I : Inv F G r n) {l c f0 : Nat} (h0 : F l (c / 512) = some f0) :
    (pres F G l c = true → EN.rd (word F G l c) (l : Int) = some (ent F G l c)) ∧ (pres F G l c = false → word F G l c = 0 ∧ ent F G l c = (false, false, 0, 0)) ∧ word F G l c < 18446744073709551616 := by
  have hl := I.lev h0
  unfold word ent pres
  cases h1 : F (l - 1) c with
  | some f =>
    have h2 := I.lev h1
    have hn := I.n2
    have hr : EN.right true false 7 f (l : Int) := ⟨by omega, by omega, by omega, .inl ⟨rfl, by omega, rfl, rfl⟩⟩
    exact ⟨fun _ => EN.right_rd hr, fun h => by simp at h, EN.wd_lt _ _ _ (by omega)⟩
  | none =>
    cases h2 : G l c with
    | some x =>
      obtain ⟨f, p⟩ := x
      have h3 := I.page h2
      exact ⟨fun _ => EN.right_rd h3.2.2.1, fun h => by simp at h, EN.wd_lt _ _ _ h3.2.2.1.2.2.1⟩
    | none => exact ⟨fun h => by simp at h, fun _ => ⟨rfl, rfl⟩, by simp⟩

theorem word_zero (I : Inv F G r n) {l c : Nat} : word F G l c = 0 ↔ pres F G l c = false := by
  unfold word pres
  cases h1 : F (l - 1) c with
  | some f => have := EN.wd_pos false 7 f; simp; omega
  | none =>
    cases h2 : G l c with
    | some x => obtain ⟨f, p⟩ := x; have := EN.wd_pos (decide (l = 2)) p f; simp; omega
    | none => simp

/-- The frames of the tables on the way to va, down to level L. -/
structure Way (F : Tabs) (va L : Nat) (fr : Nat → Nat) : Prop where
  l1 : 1 ≤ L
  l4 : L ≤ 4
  on : ∀ k, L ≤ k → k ≤ 4 → F k (va / EN.sz k) = some (fr k)
  off : ∀ k, k < L ∨ 4 < k → fr k = 0
/-- A search that may go down to level lo ends at L. -/
structure Desc (F : Tabs) (va lo L : Nat) (fr : Nat → Nat) : Prop extends Way F va L fr where
  ge : lo ≤ L
  stop : L = lo ∨ F (L - 1) (va / EN.sz (L - 1)) = none

theorem desc_from (I : Inv F G r n) (va lo : Nat) (h1 : 1 ≤ lo) : ∀ (d L : Nat) (fr : Nat → Nat), L = lo + d → Way F va L fr → ∃ L fr, Desc F va lo L fr
  | 0, L, fr, e, h => ⟨L, fr, h, by omega, .inl (by omega)⟩
  | d + 1, L, fr, e, h => by
    cases hF : F (L - 1) (va / EN.sz (L - 1)) with
    | none => exact ⟨L, fr, h, by omega, .inr hF⟩
    | some f =>
      have := h.l4
      refine desc_from I va lo h1 d (L - 1) (fun k => if k = L - 1 then f else fr k) (by omega) ⟨by omega, by omega, fun k hk1 hk2 => ?_, fun k hk => ?_⟩
      · by_cases e2 : k = L - 1
        · simp only [if_pos e2]; rw [e2]; exact hF
        · simp only [if_neg e2]; exact h.on k (by omega) hk2
      · rw [if_neg (by omega)]; exact h.off k (by omega)
theorem way_root (I : Inv F G r n) (va : Nat) (hva : va < 140737488355328) : Way F va 4 (fun k => if k = 4 then r else 0) := by
  refine ⟨by omega, by omega, fun k h1 h2 => ?_, fun k hk => ?_⟩
  · obtain rfl : k = 4 := by omega
    rw [top_zero va hva]; exact I.root
  · rw [if_neg (by omega)]
theorem desc_some (I : Inv F G r n) (va lo : Nat) (hva : va < 140737488355328) (h1 : 1 ≤ lo) (h4 : lo ≤ 4) : ∃ L fr, Desc F va lo L fr :=
  desc_from I va lo h1 (4 - lo) 4 _ (by omega) (way_root I va hva)

/-- The word at the level where one stands. -/
theorem Way.word {va L : Nat} {fr : Nat → Nat} (h : Way F va L fr) {M : Nat → Option (Nat → Nat)} (R : Rep M F G) (k : Nat) (h1 : L ≤ k) (h2 : k ≤ 4) :
    ∃ ws, M (fr k) = some ws ∧ ws (EN.idx va k) = RX.word F G k (va / EN.sz (k - 1)) := by
  obtain ⟨ws, hM, hw⟩ := R.yes (h.on k h1 h2)
  have := h.l1
  refine ⟨ws, hM, ?_⟩
  rw [hw _ (EN.idx_lt va k), at_sz va k (by omega)]
theorem Way.lt (I : Inv F G r n) {va L : Nat} {fr : Nat → Nat} (h : Way F va L fr) (k : Nat) : fr k < 65536 := by
  have := I.n2
  by_cases hk : L ≤ k ∧ k ≤ 4
  · have := (I.lev (h.on k hk.1 hk.2)).2.2.2; omega
  · rw [h.off k (by omega)]; omega
end
end RX
end Go.Proofs.YthiojnbnhagcgaaDoor

/- Regions, plain: what a list of regions says of each address, that a valid list is told by that, parts of lists, lists made of pieces, gaps; free of any program's numbers. -/
import Derived.Test.YtfbhcnamkojboaaHid
namespace Go.Proofs.Ytfbhcnamkojboaa
set_option linter.unusedVariables false
set_option linter.unusedSimpArgs false
namespace RG

/-- A region: its two ends, permission, kind. -/
structure Rg where
  f : Nat
  t : Nat
  p : Int
  k : Int

theorem Rg.same {x y : Rg} (h1 : x.f = y.f) (h2 : x.t = y.t) (h3 : x.p = y.p) (h4 : x.k = y.k) : x = y := by
  cases x; cases y; simp at h1 h2 h3 h4; subst h1 h2 h3 h4; rfl
instance : DecidableEq Rg := fun x y =>
  if h : x.f = y.f ∧ x.t = y.t ∧ x.p = y.p ∧ x.k = y.k then isTrue (Rg.same h.1 h.2.1 h.2.2.1 h.2.2.2) else isFalse (fun e => h (by subst e; exact ⟨rfl, rfl, rfl, rfl⟩))

abbrev Top : Nat := 140737488355328
def isRange (f t : Nat) : Prop := f % 4096 = 0 ∧ t % 4096 = 0 ∧ f < t ∧ t ≤ 140737488355328
def isPerm (p : Int) : Prop := 1 ≤ p ∧ p ≤ 7
def good (r : Rg) : Prop := isRange r.f r.t ∧ isPerm r.p ∧ 0 ≤ r.k ∧ r.k ≤ 2
def joins (x y : Rg) : Prop := x.t = y.f ∧ x.p = y.p ∧ x.k = y.k
instance (f t : Nat) : Decidable (isRange f t) := by unfold isRange; infer_instance
instance (p : Int) : Decidable (isPerm p) := by unfold isPerm; infer_instance
instance (r : Rg) : Decidable (good r) := by unfold good; infer_instance
instance (x y : Rg) : Decidable (joins x y) := by unfold joins; infer_instance

/-- r may stand behind y: s: and they are not one. -/
def Fol (s : Bool) (y r : Rg) : Prop := y.t ≤ r.f ∧ (s = true → ¬ joins y r)
instance (s : Bool) (x y : Rg) : Decidable (Fol s x y) := by unfold Fol; infer_instance
def Ok (s : Bool) : Option Rg → List Rg → Prop
  | _, [] => True
  | x, r :: l => (good r ∧ ∀ y, x = some y → Fol s y r) ∧ Ok s (some r) l

theorem Ok.any {s : Bool} {x : Option Rg} {l : List Rg} (h : Ok s x l) : Ok s none l := by
  cases l with
  | nil => trivial
  | cons r l => exact ⟨⟨h.1.1, fun _ e => by cases e⟩, h.2⟩
theorem Ok.weak {s : Bool} {x : Option Rg} {l : List Rg} (h : Ok s x l) : Ok false x l := by
  induction l generalizing x with
  | nil => trivial
  | cons r l ih => exact ⟨⟨h.1.1, fun y e => ⟨(h.1.2 y e).1, fun e => by cases e⟩⟩, ih h.2⟩
theorem Ok.good_of {s : Bool} {x : Option Rg} {l : List Rg} (h : Ok s x l) : ∀ r ∈ l, good r := by
  induction l generalizing x with
  | nil => intro r hr; cases hr
  | cons r l ih =>
    intro y hy
    rcases List.mem_cons.1 hy with rfl | hy
    · exact h.1.1
    · exact ih h.2 y hy
/-- What stands ahead of the predecessor may stand ahead, too. -/
theorem Ok.skip {s : Bool} {y z : Rg} {l : List Rg} (h : Ok s (some z) l) (hyz : y.t ≤ z.f) (hz : z.f < z.t) : Ok s (some y) l := by
  cases l with
  | nil => trivial
  | cons r l =>
    refine ⟨⟨h.1.1, fun y' e => ?_⟩, h.2⟩
    cases e
    have := (h.1.2 z rfl).1
    exact ⟨by omega, fun _ hj => by have := hj.1; omega⟩
theorem Ok.from {s : Bool} {y : Rg} {l : List Rg} (h : Ok s (some y) l) : ∀ r ∈ l, y.t ≤ r.f := by
  induction l generalizing y with
  | nil => intro r hr; cases hr
  | cons r l ih =>
    intro z hz
    have h1 := (h.1.2 y rfl).1
    rcases List.mem_cons.1 hz with rfl | hz
    · exact h1
    · have := ih h.2 z hz
      have := h.1.1.1.2.2.1
      omega
theorem Ok.tail {s : Bool} {x : Option Rg} {r : Rg} {l : List Rg} (h : Ok s x (r :: l)) : Ok s x l := by
  cases l with
  | nil => trivial
  | cons z l =>
    refine ⟨⟨h.2.1.1, fun y e => ?_⟩, h.2.2⟩
    subst e
    have h1 := (h.1.2 y rfl).1
    have h2 := (h.2.1.2 r rfl).1
    have h3 := h.1.1.1.2.2.1
    exact ⟨by omega, fun _ hj => by have := hj.1; omega⟩

/-- By places. -/
theorem ok_at {s : Bool} {x : Option Rg} {l : List Rg} : Ok s x l ↔ (∀ i, (h : i < l.length) → good l[i] ∧ (∀ j, (hj : j + 1 = i) → Fol s (l[j]'(by omega)) l[i])) ∧ (∀ y r, x = some y → l.head? = some r → Fol s y r) := by
  induction l generalizing x with
  | nil => simp [Ok]
  | cons r l ih =>
    constructor
    · rintro ⟨⟨h1, h2⟩, h3⟩
      obtain ⟨h4, h5⟩ := ih.1 h3
      refine ⟨fun i hi => ?_, fun y r' e e' => by simp at e'; subst e'; exact h2 y e⟩
      cases i with
      | zero => exact ⟨h1, fun j hj => by omega⟩
      | succ i =>
        refine ⟨(h4 i (by simpa using hi)).1, fun j hj => ?_⟩
        obtain rfl : j = i := by omega
        cases j with
        | zero =>
          cases l with
          | nil => simp at hi
          | cons z l => exact h5 r z rfl rfl
        | succ j => exact (h4 (j + 1) (by simpa using hi)).2 j rfl
    · rintro ⟨h1, h2⟩
      refine ⟨⟨(h1 0 (by simp)).1, fun y e => h2 y r e rfl⟩, ih.2 ⟨fun i hi => ?_, fun y z e hz => ?_⟩⟩
      · refine ⟨(h1 (i + 1) (by simpa using hi)).1, fun j hj => ?_⟩
        subst hj
        exact (h1 (j + 1 + 1) (by simpa using hi)).2 (j + 1) rfl
      · cases e
        cases l with
        | nil => simp at hz
        | cons z' l => simp at hz; subst hz; exact (h1 1 (by simp)).2 0 rfl

noncomputable instance (l : List Rg) : Decidable (Ok true none l) := Classical.propDecidable _

/-- What is said of an address. -/
def D : List Rg → Nat → Option (Int × Int)
  | [], _ => none
  | r :: l, a => if r.f ≤ a ∧ a < r.t then some (r.p, r.k) else D l a
theorem D_append (l m : List Rg) (a : Nat) : D (l ++ m) a = (D l a).or (D m a) := by
  induction l with
  | nil => simp [D]
  | cons r l ih =>
    simp only [List.cons_append, D]
    split
    · rfl
    · exact ih
theorem D_none {l : List Rg} {a : Nat} : D l a = none ↔ ∀ r ∈ l, ¬ (r.f ≤ a ∧ a < r.t) := by
  induction l with
  | nil => simp [D]
  | cons r l ih =>
    simp only [D, List.mem_cons, forall_eq_or_imp]
    split
    · rename_i h
      constructor
      · intro e; cases e
      · intro e; exact absurd h e.1
    · rename_i h
      rw [ih]
      exact ⟨fun e => ⟨h, e⟩, fun e => e.2⟩
theorem D_low {s : Bool} {y : Rg} {l : List Rg} (h : Ok s (some y) l) {a : Nat} (ha : a < y.t) : D l a = none :=
  D_none.2 fun r hr hh => by have := h.from r hr; omega
theorem D_mem {l : List Rg} {r : Rg} (hr : r ∈ l) {a : Nat} (h1 : r.f ≤ a) (h2 : a < r.t) : D l a ≠ none := fun e => D_none.1 e r hr ⟨h1, h2⟩
theorem D_high {s : Bool} {x : Option Rg} {l : List Rg} (h : Ok s x l) {a : Nat} (ha : 140737488355328 ≤ a) : D l a = none :=
  D_none.2 fun r hr hh => by have := (h.good_of r hr).1.2.2.2; omega
theorem D_some {l : List Rg} {a : Nat} {v : Int × Int} (h : D l a = some v) : ∃ r ∈ l, r.f ≤ a ∧ a < r.t ∧ v = (r.p, r.k) := by
  induction l with
  | nil => cases h
  | cons r l ih =>
    simp only [D] at h
    split at h
    · rename_i hh
      cases h
      exact ⟨r, by simp, hh.1, hh.2, rfl⟩
    · obtain ⟨r', h1, h2⟩ := ih h
      exact ⟨r', by simp [h1], h2⟩

/-- A valid list is told by what it says of the addresses. -/
theorem ok_unique : ∀ (l m : List Rg) (x y : Option Rg), Ok true x l → Ok true y m → (∀ a, D l a = D m a) → l = m
  | [], [], _, _, _, _, _ => rfl
  | [], s :: m, _, _, _, h2, h => by
    have := h s.f
    simp only [D] at this
    rw [if_pos ⟨Nat.le_refl _, h2.1.1.1.2.2.1⟩] at this
    cases this
  | r :: l, [], _, _, h1, _, h => by
    have := h r.f
    simp only [D] at this
    rw [if_pos ⟨Nat.le_refl _, h1.1.1.1.2.2.1⟩] at this
    cases this
  | r :: l, s :: m, x, y, h1, h2, h => by
    have hr := h1.1.1.1.2.2.1
    have hs := h2.1.1.1.2.2.1
    have low : ∀ {r : Rg} {l : List Rg} {x : Option Rg}, Ok true x (r :: l) → ∀ a, a < r.f → D (r :: l) a = none := fun {r l x} hh a ha => by
      have := hh.1.1.1.2.2.1
      simp only [D]
      rw [if_neg (by omega)]
      exact D_low hh.2 (by omega)
    have hd : ∀ {r : Rg} {l : List Rg}, r.f < r.t → D (r :: l) r.f = some (r.p, r.k) := fun {r l} hh => by
      simp only [D]; rw [if_pos ⟨Nat.le_refl _, hh⟩]
    have hf : r.f = s.f := by
      rcases Nat.lt_trichotomy r.f s.f with hlt | he | hlt
      · have e := h r.f
        rw [hd hr, low h2 _ hlt] at e
        cases e
      · exact he
      · have e := h s.f
        rw [hd hs, low h1 _ hlt] at e
        cases e
    have hpk : r.p = s.p ∧ r.k = s.k := by
      have e := h r.f
      rw [hd hr, hf, hd hs] at e
      simpa using e
    have over : ∀ {r s : Rg} {l m : List Rg} {x y : Option Rg}, Ok true x (r :: l) → Ok true y (s :: m) → (∀ a, D (r :: l) a = D (s :: m) a) → r.f = s.f → r.p = s.p → r.k = s.k → ¬ r.t < s.t := fun {r s l m x y} h1 h2 h hf hp hk hlt => by
      have hr := h1.1.1.1.2.2.1
      have e := h r.t
      simp only [D] at e
      rw [if_neg (by omega), if_pos (by omega)] at e
      obtain ⟨z, hz, hz1, hz2, hz3⟩ := D_some e
      simp only [Prod.mk.injEq] at hz3
      cases l with
      | nil => cases hz
      | cons z' l =>
        have h3 := h1.2.1.2 r rfl
        have : z = z' := by
          rcases List.mem_cons.1 hz with rfl | hz
          · rfl
          · have := h1.2.2.from z hz
            have := h1.2.1.1.1.2.2.1
            have := h3.1
            omega
        subst this
        have := h3.1
        exact h3.2 rfl ⟨by omega, by rw [hp]; exact hz3.1, by rw [hk]; exact hz3.2⟩
    have ht : r.t = s.t := by
      rcases Nat.lt_trichotomy r.t s.t with hlt | he | hlt
      · exact absurd hlt (over h1 h2 h hf hpk.1 hpk.2)
      · exact he
      · exact absurd hlt (over h2 h1 (fun a => (h a).symm) hf.symm hpk.1.symm hpk.2.symm)
    have e : r = s := Rg.same hf ht hpk.1 hpk.2
    subst e
    have : l = m := ok_unique l m _ _ h1.2 h2.2 fun a => by
      by_cases ha : a < r.t
      · rw [D_low h1.2 ha, D_low h2.2 ha]
      · have e := h a
        simp only [D] at e
        rw [if_neg (by omega), if_neg (by omega)] at e
        exact e
    rw [this]

/-! ### Parts -/
def trim (lo hi : Nat) (r : Rg) : Rg := { r with f := max r.f lo, t := min r.t hi }
def meets (lo hi : Nat) (r : Rg) : Prop := max r.f lo < min r.t hi
instance (lo hi : Nat) (r : Rg) : Decidable (meets lo hi r) := by unfold meets; infer_instance
def meeting (lo hi : Nat) (l : List Rg) : List Rg := l.filter fun r => decide (meets lo hi r)
theorem meeting_cons (lo hi : Nat) (r : Rg) (l : List Rg) : meeting lo hi (r :: l) = if meets lo hi r then r :: meeting lo hi l else meeting lo hi l := by
  unfold meeting
  by_cases h : meets lo hi r <;> simp [List.filter_cons, h]
def parts (lo hi : Nat) (l : List Rg) : List Rg := (meeting lo hi l).map (trim lo hi)
theorem parts_cons (lo hi : Nat) (r : Rg) (l : List Rg) : parts lo hi (r :: l) = if meets lo hi r then trim lo hi r :: parts lo hi l else parts lo hi l := by
  unfold parts meeting
  by_cases h : meets lo hi r <;> simp [List.filter_cons, h]
theorem parts_append (lo hi : Nat) (l m : List Rg) : parts lo hi (l ++ m) = parts lo hi l ++ parts lo hi m := by simp [parts, meeting]
theorem D_parts (lo hi : Nat) (l : List Rg) (a : Nat) : D (parts lo hi l) a = if lo ≤ a ∧ a < hi then D l a else none := by
  induction l with
  | nil => simp [parts, meeting, D]
  | cons r l ih =>
    rw [parts_cons]
    split
    · rename_i h
      simp only [D, trim, ih]
      by_cases h1 : lo ≤ a ∧ a < hi
      · rw [if_pos h1]
        by_cases h2 : r.f ≤ a ∧ a < r.t
        · rw [if_pos h2, if_pos (by omega), if_pos h1]
        · rw [if_neg h2, if_neg (by omega), if_pos h1]
      · rw [if_neg h1, if_neg h1, if_neg (by omega)]
    · rename_i h
      simp only [meets] at h
      rw [ih]
      by_cases h1 : lo ≤ a ∧ a < hi
      · rw [if_pos h1, if_pos h1]
        simp only [D]
        rw [if_neg (by omega)]
      · rw [if_neg h1, if_neg h1]
theorem mem_parts {lo hi : Nat} {l : List Rg} {r : Rg} (h : r ∈ parts lo hi l) : lo ≤ r.f ∧ r.t ≤ hi ∧ r.f < r.t := by
  unfold parts meeting at h
  obtain ⟨x, hx, rfl⟩ := List.mem_map.1 h
  have h2 : meets lo hi x := of_decide_eq_true (List.mem_filter.1 hx).2
  unfold meets at h2
  exact ⟨Nat.le_max_right _ _, Nat.min_le_right _ _, h2⟩
theorem ok_parts_some {s : Bool} (lo hi : Nat) (hlo : lo % 4096 = 0) (hhi : hi % 4096 = 0) : ∀ (l : List Rg) (y y' : Rg), Ok s (some y) l → y'.t ≤ y.t → y'.p = y.p → y'.k = y.k → Ok s (some y') (parts lo hi l)
  | [], _, _, _, _, _, _ => trivial
  | r :: l, y, y', h, ht, hp, hk => by
    rw [parts_cons]
    have h1 := (h.1.2 y rfl).1
    have h2 := h.1.1.1
    split
    · rename_i hm
      simp only [meets] at hm
      refine ⟨⟨⟨⟨?_, ?_, hm, ?_⟩, h.1.1.2⟩, fun z e => ?_⟩, ok_parts_some lo hi hlo hhi l r _ h.2 (by simp only [trim]; omega) rfl rfl⟩
      · show max r.f lo % 4096 = 0
        rcases Nat.le_total r.f lo with hh | hh
        · rw [Nat.max_eq_right hh]; exact hlo
        · rw [Nat.max_eq_left hh]; exact h2.1
      · show min r.t hi % 4096 = 0
        rcases Nat.le_total r.t hi with hh | hh
        · rw [Nat.min_eq_left hh]; exact h2.2.1
        · rw [Nat.min_eq_right hh]; exact hhi
      · show min r.t hi ≤ _
        have := h2.2.2.2
        omega
      · cases e
        refine ⟨by simp only [trim]; omega, fun hs hj => ?_⟩
        obtain ⟨j1, j2, j3⟩ := hj
        simp only [trim] at j1 j2 j3
        exact (h.1.2 y rfl).2 hs ⟨by omega, by rw [← hp]; exact j2, by rw [← hk]; exact j3⟩
    · exact ok_parts_some lo hi hlo hhi l y y' (h.tail) ht hp hk
theorem ok_parts {s : Bool} {x : Option Rg} (lo hi : Nat) (hlo : lo % 4096 = 0) (hhi : hi % 4096 = 0) {l : List Rg} (h : Ok s x l) : Ok s none (parts lo hi l) := by
  induction l generalizing x with
  | nil => trivial
  | cons r l ih =>
    rw [parts_cons]
    split
    · rename_i hm
      -- as behind an empty region that ends where r begins
      have h2 := h.1.1.1
      have hh : Ok s (some { f := 0, t := 0, p := 0, k := 0 }) (r :: l) := ⟨⟨h.1.1, fun z e => by cases e; exact ⟨Nat.zero_le _, fun _ hj => by have h1 := h.1.1.2.1.1; have h3 : (0 : Int) = r.p := hj.2.1; omega⟩⟩, h.2⟩
      have := ok_parts_some lo hi hlo hhi (r :: l) _ { f := 0, t := 0, p := 0, k := 0 } hh (Nat.le_refl _) rfl rfl
      rw [parts_cons, if_pos hm] at this
      exact this.any
    · exact ih h.2
theorem parts_self {lo hi : Nat} {l : List Rg} (h : ∀ r ∈ l, lo ≤ r.f ∧ r.t ≤ hi ∧ r.f < r.t) : parts lo hi l = l := by
  induction l with
  | nil => rfl
  | cons r l ih =>
    obtain ⟨h1, h2, h3⟩ := h r (by simp)
    rw [parts_cons, if_pos (by simp only [meets]; omega), ih (fun z hz => h z (by simp [hz]))]
    congr 1
    exact Rg.same (by simp only [trim]; omega) (by simp only [trim]; omega) rfl rfl
/-- Nothing there: no address is. -/
theorem parts_nil {lo hi : Nat} {l : List Rg} : parts lo hi l = [] ↔ ∀ a, lo ≤ a → a < hi → D l a = none := by
  constructor
  · intro h a h1 h2
    have := D_parts lo hi l a
    rw [h, if_pos ⟨h1, h2⟩] at this
    exact this.symm
  · intro h
    cases e : parts lo hi l with
    | nil => rfl
    | cons r m =>
      have hr : r ∈ parts lo hi l := by rw [e]; simp
      obtain ⟨h1, h2, h3⟩ := mem_parts hr
      have := D_parts lo hi l r.f
      rw [if_pos ⟨h1, by omega⟩, h r.f h1 (by omega)] at this
      exact absurd this (D_mem hr (Nat.le_refl _) h3)

/-! ### Lists joined -/
def push (out : List Rg) (r : Rg) : List Rg :=
  match out.getLast? with
  | some y => if joins y r then out.dropLast ++ [{ y with t := r.t }] else out ++ [r]
  | none => out ++ [r]
def one (l : List Rg) : List Rg := l.foldl push []
def mg (x : Rg) : List Rg → List Rg
  | [] => [x]
  | r :: l => if joins x r then mg { x with t := r.t } l else x :: mg r l
theorem push_snoc (out : List Rg) (x r : Rg) : push (out ++ [x]) r = if joins x r then out ++ [{ x with t := r.t }] else out ++ [x] ++ [r] := by
  simp [push]
theorem push_nil (r : Rg) : push [] r = [r] := rfl
theorem foldl_push (out : List Rg) (x : Rg) (l : List Rg) : l.foldl push (out ++ [x]) = out ++ mg x l := by
  induction l generalizing out x with
  | nil => rfl
  | cons r l ih =>
    rw [List.foldl_cons, push_snoc]
    simp only [mg]
    split
    · exact ih _ _
    · rw [ih]; simp
theorem one_cons (r : Rg) (l : List Rg) : one (r :: l) = mg r l := by
  have := foldl_push [] r l
  simpa [one, push_nil] using this
theorem mg_ok (l : List Rg) : ∀ (x : Rg) (y : Option Rg), good x → Ok false (some x) l → (∀ z, y = some z → Fol true z x) → Ok true y (mg x l) ∧ ∀ a, D (mg x l) a = D (x :: l) a := by
  induction l with
  | nil => exact fun x y hg _ hy => ⟨⟨⟨hg, hy⟩, trivial⟩, fun a => rfl⟩
  | cons r l ih =>
    intro x y hg h hy
    have hr := h.1.1
    have hx := (h.1.2 x rfl).1
    simp only [mg]
    split
    · rename_i hj
      obtain ⟨h1, h2⟩ := ih { x with t := r.t } y ⟨⟨hg.1.1, hr.1.2.1, by have := hg.1.2.2.1; have := hr.1.2.2.1; show x.f < r.t; omega, hr.1.2.2.2⟩, hg.2⟩ (by
        cases l with
        | nil => trivial
        | cons z l => exact ⟨⟨h.2.1.1, fun z' e => by cases e; exact ⟨(h.2.1.2 r rfl).1, fun e => by cases e⟩⟩, h.2.2⟩) (fun z e => ⟨(hy z e).1, fun e' hj' => (hy z e).2 e' hj'⟩)
      refine ⟨h1, fun a => ?_⟩
      rw [h2]
      obtain ⟨j1, j2, j3⟩ := hj
      have := hg.1.2.2.1
      have := hr.1.2.2.1
      simp only [D]
      by_cases c1 : x.f ≤ a ∧ a < x.t
      · rw [if_pos c1, if_pos (by omega)]
      · rw [if_neg c1]
        by_cases c2 : r.f ≤ a ∧ a < r.t
        · rw [if_pos c2, if_pos (by omega), j2, j3]
        · rw [if_neg c2, if_neg (by omega)]
    · rename_i hj
      obtain ⟨h1, h2⟩ := ih r (some x) hr h.2 (fun z e => by cases e; exact ⟨hx, fun _ => hj⟩)
      refine ⟨⟨⟨hg, hy⟩, h1⟩, fun a => ?_⟩
      simp only [D] at h2 ⊢
      rw [h2]
theorem one_ok {x : Option Rg} {l : List Rg} (h : Ok false x l) : Ok true none (one l) ∧ ∀ a, D (one l) a = D l a := by
  cases l with
  | nil => exact ⟨trivial, fun _ => rfl⟩
  | cons r l => rw [one_cons]; exact mg_ok l r none h.1.1 h.2 (fun _ e => by cases e)
theorem ok_append {x : Option Rg} {c : Nat} {l m : List Rg} (hl : Ok false x l) (hm : Ok false none m) (hx : ∀ y, x = some y → y.t ≤ c) (h1 : ∀ r ∈ l, r.t ≤ c) (h2 : ∀ r ∈ m, c ≤ r.f) : Ok false x (l ++ m) := by
  induction l generalizing x with
  | nil =>
    cases m with
    | nil => trivial
    | cons r m => exact ⟨⟨hm.1.1, fun y e => ⟨by have := hx y e; have := h2 r (by simp); omega, fun e => by cases e⟩⟩, hm.2⟩
  | cons r l ih =>
    exact ⟨hl.1, ih hl.2 (fun y e => by cases e; exact h1 r (by simp)) (fun z hz => h1 z (by simp [hz]))⟩

/-- A list in which a range has what m has. -/
def rep (l : List Rg) (lo hi : Nat) (m : List Rg) : List Rg := one (parts 0 lo l ++ m ++ parts hi 140737488355328 l)
theorem rep_ok {x : Option Rg} {l m : List Rg} {lo hi : Nat} (h : Ok true x l) (hr : isRange lo hi) (hm : Ok false none m) (hin : ∀ r ∈ m, lo ≤ r.f ∧ r.t ≤ hi) :
    Ok true none (rep l lo hi m) ∧ ∀ a, D (rep l lo hi m) a = if lo ≤ a ∧ a < hi then D m a else D l a := by
  obtain ⟨r1, r2, r3, r4⟩ := hr
  have hA : Ok false none (parts 0 lo l) := (ok_parts 0 lo (by decide) r1 h).weak
  have hC : Ok false none (parts hi 140737488355328 l) := (ok_parts hi _ r2 (by decide) h).weak
  have hAB := ok_append (c := lo) hA hm (fun _ e => by cases e) (fun r hr => (mem_parts hr).2.1) (fun r hr => (hin r hr).1)
  have hABC := ok_append (c := hi) hAB hC (fun _ e => by cases e) (fun r hr => by
    rcases List.mem_append.1 hr with hr | hr
    · have := (mem_parts hr).2.1; omega
    · exact (hin r hr).2) (fun r hr => (mem_parts hr).1)
  obtain ⟨h1, h2⟩ := one_ok hABC
  refine ⟨h1, fun a => ?_⟩
  unfold rep
  rw [h2, D_append, D_append, D_parts, D_parts]
  have hmo : ¬ (lo ≤ a ∧ a < hi) → D m a = none := fun hn => D_none.2 fun r hr hh => by have := hin r hr; omega
  by_cases c : lo ≤ a ∧ a < hi
  · rw [if_pos c, if_neg (by omega), if_neg (by omega)]
    simp
  · rw [if_neg c, hmo c]
    by_cases c1 : a < lo
    · rw [if_pos (by omega), if_neg (by omega)]
      simp
    · rw [if_neg (by omega)]
      by_cases c2 : a < 140737488355328
      · rw [if_pos (by omega)]; simp
      · rw [if_neg (by omega), D_high h (by omega)]; simp

/-! ### Sizes -/
def Sz : List Rg → Nat
  | [] => 0
  | r :: l => (r.t - r.f) + Sz l
theorem Sz_append (l m : List Rg) : Sz (l ++ m) = Sz l + Sz m := by
  induction l with
  | nil => simp [Sz]
  | cons r l ih => simp only [List.cons_append, Sz, ih]; omega
theorem Sz_le {s : Bool} {y : Rg} {l : List Rg} {c : Nat} (h : Ok s (some y) l) (hc : ∀ r ∈ l, r.t ≤ c) (hy : y.t ≤ c) : Sz l ≤ c - y.t := by
  induction l generalizing y with
  | nil => simp [Sz]
  | cons r l ih =>
    have h1 := (h.1.2 y rfl).1
    have h2 := h.1.1.1.2.2.1
    have h3 := hc r (by simp)
    have := ih h.2 (fun z hz => hc z (by simp [hz])) h3
    simp only [Sz]
    omega
theorem Sz_top {s : Bool} {x : Option Rg} {l : List Rg} (h : Ok s x l) : Sz l ≤ 140737488355328 := by
  cases l with
  | nil => simp [Sz]
  | cons r l =>
    have h2 := h.1.1.1
    have := Sz_le (c := 140737488355328) h.2 (fun z hz => (h.2.good_of z hz).1.2.2.2) h2.2.2.2
    simp only [Sz]
    have := h2.2.2.1
    have := h2.2.2.2
    omega
theorem Sz_take (l : List Rg) (k : Nat) : Sz (l.take k) ≤ Sz l := by
  have := Sz_append (l.take k) (l.drop k)
  rw [List.take_append_drop] at this
  omega
theorem Sz_parts (lo mid hi : Nat) (h1 : lo ≤ mid) (h2 : mid ≤ hi) (l : List Rg) : Sz (parts lo hi l) = Sz (parts lo mid l) + Sz (parts mid hi l) := by
  have key : ∀ lo hi l, Sz (parts lo hi l) = (l.map fun r => min r.t hi - max r.f lo).sum := by
    intro lo hi l
    induction l with
    | nil => rfl
    | cons r l ih =>
      rw [parts_cons, List.map_cons, List.sum_cons, ← ih]
      split
      · rename_i h; simp [Sz, trim]
      · rename_i h; simp only [meets] at h; omega
  rw [key, key, key]
  induction l with
  | nil => rfl
  | cons r l ih => simp only [List.map_cons, List.sum_cons, ih]; omega

/-- Is a range covered, from at on? -/
def cov (hi at_ : Nat) : List Rg → Prop
  | [] => at_ = hi
  | r :: l => r.f = at_ ∧ cov hi r.t l
theorem cov_iff {s : Bool} {hi : Nat} {l : List Rg} : ∀ {y : Rg} {at_ : Nat}, Ok s (some y) l → y.t ≤ at_ → (∀ r ∈ l, at_ ≤ r.f ∧ r.t ≤ hi) → at_ ≤ hi → (cov hi at_ l ↔ Sz l = hi - at_) := by
  induction l with
  | nil => intro y at_ _ _ _ h; simp only [cov, Sz]; omega
  | cons r l ih =>
    intro y at_ h hy hin hle
    obtain ⟨h1, h2⟩ := hin r (by simp)
    have h3 := h.1.1.1.2.2.1
    have hs := Sz_le (c := hi) h.2 (fun z hz => (hin z (by simp [hz])).2) h2
    have := ih (y := r) (at_ := r.t) h.2 (Nat.le_refl _) (fun z hz => ⟨h.2.from z hz, (hin z (by simp [hz])).2⟩) h2
    simp only [cov, Sz, this]
    omega
theorem cov_parts {s : Bool} {x : Option Rg} {l : List Rg} {lo hi : Nat} (h : Ok s x l) (hr : isRange lo hi) : cov hi lo (parts lo hi l) ↔ Sz (parts lo hi l) = hi - lo := by
  have h1 := ok_parts lo hi hr.1 hr.2.1 h
  have h2 : Ok false (some { f := 0, t := lo, p := 0, k := 0 }) (parts lo hi l) := by
    cases e : parts lo hi l with
    | nil => trivial
    | cons r m =>
      rw [e] at h1
      have hr : r ∈ parts lo hi l := by rw [e]; simp
      exact ⟨⟨h1.1.1, fun y e' => by cases e'; exact ⟨(mem_parts hr).1, fun e => by cases e⟩⟩, h1.2.weak⟩
  exact cov_iff h2 (Nat.le_refl _) (fun r hr => ⟨(mem_parts hr).1, (mem_parts hr).2.1⟩) (by have := hr.2.2.1; omega)
noncomputable instance (hi at_ : Nat) (l : List Rg) : Decidable (cov hi at_ l) := Classical.propDecidable _

/-! ### Gaps -/
def up (n st : Nat) : Nat := (n + st - 1) / st * st
theorem up_eq {n st : Nat} (h : 0 < st) : up n st = if n % st = 0 then n else n + (st - n % st) := by
  unfold up
  have h1 := Nat.div_add_mod n st
  have h2 := Nat.mod_lt n h
  split
  · rename_i e
    have : n + st - 1 = (st - 1) + st * (n / st) := by omega
    rw [this, Nat.add_mul_div_left _ _ h, Nat.div_eq_of_lt (by omega), Nat.zero_add, Nat.mul_comm]
    omega
  · rename_i e
    have : n + st - 1 = (n % st - 1) + st * (n / st + 1) := by rw [Nat.mul_add]; omega
    rw [this, Nat.add_mul_div_left _ _ h, Nat.div_eq_of_lt (by omega), Nat.zero_add, Nat.mul_comm, Nat.mul_add]
    omega
theorem up_ge {n st : Nat} (h : 0 < st) : n ≤ up n st := by rw [up_eq h]; split <;> omega
theorem up_mod (n st : Nat) : up n st % st = 0 := by unfold up; exact Nat.mul_mod_left _ _
theorem up_le {n m st : Nat} (h : 0 < st) (hm : m % st = 0) (hn : n ≤ m) : up n st ≤ m := by
  obtain ⟨q, rfl⟩ : ∃ q, m = st * q := ⟨m / st, by have := Nat.div_add_mod m st; omega⟩
  unfold up
  have : (n + st - 1) / st ≤ q := by
    rw [← Nat.lt_succ_iff, Nat.div_lt_iff_lt_mul h, Nat.succ_mul, Nat.mul_comm q]
    omega
  calc _ ≤ q * st := Nat.mul_le_mul_right _ this
    _ = _ := Nat.mul_comm _ _
theorem up_mono {n m st : Nat} (h : 0 < st) (hn : n ≤ m) : up n st ≤ up m st := up_le h (up_mod _ _) (Nat.le_trans hn (up_ge h))
def fits (a e s : Nat) : Prop := a ≤ e ∧ s ≤ e - a
instance (a e s : Nat) : Decidable (fits a e s) := by unfold fits; infer_instance
/-- The program's way: over the regions that meet the bounds. -/
def gp (st sz : Nat) (at_ : Nat) : List Rg → Nat
  | [] => at_
  | r :: l => if fits at_ r.f sz then at_ else gp st sz (up r.t st) l
/-- The document's: over all. -/
def gr (st sz hi : Nat) (at_ : Nat) : List Rg → Option Nat
  | [] => if fits at_ hi sz then some at_ else none
  | r :: l => if fits at_ (min hi r.f) sz then some at_ else gr st sz hi (if at_ < r.t then up r.t st else at_) l
/-- The answer at a place. -/
def gq (sz hi x : Nat) : Option Nat := if fits x hi sz then some x else none
theorem gr_past {st sz hi : Nat} (hst : 0 < st) : ∀ (l : List Rg) (at_ : Nat), hi < at_ → gr st sz hi at_ l = none
  | [], at_, h => by simp only [gr]; rw [if_neg (by unfold fits; omega)]
  | r :: l, at_, h => by
    simp only [gr]
    rw [if_neg (by unfold fits; omega)]
    refine gr_past hst l _ ?_
    split
    · have := up_ge (n := r.t) hst; omega
    · exact h
/-- What the regions ahead say of the place. -/
def Ahead (st lo at_ : Nat) (x : Option Rg) : Prop := lo ≤ at_ ∧ at_ % st = 0 ∧ (at_ = lo ∨ ∃ y, x = some y ∧ at_ = up y.t st)
theorem gap_eq {s : Bool} {st sz lo hi : Nat} (hst : 0 < st) (hsz : 0 < sz) : ∀ (l : List Rg) (x x' : Option Rg) (at_ : Nat), Ok s x l → (∀ y', x' = some y' → ∀ r ∈ l, y'.t ≤ r.f) → Ahead st lo at_ x' → lo ≤ hi →
    gr st sz hi at_ l = gq sz hi (gp st sz at_ (meeting lo hi l))
  | [], _, _, at_, _, _, _, _ => by simp [gr, meeting, gp, gq]
  | r :: l, x, x', at_, h, hx, ha, hle => by
    have hrt := h.1.1.1.2.2.1
    obtain ⟨a1, a2, a3⟩ := ha
    have hnext : ∀ y', x' = some y' → ∀ z ∈ l, y'.t ≤ z.f := fun y' e z hz => hx y' e z (by simp [hz])
    rw [meeting_cons]
    by_cases hm : meets lo hi r
    · rw [if_pos hm]
      simp only [meets] at hm
      simp only [gr, gp]
      rw [Nat.min_eq_right (by omega)]
      by_cases hf : fits at_ r.f sz
      · rw [if_pos hf, if_pos hf]
        unfold gq
        rw [if_pos (by unfold fits at hf ⊢; omega)]
      · rw [if_neg hf, if_neg hf]
        have e : (if at_ < r.t then up r.t st else at_) = up r.t st := by
          split
          · rfl
          · rename_i hh
            rcases a3 with a3 | ⟨y, hy, a3⟩
            · omega
            · have h1 := hx y hy r (by simp)
              have h2 := up_le hst a2 (show r.t ≤ at_ by omega)
              have h3 := up_mono (st := st) hst (show y.t ≤ r.t by omega)
              omega
        rw [e]
        exact gap_eq hst hsz l (some r) (some r) (up r.t st) h.2 (fun y' e z hz => by cases e; exact h.2.from z hz) ⟨by have := up_ge (n := r.t) hst; omega, up_mod _ _, .inr ⟨r, rfl, rfl⟩⟩ hle
    · rw [if_neg hm]
      simp only [meets] at hm
      have key := fun at_ x' h1 h2 => gap_eq (s := s) hst hsz l (some r) x' at_ h.2 h1 h2 hle
      simp only [gr]
      by_cases c : at_ < r.t
      · -- r lies behind hi, or the bounds are one
        rw [if_pos c]
        have hc : hi ≤ r.f ∨ lo = hi := by omega
        have hnf : ¬ fits at_ hi sz → gr st sz hi (up r.t st) l = none := fun hn => by
          refine gr_past hst l _ ?_
          have := up_ge (n := r.t) hst; omega
        have hgp : gp st sz at_ (meeting lo hi l) = at_ := by
          have : meeting lo hi l = [] := by
            unfold meeting
            rw [List.filter_eq_nil_iff]
            intro z hz
            have h1 := h.2.from z hz
            intro hh
            have hh' : max z.f lo < min z.t hi := of_decide_eq_true hh
            omega
          rw [this]; rfl
        rw [hgp]
        unfold gq
        by_cases hf : fits at_ hi sz
        · have hf' := hf
          unfold fits at hf
          have : hi ≤ r.f := by omega
          rw [Nat.min_eq_left this, if_pos hf', if_pos hf']
        · rw [if_neg hf, hnf hf]
          rw [if_neg (by unfold fits at hf ⊢; omega)]
      · rw [if_neg c, if_neg (by unfold fits; omega)]
        exact key at_ x' hnext ⟨a1, a2, a3⟩
/-- What is found is free, and a step ahead of it it's not. -/
theorem gr_free {s : Bool} {st sz hi : Nat} (hst : 0 < st) (hsz : 0 < sz) : ∀ (l : List Rg) (x : Option Rg) (at_ g : Nat), Ok s x l → at_ % st = 0 → gr st sz hi at_ l = some g →
    at_ ≤ g ∧ g % st = 0 ∧ g + sz ≤ hi ∧ (∀ r ∈ l, r.t ≤ g ∨ g + sz ≤ r.f) ∧ (g = at_ ∨ ∃ r ∈ l, g = up r.t st)
  | [], _, at_, g, _, ha, hg => by
    simp only [gr] at hg
    split at hg
    · rename_i h
      cases hg
      unfold fits at h
      exact ⟨Nat.le_refl _, ha, by omega, fun r hr => absurd hr (by simp), .inl rfl⟩
    · cases hg
  | r :: l, x, at_, g, h, ha, hg => by
    simp only [gr] at hg
    split at hg
    · rename_i hf
      cases hg
      unfold fits at hf
      refine ⟨Nat.le_refl _, ha, by omega, fun z hz => ?_, .inl rfl⟩
      right
      rcases List.mem_cons.1 hz with rfl | hz
      · omega
      · have := h.2.from z hz
        have := h.1.1.1.2.2.1
        omega
    · rename_i hf
      have hr := up_ge (n := r.t) hst
      obtain ⟨h1, h2, h3, h4, h5⟩ := gr_free hst hsz l (some r) _ g h.2 (by split; exact up_mod _ _; exact ha) hg
      refine ⟨by split at h1 <;> omega, h2, h3, fun z hz => ?_, ?_⟩
      · rcases List.mem_cons.1 hz with rfl | hz
        · left
          split at h1 <;> omega
        · exact h4 z hz
      · rcases h5 with h5 | ⟨z, hz, h5⟩
        · split at h5
          · exact .inr ⟨r, by simp, h5⟩
          · exact .inl h5
        · exact .inr ⟨z, by simp [hz], h5⟩
end RG
end Go.Proofs.Ytfbhcnamkojboaa

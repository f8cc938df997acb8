/- A queue of processes as plain data: processes by rising numbers, the ready ones in the order in which they became the last ones of their levels; what each call answers, and what becomes of them. -/
import Derived.Test.YtmikgkelmdgckaaShareChoose
namespace Go.Proofs.Ytmikgkelmdgckaa
set_option linter.unusedVariables false
set_option linter.unusedSimpArgs false
namespace SD

/-- A process: its number, its nice value, whether it is ready, its load's bits. -/
structure Pr where
  pid : Int
  nice : Int
  on : Bool
  load : Nat
/-- A queue. -/
structure Qs where
  P : List Pr
  L : List Int

def ltP (p : Int) (x : Pr) : Bool := decide (x.pid < p)
def hasP (p : Int) (x : Pr) : Bool := decide (x.pid = p)
def low (P : List Pr) (p : Int) : Nat := (P.takeWhile (ltP p)).length
def get (P : List Pr) (p : Int) : Option Pr := P.find? (hasP p)
def Asc (P : List Pr) : Prop := P.Pairwise fun a b => a.pid < b.pid
def isNice (n : Int) : Bool := decide (-20 ≤ n ∧ n ≤ 19)
def lev (n : Int) : Nat := ((n + 20) / 8).toNat
def levP (P : List Pr) (p : Int) : Nat := match get P p with | some x => lev x.nice | none => 0
def lst (P : List Pr) (L : List Int) (k : Nat) : List Int := L.filter fun p => decide (levP P p = k)
def off (L : List Int) (p : Int) : List Int := L.filter fun q => decide (q ≠ p)
def insP (P : List Pr) (x : Pr) : List Pr := P.take (low P x.pid) ++ x :: P.drop (low P x.pid)
def delP (P : List Pr) (i : Nat) : List Pr := P.take i ++ P.drop (i + 1)

theorem takeWhile_all {α : Type} (f : α → Bool) : ∀ (l : List α) (x : α), x ∈ l.takeWhile f → f x = true
  | [], x, h => by simp at h
  | y :: l, x, h => by
    cases hy : f y with
    | false => simp [List.takeWhile_cons, hy] at h
    | true =>
      simp only [List.takeWhile_cons, hy, if_true, List.mem_cons] at h
      rcases h with rfl | h
      · exact hy
      · exact takeWhile_all f l x h
theorem low_le (P : List Pr) (p : Int) : low P p ≤ P.length := (List.takeWhile_sublist _).length_le
theorem low_lt {P : List Pr} {p : Int} {j : Nat} (hj : j < low P p) : ∃ h : j < P.length, P[j].pid < p := by
  have h0 : j < P.length := Nat.lt_of_lt_of_le hj (low_le P p)
  refine ⟨h0, ?_⟩
  have h1 := List.takeWhile_prefix (p := ltP p) (l := P)
  have h2 : (P.takeWhile (ltP p))[j]'hj = P[j] := List.IsPrefix.getElem h1 hj
  have h3 : ltP p (P.takeWhile (ltP p))[j] = true := takeWhile_all (ltP p) P _ (List.getElem_mem hj)
  rw [h2] at h3
  simpa [ltP] using h3
theorem takeWhile_stop {α : Type} (f : α → Bool) : ∀ (l : List α) (h : (l.takeWhile f).length < l.length), f (l[(l.takeWhile f).length]'h) = false
  | [], h => by simp at h
  | x :: l, h => by
    cases hx : f x with
    | false => simp [List.takeWhile_cons, hx]
    | true =>
      simp only [List.takeWhile_cons, hx, if_true, List.length_cons] at h ⊢
      have := takeWhile_stop f l (by omega)
      simpa using this
theorem low_stop {P : List Pr} {p : Int} (h : low P p < P.length) : p ≤ P[low P p].pid := by
  have := takeWhile_stop (ltP p) P h
  have h2 : ltP p P[low P p] = false := this
  simp [ltP] at h2
  exact h2
theorem asc_lt {P : List Pr} (h : Asc P) {i j : Nat} (hij : i < j) (hj : j < P.length) : P[i].pid < P[j].pid := List.pairwise_iff_getElem.1 h i j (by omega) hj hij
theorem low_ge {P : List Pr} (h : Asc P) {p : Int} {j : Nat} (hj : j < P.length) (hl : low P p ≤ j) : p ≤ P[j].pid := by
  have h1 := low_stop (P := P) (p := p) (by omega)
  rcases Nat.lt_or_ge (low P p) j with h2 | h2
  · have := asc_lt h h2 hj
    omega
  · have e : j = low P p := by omega
    subst e
    exact h1
theorem low_of {P : List Pr} {p : Int} {i : Nat} (hi : i ≤ P.length) (h1 : ∀ j (hj : j < P.length), j < i → P[j].pid < p) (h2 : ∀ (h : i < P.length), p ≤ P[i].pid) : low P p = i := by
  rcases Nat.lt_trichotomy (low P p) i with h | h | h
  · have := low_stop (P := P) (p := p) (by omega)
    have := h1 (low P p) (by omega) h
    omega
  · exact h
  · obtain ⟨h3, h4⟩ := low_lt h
    have := h2 h3
    omega
theorem get_some {P : List Pr} {p : Int} {x : Pr} (h : get P p = some x) : x ∈ P ∧ x.pid = p := by
  unfold get at h
  exact ⟨List.mem_of_find?_eq_some h, by simpa [hasP] using List.find?_some h⟩
theorem get_none {P : List Pr} {p : Int} : get P p = none ↔ ∀ x ∈ P, x.pid ≠ p := by
  unfold get
  rw [List.find?_eq_none]
  simp [hasP]
theorem asc_inj {P : List Pr} (h : Asc P) {x y : Pr} (hx : x ∈ P) (hy : y ∈ P) (e : x.pid = y.pid) : x = y := by
  obtain ⟨i, hi, rfl⟩ := List.getElem_of_mem hx
  obtain ⟨j, hj, rfl⟩ := List.getElem_of_mem hy
  rcases Nat.lt_trichotomy i j with hlt | rfl | hgt
  · have := asc_lt h hlt hj; omega
  · rfl
  · have := asc_lt h hgt hi; omega
theorem asc_get {P : List Pr} (h : Asc P) {x : Pr} (hx : x ∈ P) : get P x.pid = some x := by
  cases e : get P x.pid with
  | none => exact absurd rfl (get_none.1 e x hx)
  | some y =>
    obtain ⟨h1, h2⟩ := get_some e
    rw [asc_inj h h1 hx h2]
theorem get_iff {P : List Pr} (h : Asc P) {p : Int} {x : Pr} : get P p = some x ↔ x ∈ P ∧ x.pid = p :=
  ⟨get_some, fun ⟨h1, h2⟩ => h2 ▸ asc_get h h1⟩
/-- Where a process that there is stands. -/
theorem get_at {P : List Pr} (h : Asc P) {p : Int} {x : Pr} (hx : get P p = some x) : ∃ hl : low P p < P.length, P[low P p] = x := by
  obtain ⟨h1, h2⟩ := get_some hx
  obtain ⟨i, hi, e⟩ := List.getElem_of_mem h1
  have : low P p = i := low_of (by omega) (fun j hj hlt => by have := asc_lt h hlt hi; rw [e, h2] at this; exact this) (fun _ => by rw [e, h2]; exact Int.le_refl _)
  refine ⟨by omega, ?_⟩
  have e2 : P[low P p]'(by omega) = P[i] := by congr 1
  rw [e2, e]
theorem get_no {P : List Pr} {p : Int} (hx : get P p = none) : ∀ (h : low P p < P.length), p < P[low P p].pid := by
  intro h
  have h1 := low_stop h
  have h2 := get_none.1 hx _ (List.getElem_mem h)
  omega
theorem pos_low {P : List Pr} (h : Asc P) {p : Int} {x : Pr} (hx : get P p = some x) : ∀ j (hj : j < P.length), P[j].pid = p ↔ j = low P p := by
  intro j hj
  obtain ⟨hl, e⟩ := get_at h hx
  have hp := (get_some hx).2
  constructor
  · intro e2
    rcases Nat.lt_trichotomy j (low P p) with h1 | h1 | h1
    · have := asc_lt h h1 hl; rw [e, hp, e2] at this; omega
    · exact h1
    · have := asc_lt h h1 hj; rw [e, hp, e2] at this; omega
  · intro e2
    subst e2
    rw [e, hp]

/-! ### what lists become -/
theorem mem_off {L : List Int} {p q : Int} : q ∈ off L p ↔ q ∈ L ∧ q ≠ p := by simp [off]
theorem off_same {L : List Int} {p : Int} (h : p ∉ L) : off L p = L := by
  unfold off
  rw [List.filter_eq_self]
  intro q hq
  simp
  intro e
  exact h (e ▸ hq)
theorem mem_lst {P : List Pr} {L : List Int} {k : Nat} {q : Int} : q ∈ lst P L k ↔ q ∈ L ∧ levP P q = k := by simp [lst]
theorem lst_off (P : List Pr) (L : List Int) (p : Int) (k : Nat) : lst P (off L p) k = off (lst P L k) p := by
  unfold lst off
  rw [List.filter_filter, List.filter_filter]
  congr 1
  funext q
  exact Bool.and_comm _ _
theorem lst_app (P : List Pr) (L : List Int) (p : Int) (k : Nat) : lst P (L ++ [p]) k = if levP P p = k then lst P L k ++ [p] else lst P L k := by
  unfold lst
  rw [List.filter_append]
  by_cases h : levP P p = k <;> simp [h]
theorem lst_congr {P P' : List Pr} {L : List Int} (h : ∀ q ∈ L, levP P' q = levP P q) (k : Nat) : lst P' L k = lst P L k := by
  unfold lst
  apply List.filter_congr
  intro q hq
  rw [h q hq]
theorem levP_congr {P P' : List Pr} {q : Int} (h : (get P' q).map (·.nice) = (get P q).map (·.nice)) : levP P' q = levP P q := by
  unfold levP
  cases h1 : get P' q <;> cases h2 : get P q <;> rw [h1, h2] at h <;> simp_all

/-! ### what processes become -/
theorem mem_ins {P : List Pr} {x y : Pr} : y ∈ insP P x ↔ y = x ∨ y ∈ P := by
  unfold insP
  rw [List.mem_append, List.mem_cons]
  constructor
  · rintro (h | h | h)
    · exact .inr (List.mem_of_mem_take h)
    · exact .inl h
    · exact .inr (List.mem_of_mem_drop h)
  · rintro (h | h)
    · exact .inr (.inl h)
    · rw [← List.take_append_drop (low P x.pid) P, List.mem_append] at h
      exact h.elim .inl fun h => .inr (.inr h)
theorem ins_len (P : List Pr) (x : Pr) : (insP P x).length = P.length + 1 := by
  have := low_le P x.pid
  unfold insP
  simp
  omega
theorem asc_ins {P : List Pr} (h : Asc P) {x : Pr} (hx : get P x.pid = none) : Asc (insP P x) := by
  have hs : P.take (low P x.pid) ++ P.drop (low P x.pid) = P := List.take_append_drop _ _
  have hP := h
  unfold Asc at hP ⊢
  rw [← hs, List.pairwise_append] at hP
  obtain ⟨h1, h2, h3⟩ := hP
  unfold insP
  rw [List.pairwise_append, List.pairwise_cons]
  have hlo : ∀ y ∈ P.take (low P x.pid), y.pid < x.pid := by
    intro y hy
    obtain ⟨i, hi, rfl⟩ := List.getElem_of_mem hy
    rw [List.length_take] at hi
    rw [List.getElem_take]
    obtain ⟨h4, h5⟩ := low_lt (P := P) (p := x.pid) (j := i) (by omega)
    exact h5
  have hhi : ∀ y ∈ P.drop (low P x.pid), x.pid < y.pid := by
    intro y hy
    have hne := get_none.1 hx y (List.mem_of_mem_drop hy)
    obtain ⟨i, hi, rfl⟩ := List.getElem_of_mem hy
    rw [List.length_drop] at hi
    rw [List.getElem_drop] at hne ⊢
    have := low_ge h (p := x.pid) (j := low P x.pid + i) (by omega) (by omega)
    omega
  refine ⟨h1, ⟨hhi, h2⟩, ?_⟩
  intro a ha b hb
  rcases List.mem_cons.1 hb with rfl | hb
  · exact hlo a ha
  · exact h3 a ha b hb
theorem get_ins {P : List Pr} (h : Asc P) {x : Pr} (hx : get P x.pid = none) (q : Int) : get (insP P x) q = if q = x.pid then some x else get P q := by
  have ha := asc_ins h hx
  by_cases e : q = x.pid
  · rw [if_pos e, e]
    exact asc_get ha (mem_ins.2 (.inl rfl))
  · rw [if_neg e]
    cases hq : get P q with
    | none =>
      rw [get_none] at hq ⊢
      intro y hy
      rcases mem_ins.1 hy with rfl | hy
      · exact fun h => e h.symm
      · exact hq y hy
    | some y =>
      obtain ⟨h1, h2⟩ := get_some hq
      exact (get_iff ha).2 ⟨mem_ins.2 (.inr h1), h2⟩
theorem asc_del {P : List Pr} (h : Asc P) (i : Nat) : Asc (delP P i) := by
  refine List.Pairwise.sublist ?_ h
  unfold delP
  have : P.take i ++ P.drop i = P := List.take_append_drop _ _
  conv => rhs; rw [← this]
  exact List.Sublist.append (List.Sublist.refl _) (by rw [← List.drop_drop]; exact List.drop_sublist _ _)
theorem mem_del {P : List Pr} {i : Nat} {y : Pr} (hy : y ∈ delP P i) : y ∈ P := by
  unfold delP at hy
  rw [List.mem_append] at hy
  exact hy.elim List.mem_of_mem_take List.mem_of_mem_drop
theorem del_mem {P : List Pr} {j : Nat} (hj : j < P.length) {i : Nat} (hne : j ≠ i) : P[j] ∈ delP P i := by
  unfold delP
  rw [List.mem_append]
  rcases Nat.lt_or_ge j i with h | h
  · left
    rw [List.mem_take_iff_getElem]
    exact ⟨j, by omega, rfl⟩
  · right
    rw [List.mem_drop_iff_getElem]
    exact ⟨j - (i + 1), by omega, by congr 1; omega⟩
theorem get_del {P : List Pr} (h : Asc P) {p : Int} {x : Pr} (hx : get P p = some x) (q : Int) : get (delP P (low P p)) q = if q = p then none else get P q := by
  have ha := asc_del h (low P p)
  obtain ⟨hl, e⟩ := get_at h hx
  have hp := (get_some hx).2
  by_cases eq : q = p
  · rw [if_pos eq, get_none]
    intro y hy hyp
    have hm := mem_del hy
    have e2 : y = x := asc_inj h hm (get_some hx).1 (by rw [hyp, hp, eq])
    subst e2
    -- the one process of that number was left out
    unfold delP at hy
    rw [List.mem_append] at hy
    rcases hy with hy | hy
    · rw [List.mem_take_iff_getElem] at hy
      obtain ⟨i, hi, hie⟩ := hy
      have := (pos_low h hx i (by omega)).1 (by rw [hie, hp])
      omega
    · rw [List.mem_drop_iff_getElem] at hy
      obtain ⟨i, hi, hie⟩ := hy
      have := (pos_low h hx (low P p + 1 + i) (by omega)).1 (by rw [hie, hp])
      omega
  · rw [if_neg eq]
    cases hq : get P q with
    | none =>
      rw [get_none] at hq ⊢
      exact fun y hy => hq y (mem_del hy)
    | some y =>
      obtain ⟨h1, h2⟩ := get_some hq
      obtain ⟨j, hj, hje⟩ := List.getElem_of_mem h1
      refine (get_iff ha).2 ⟨?_, h2⟩
      rw [← hje]
      refine del_mem hj fun ej => eq ?_
      have := (pos_low h hx j hj).2 ej
      rw [hje, h2] at this
      exact this
theorem del_len {P : List Pr} {i : Nat} (hi : i < P.length) : (delP P i).length = P.length - 1 := by
  unfold delP
  simp
  omega
theorem asc_map {P : List Pr} (h : Asc P) {f : Pr → Pr} (hf : ∀ x, (f x).pid = x.pid) : Asc (P.map f) := by
  unfold Asc
  rw [List.pairwise_map]
  exact h.imp (fun {a b} hab => by rw [hf, hf]; exact hab)
theorem get_map {P : List Pr} {f : Pr → Pr} (hf : ∀ x, (f x).pid = x.pid) (q : Int) : get (P.map f) q = (get P q).map f := by
  unfold get
  rw [List.find?_map]
  congr 2
  funext x
  simp [hasP, hf]
/-- A process put anew at its place. -/
theorem set_map {P : List Pr} (h : Asc P) {p : Int} {x : Pr} (hx : get P p = some x) (y : Pr) : P.set (low P p) y = P.map fun z => if z.pid = p then y else z := by
  obtain ⟨hl, e⟩ := get_at h hx
  apply List.ext_getElem
  · simp
  · intro j h1 h2
    rw [List.getElem_set, List.getElem_map]
    rw [List.length_set] at h1
    have hiff := pos_low h hx j h1
    by_cases ej : low P p = j
    · rw [if_pos ej, if_pos (hiff.2 ej.symm)]
    · rw [if_neg ej, if_neg (fun e2 => ej (hiff.1 e2).symm)]
theorem asc_set {P : List Pr} (h : Asc P) {p : Int} {x : Pr} (hx : get P p = some x) {y : Pr} (hy : y.pid = p) : Asc (P.set (low P p) y) := by
  rw [set_map h hx]
  refine asc_map h fun z => ?_
  by_cases e : z.pid = p
  · rw [if_pos e, hy, e]
  · rw [if_neg e]
theorem get_set {P : List Pr} (h : Asc P) {p : Int} {x : Pr} (hx : get P p = some x) {y : Pr} (hy : y.pid = p) (q : Int) : get (P.set (low P p) y) q = if q = p then some y else get P q := by
  have hf : ∀ z : Pr, (if z.pid = p then y else z).pid = z.pid := fun z => by
    by_cases e : z.pid = p
    · rw [if_pos e, hy, e]
    · rw [if_neg e]
  rw [set_map h hx, get_map hf]
  by_cases e : q = p
  · rw [if_pos e, e, hx]
    simp [(get_some hx).2]
  · rw [if_neg e]
    cases hq : get P q with
    | none => rfl
    | some z => simp [(get_some hq).2, e]
end SD
end Go.Proofs.Ytmikgkelmdgckaa

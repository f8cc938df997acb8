/- Inodes by numbers as a list, how many bytes they store, the lowest number that is free; free of any memory. -/
import Derived.Test.YtieneehpijilpaaInoMem
namespace Go.Proofs.Ytieneehpijilpaa
set_option linter.unusedVariables false
set_option linter.unusedSimpArgs false
namespace IN

def ent (S : Int → Option Nd) (i : Nat) : Option (Nat × Nd) := (S ((i + 1 : Nat) : Int)).map fun d => (i + 1, d)
/-- All inodes, by rising numbers. -/
def lst (S : Int → Option Nd) (I : Nat) : List (Nat × Nd) := (List.range I).filterMap (ent S)
def lo (S : Int → Option Nd) (n : Nat) : List (Nat × Nd) := (List.range (n - 1)).filterMap (ent S)
def hi (S : Int → Option Nd) (n I : Nat) : List (Nat × Nd) := (List.range' n (I - n)).filterMap (ent S)
def ks (S : Int → Option Nd) (I : Nat) : List Nat := (lst S I).map (·.1)
def tot (S : Int → Option Nd) (I : Nat) : Nat := ((lst S I).map fun x => EM.cnt x.2.l).sum
def cntOf (x : Option Nd) : Nat := match x with | none => 0 | some d => EM.cnt d.l

theorem fm_congr {α β : Type} {f g : α → Option β} : ∀ {l : List α}, (∀ x ∈ l, f x = g x) → l.filterMap f = l.filterMap g
  | [], _ => rfl
  | a :: l, h => by
    rw [List.filterMap_cons, List.filterMap_cons, h a List.mem_cons_self, fm_congr (fun x hx => h x (List.mem_cons_of_mem _ hx))]

theorem split (S : Int → Option Nd) (n I : Nat) (h1 : 1 ≤ n) (h2 : n ≤ I) : lst S I = lo S n ++ ((S (n : Int)).map fun d => (n, d)).toList ++ hi S n I := by
  have e : List.range I = List.range (n - 1) ++ [n - 1] ++ List.range' n (I - n) := by
    rw [List.range_eq_range', List.range_eq_range']
    have e1 : List.range' 0 (n - 1) ++ [n - 1] = List.range' 0 n := by
      have : n = n - 1 + 1 := by omega
      conv => rhs; rw [this, List.range'_concat]
      simp
    rw [e1]
    have e2 : I = n + (I - n) := by omega
    conv => lhs; rw [e2]
    rw [← List.range'_append]
    simp
  unfold lst
  rw [e, List.filterMap_append, List.filterMap_append]
  have : (n - 1 + 1 : Nat) = n := by omega
  have hone : List.filterMap (ent S) [n - 1] = ((S (n : Int)).map fun d => (n, d)).toList := by
    unfold ent
    rw [List.filterMap_cons]
    rw [this]
    cases S (n : Int) <;> rfl
  rw [hone]
  rfl
theorem lo_upd (S : Int → Option Nd) (n : Nat) (x : Option Nd) : lo (upd S (n : Int) x) n = lo S n :=
  fm_congr fun i hi => by
    have := List.mem_range.1 hi
    unfold ent
    rw [upd_ne (by omega)]
theorem hi_upd (S : Int → Option Nd) (n I : Nat) (x : Option Nd) : hi (upd S (n : Int) x) n I = hi S n I :=
  fm_congr fun i hi => by
    have := List.mem_range'_1.1 hi
    unfold ent
    rw [upd_ne (by omega)]
theorem lst_upd (S : Int → Option Nd) (n I : Nat) (x : Option Nd) (h1 : 1 ≤ n) (h2 : n ≤ I) : lst (upd S (n : Int) x) I = lo S n ++ (x.map fun d => (n, d)).toList ++ hi S n I := by
  rw [split _ n I h1 h2, lo_upd, hi_upd, upd_at]
theorem tot_upd (S : Int → Option Nd) (n I : Nat) (x : Option Nd) (h1 : 1 ≤ n) (h2 : n ≤ I) : tot (upd S (n : Int) x) I + cntOf (S n) = tot S I + cntOf x := by
  unfold tot
  rw [lst_upd S n I x h1 h2, split S n I h1 h2]
  simp only [List.map_append, List.sum_append]
  cases x <;> cases hS : S (n : Int) <;> simp [cntOf] <;> omega
theorem tot_ge (S : Int → Option Nd) (n I : Nat) (h1 : 1 ≤ n) (h2 : n ≤ I) : cntOf (S n) ≤ tot S I := by
  unfold tot
  rw [split S n I h1 h2]
  simp only [List.map_append, List.sum_append]
  cases hS : S (n : Int) <;> simp [cntOf] <;> omega
theorem mem_lst {S : Int → Option Nd} {I : Nat} {x : Nat × Nd} : x ∈ lst S I ↔ 1 ≤ x.1 ∧ x.1 ≤ I ∧ S (x.1 : Int) = some x.2 := by
  unfold lst
  rw [List.mem_filterMap]
  constructor
  · rintro ⟨i, hi, e⟩
    have := List.mem_range.1 hi
    unfold ent at e
    cases hS : S ((i + 1 : Nat) : Int) with
    | none => rw [hS] at e; cases e
    | some d => rw [hS] at e; cases e; exact ⟨by simp, by simp; omega, hS⟩
  · rintro ⟨h1, h2, h3⟩
    refine ⟨x.1 - 1, List.mem_range.2 (by omega), ?_⟩
    unfold ent
    have : x.1 - 1 + 1 = x.1 := by omega
    rw [this, h3]
    rfl
theorem lst_rise (S : Int → Option Nd) (I : Nat) : (lst S I).Pairwise fun a b => a.1 < b.1 := by
  unfold lst
  rw [List.pairwise_filterMap]
  refine List.Pairwise.imp ?_ List.pairwise_lt_range
  intro i j hij a ha b hb
  unfold ent at ha hb
  cases hS : S ((i + 1 : Nat) : Int) with
  | none => rw [hS] at ha; cases ha
  | some d =>
    cases hS' : S ((j + 1 : Nat) : Int) with
    | none => rw [hS'] at hb; cases hb
    | some d' => rw [hS] at ha; rw [hS'] at hb; cases ha; cases hb; simp; exact hij
theorem ks_rise (S : Int → Option Nd) (I : Nat) : (ks S I).Pairwise (· < ·) := by
  unfold ks
  rw [List.pairwise_map]
  exact lst_rise S I
theorem ks_mem {S : Int → Option Nd} {I : Nat} (h : ∀ n, S n ≠ none → 1 ≤ n ∧ n ≤ (I : Int)) (f : Nat) : f ∈ ks S I ↔ S (f : Int) ≠ none := by
  unfold ks
  rw [List.mem_map]
  constructor
  · rintro ⟨x, hx, rfl⟩
    rw [(mem_lst.1 hx).2.2]
    simp
  · intro hf
    have := h f hf
    cases hS : S (f : Int) with
    | none => exact absurd hS hf
    | some d => exact ⟨(f, d), mem_lst.2 ⟨by omega, by omega, hS⟩, rfl⟩
theorem ks_nums {S : Int → Option Nd} {M : Int → Option Nat} {I : Nat} (h : ∀ n, S n ≠ none → 1 ≤ n ∧ n ≤ (I : Int)) (hd : ∀ n, M n = none ↔ S n = none) : IS.Nums M (ks S I) :=
  ⟨(ks_rise S I).imp fun h => by omega, fun f => by rw [ks_mem h, ne_eq, ne_eq, hd]⟩
theorem ks_len (S : Int → Option Nd) (I : Nat) : (ks S I).length = (lst S I).length := by simp [ks]
theorem lst_len (S : Int → Option Nd) (I : Nat) : (lst S I).length ≤ I := by
  have := List.length_filterMap_le (ent S) (List.range I)
  simpa [lst] using this
/-- Two rising lists of the same numbers are one. -/
theorem rise_eq : ∀ {l m : List Nat}, l.Pairwise (· < ·) → m.Pairwise (· < ·) → (∀ x, x ∈ l ↔ x ∈ m) → l = m
  | [], [], _, _, _ => rfl
  | [], b :: m, _, _, h => by have := (h b).2 (by simp); simp at this
  | a :: l, [], _, _, h => by have := (h a).1 (by simp); simp at this
  | a :: l, b :: m, h1, h2, h => by
    have p1 := List.pairwise_cons.1 h1
    have p2 := List.pairwise_cons.1 h2
    have hab : a = b := by
      have ha := (h a).1 (by simp)
      have hb := (h b).2 (by simp)
      rcases List.mem_cons.1 ha with e | ha'
      · exact e
      · rcases List.mem_cons.1 hb with e | hb'
        · exact e.symm
        · have := p1.1 b hb'; have := p2.1 a ha'; omega
    subst hab
    rw [rise_eq p1.2 p2.2 fun x => ?_]
    have hx := h x
    constructor
    · intro hxl
      rcases List.mem_cons.1 (hx.1 (List.mem_cons_of_mem _ hxl)) with e | h'
      · subst e; have := p1.1 x hxl; omega
      · exact h'
    · intro hxm
      rcases List.mem_cons.1 (hx.2 (List.mem_cons_of_mem _ hxm)) with e | h'
      · subst e; have := p2.1 x hxm; omega
      · exact h'

/-- The lowest number that is free. -/
def Low (S : Int → Option Nd) (n : Nat) : Prop := 1 ≤ n ∧ S (n : Int) = none ∧ ∀ m : Nat, 1 ≤ m → m < n → S (m : Int) ≠ none
theorem low_or (S : Int → Option Nd) : ∀ k : Nat, (∃ n, n ≤ k ∧ Low S n) ∨ ∀ m : Nat, 1 ≤ m → m ≤ k → S (m : Int) ≠ none
  | 0 => .inr fun m h1 h2 => by omega
  | k + 1 => by
    rcases low_or S k with ⟨n, h1, h2⟩ | h
    · exact .inl ⟨n, by omega, h2⟩
    · by_cases e : S ((k + 1 : Nat) : Int) = none
      · exact .inl ⟨k + 1, by omega, by omega, e, fun m h1 h2 => h m h1 (by omega)⟩
      · refine .inr fun m h1 h2 => ?_
        by_cases hm : m = k + 1
        · rw [hm]; exact e
        · exact h m h1 (by omega)
theorem fm_full {S : Int → Option Nd} : ∀ k : Nat, (∀ m : Nat, 1 ≤ m → m ≤ k → S (m : Int) ≠ none) → ((List.range k).filterMap (ent S)).length = k ∧ ∀ i x, ((List.range k).filterMap (ent S))[i]? = some x → x.1 = i + 1
  | 0, _ => ⟨rfl, fun i x h => by simp at h⟩
  | k + 1, h => by
    obtain ⟨h1, h2⟩ := fm_full k fun m a b => h m a (by omega)
    have h3 := h (k + 1) (by omega) (by omega)
    cases hS : S ((k + 1 : Nat) : Int) with
    | none => exact absurd hS h3
    | some d =>
      have e : (List.range (k + 1)).filterMap (ent S) = (List.range k).filterMap (ent S) ++ [(k + 1, d)] := by
        rw [List.range_succ, List.filterMap_append]
        congr 1
        unfold ent
        rw [List.filterMap_cons, hS]
        rfl
      rw [e]
      refine ⟨by simp [h1], fun i x hx => ?_⟩
      by_cases hi : i < k
      · rw [List.getElem?_append_left (by omega)] at hx
        exact h2 i x hx
      · rw [List.getElem?_append_right (by omega), h1] at hx
        have : i - k = 0 := by
          rcases Nat.eq_zero_or_pos (i - k) with e | e
          · exact e
          · rw [List.getElem?_eq_none (by simp; omega)] at hx; cases hx
        rw [this] at hx
        cases hx
        simp; omega
theorem low_of {S : Int → Option Nd} {I : Nat} (h : (lst S I).length < I) : ∃ n, n ≤ I ∧ Low S n := by
  rcases low_or S I with h1 | h1
  · exact h1
  · have := (fm_full I h1).1
    unfold lst at h
    omega
theorem low_lo {S : Int → Option Nd} {n : Nat} (h : Low S n) : (lo S n).length = n - 1 ∧ ∀ i x, (lo S n)[i]? = some x → x.1 = i + 1 :=
  fm_full (n - 1) fun m h1 h2 => h.2.2 m h1 (by have := h.1; omega)

/-- What an inode may be: at most L links, k opens. -/
structure Good (L k : Nat) (d : Nd) : Prop where
  kind : d.kind = 1 ∨ d.kind = 2
  links : 0 ≤ d.links ∧ d.links ≤ L
  opens : 0 ≤ d.opens ∧ d.opens ≤ k
  some : 1 ≤ d.links + d.opens
  size : 0 ≤ d.size ∧ d.size ≤ 1048576
  ok : EM.ok 0 d.l = true
  fin : ends d.l ≤ d.size
  dir : d.kind = 2 → d.size = 0 ∧ d.l = []
/-- What a store may be. -/
structure Fine (I L B k : Nat) (S : Int → Option Nd) : Prop where
  num : ∀ n, S n ≠ none → 1 ≤ n ∧ n ≤ (I : Int)
  good : ∀ n d, S n = some d → Good L k d
  tot : tot S I ≤ B
theorem Fine.empty (I L B : Nat) : Fine I L B 0 fun _ => none :=
  ⟨fun _ h => absurd rfl h, fun _ _ h => (by cases h), by
    have : lst (fun _ => none) I = [] := List.eq_nil_iff_forall_not_mem.2 fun x hx => by have := (mem_lst.1 hx).2.2; cases this
    unfold IN.tot; rw [this]; simp⟩
theorem Good.mono {L k k' : Nat} {d : Nd} (h : Good L k d) (hk : k ≤ k') : Good L k' d := ⟨h.kind, h.links, ⟨h.opens.1, by have := h.opens.2; omega⟩, h.some, h.size, h.ok, h.fin, h.dir⟩
theorem Fine.mono {I L B k k' : Nat} {S : Int → Option Nd} (h : Fine I L B k S) (hk : k ≤ k') : Fine I L B k' S := ⟨h.num, fun n d e => (h.good n d e).mono hk, h.tot⟩
/-- An inode turned. -/
theorem Fine.turn {I L B k : Nat} {S : Int → Option Nd} (h : Fine I L B k S) {n : Nat} {x : Option Nd} (h1 : 1 ≤ n) (h2 : n ≤ I) (hg : ∀ d, x = some d → Good L k d) (ht : IN.tot S I + cntOf x ≤ B + cntOf (S n)) : Fine I L B k (upd S n x) := by
  refine ⟨fun m hm => ?_, fun m d hd => ?_, ?_⟩
  · by_cases e : m = n
    · omega
    · rw [upd_ne e] at hm; exact h.num m hm
  · by_cases e : m = n
    · subst e; rw [upd_at] at hd; exact hg d hd
    · rw [upd_ne e] at hd; exact h.good m d hd
  · have := tot_upd S n I x h1 h2
    omega
end IN
end Go.Proofs.Ytieneehpijilpaa

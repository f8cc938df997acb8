/- Processes as a list by rising numbers: what each call answers, and what becomes of them; plain. -/
import Derived.Test.YtahcpimpmedbiaaHid
namespace Go.Proofs.Ytahcpimpmedbiaa
set_option linter.unusedVariables false
set_option linter.unusedSimpArgs false
namespace PC

/-- A process. -/
structure Pr where
  pid : Int
  par : Int
  st : Int
  code : Int
  nice : Int

def hasP (p : Int) (x : Pr) : Bool := decide (x.pid = p)
def pos (L : List Pr) (p : Int) : Nat := L.findIdx (hasP p)
def get (L : List Pr) (p : Int) : Option Pr := L.find? (hasP p)
def isRun : Option Pr → Bool
  | some x => decide (x.st = 1)
  | none => false
def runs (L : List Pr) (p : Int) : Bool := isRun (get L p)
def Asc (L : List Pr) : Prop := L.Pairwise fun a b => a.pid < b.pid

theorem get_some {L : List Pr} {p : Int} {x : Pr} (h : get L p = some x) : x ∈ L ∧ x.pid = p := by
  unfold get at h
  exact ⟨List.mem_of_find?_eq_some h, by simpa [hasP] using List.find?_some h⟩
theorem get_none {L : List Pr} {p : Int} : get L p = none ↔ ∀ x ∈ L, x.pid ≠ p := by
  unfold get
  rw [List.find?_eq_none]
  simp [hasP]
theorem asc_inj {L : List Pr} (h : Asc L) {x y : Pr} (hx : x ∈ L) (hy : y ∈ L) (e : x.pid = y.pid) : x = y := by
  obtain ⟨i, hi, rfl⟩ := List.getElem_of_mem hx
  obtain ⟨j, hj, rfl⟩ := List.getElem_of_mem hy
  have hp := List.pairwise_iff_getElem.1 h
  rcases Nat.lt_trichotomy i j with hlt | rfl | hgt
  · have := hp i j hi hj hlt; omega
  · rfl
  · have := hp j i hj hi hgt; omega
theorem asc_get {L : List Pr} (h : Asc L) {x : Pr} (hx : x ∈ L) : get L x.pid = some x := by
  cases e : get L x.pid with
  | none => exact absurd rfl (get_none.1 e x hx)
  | some y =>
    obtain ⟨h1, h2⟩ := get_some e
    rw [asc_inj h h1 hx h2]
theorem get_iff {L : List Pr} (h : Asc L) {p : Int} {x : Pr} : get L p = some x ↔ x ∈ L ∧ x.pid = p :=
  ⟨get_some, fun ⟨h1, h2⟩ => h2 ▸ asc_get h h1⟩
theorem get_of {L L' : List Pr} {p : Int} (h' : Asc L') (h : ∀ x, x.pid = p → (x ∈ L ↔ x ∈ L')) : get L p = get L' p := by
  cases e : get L p with
  | none =>
    symm
    rw [get_none] at e ⊢
    exact fun x hx hp => e x ((h x hp).2 hx) hp
  | some y =>
    obtain ⟨h1, h2⟩ := get_some e
    symm
    rw [get_iff h']
    exact ⟨(h y h2).1 h1, h2⟩
theorem runs_iff {L : List Pr} (h : Asc L) {p : Int} : runs L p = true ↔ ∃ x ∈ L, x.pid = p ∧ x.st = 1 := by
  unfold runs
  constructor
  · intro hr
    cases e : get L p with
    | none => rw [e] at hr; cases hr
    | some x =>
      rw [e] at hr
      obtain ⟨h1, h2⟩ := get_some e
      exact ⟨x, h1, h2, by simpa [isRun] using hr⟩
  · rintro ⟨x, h1, h2, h3⟩
    rw [(get_iff h).2 ⟨h1, h2⟩]
    simp [isRun, h3]

/-! Places. -/
theorem pos_le (L : List Pr) (p : Int) : pos L p ≤ L.length := List.findIdx_le_length
theorem pos_ne {L : List Pr} {p : Int} {j : Nat} (hj : j < L.length) (h : j < pos L p) : L[j].pid ≠ p := by
  have := List.not_of_lt_findIdx h
  simpa [hasP] using this
theorem pos_eq {L : List Pr} {p : Int} (h : pos L p < L.length) : L[pos L p].pid = p := by
  have := List.findIdx_getElem (p := hasP p) (w := h)
  exact of_decide_eq_true this
theorem get_pos {L : List Pr} {p : Int} (h : pos L p < L.length) : get L p = some L[pos L p] := by
  unfold get
  rw [List.find?_eq_some_iff_getElem]
  exact ⟨by simpa [hasP] using pos_eq h, pos L p, h, rfl, fun j hj => by simpa [hasP] using pos_ne (Nat.lt_trans hj h) hj⟩
theorem get_pos_none {L : List Pr} {p : Int} (h : ¬ pos L p < L.length) : get L p = none := by
  rw [get_none]
  intro x hx e
  obtain ⟨i, hi, rfl⟩ := List.getElem_of_mem hx
  exact pos_ne hi (by omega) e
theorem pos_lt {L : List Pr} {p : Int} {x : Pr} (h : get L p = some x) : pos L p < L.length := by
  rcases Nat.lt_or_ge (pos L p) L.length with h1 | h1
  · exact h1
  · rw [get_pos_none (by omega)] at h; cases h

/-! The lowest number that is free. -/
def lowA : List Pr → Nat → Nat
  | [], k => k
  | x :: r, k => if x.pid = (k : Int) + 1 then lowA r (k + 1) else k
def low (L : List Pr) : Nat := lowA L 0
theorem lowA_spec : ∀ (L : List Pr) (k : Nat), k ≤ lowA L k ∧ lowA L k ≤ k + L.length ∧ (∀ j (hj : j < L.length), j + k < lowA L k → L[j].pid = ((j + k : Nat) : Int) + 1) ∧ (∀ hj : lowA L k - k < L.length, L[lowA L k - k].pid ≠ (lowA L k : Int) + 1)
  | [], k => ⟨Nat.le_refl _, Nat.le_refl _, fun j hj => absurd hj (Nat.not_lt_zero _), fun hj => absurd hj (Nat.not_lt_zero _)⟩
  | x :: r, k => by
    by_cases h : x.pid = (k : Int) + 1
    · have e0 : lowA (x :: r) k = lowA r (k + 1) := if_pos h
      obtain ⟨v, hv⟩ : ∃ v, lowA (x :: r) k = v := ⟨_, rfl⟩
      simp only [hv]
      rw [hv] at e0
      subst e0
      obtain ⟨h1, h2, h3, h4⟩ := lowA_spec r (k + 1)
      refine ⟨by omega, by simp only [List.length_cons]; omega, fun j hj hlt => ?_, fun hj => ?_⟩
      · cases j with
        | zero => simpa using h
        | succ j =>
          have := h3 j (by simpa using hj) (by omega)
          rw [List.getElem_cons_succ, this]
          omega
      · have e : lowA r (k + 1) - k = (lowA r (k + 1) - (k + 1)) + 1 := by omega
        have := h4 (by rw [e] at hj; simpa using hj)
        simp only [e, List.getElem_cons_succ]
        exact this
    · have e0 : lowA (x :: r) k = k := if_neg h
      obtain ⟨v, hv⟩ : ∃ v, lowA (x :: r) k = v := ⟨_, rfl⟩
      simp only [hv]
      rw [hv] at e0
      subst e0
      refine ⟨Nat.le_refl _, by omega, fun j hj hlt => by omega, fun hj => ?_⟩
      simpa using h
theorem low_le (L : List Pr) : low L ≤ L.length := by have := (lowA_spec L 0).2.1; unfold low; omega
theorem low_at {L : List Pr} {j : Nat} (hj : j < L.length) (h : j < low L) : L[j].pid = (j : Int) + 1 := by
  have := (lowA_spec L 0).2.2.1 j hj h
  simpa using this
theorem low_stop {L : List Pr} (h : low L < L.length) : L[low L].pid ≠ (low L : Int) + 1 := by
  have := (lowA_spec L 0).2.2.2
  simp only [Nat.sub_zero] at this
  exact this h
theorem low_free {L : List Pr} (ha : Asc L) (h1 : ∀ x ∈ L, 1 ≤ x.pid) : ∀ x ∈ L, x.pid ≠ (low L : Int) + 1 := by
  intro x hx e
  obtain ⟨i, hi, rfl⟩ := List.getElem_of_mem hx
  have hp := List.pairwise_iff_getElem.1 ha
  have hle := low_le L
  rcases Nat.lt_trichotomy i (low L) with h | h | h
  · have := low_at hi h; omega
  · subst h; exact low_stop hi e
  · have hl : low L < L.length := by omega
    have h2 := hp (low L) i hl hi h
    have h3 := low_stop hl
    have h4 : (low L : Int) ≤ L[low L].pid - 1 := by
      rcases Nat.eq_zero_or_pos (low L) with h0 | h0
      · have := h1 _ (List.getElem_mem hl); omega
      · have h5 := low_at (L := L) (j := low L - 1) (by omega) (by omega)
        have h6 := hp (low L - 1) (low L) (by omega) hl (by omega)
        omega
    omega
theorem low_used {L : List Pr} {k : Nat} (h1 : 1 ≤ k) (h2 : k ≤ low L) : ∃ x ∈ L, x.pid = (k : Int) := by
  have hle := low_le L
  have hl : k - 1 < L.length := by omega
  exact ⟨L[k - 1], List.getElem_mem hl, by rw [low_at hl (by omega)]; omega⟩

/-! What becomes of them. -/
def newP (L : List Pr) (par nice : Int) : Pr := ⟨(low L : Int) + 1, par, 1, 0, nice⟩
def spawnL (L : List Pr) (par nice : Int) : List Pr := L.take (low L) ++ newP L par nice :: L.drop (low L)
theorem mem_spawn {L : List Pr} {par nice : Int} {x : Pr} : x ∈ spawnL L par nice ↔ x = newP L par nice ∨ x ∈ L := by
  unfold spawnL
  rw [List.mem_append, List.mem_cons]
  have e : x ∈ L ↔ x ∈ L.take (low L) ∨ x ∈ L.drop (low L) := by rw [← List.mem_append, List.take_append_drop]
  rw [e]
  constructor
  · rintro (h | h | h)
    · exact .inr (.inl h)
    · exact .inl h
    · exact .inr (.inr h)
  · rintro (h | h | h)
    · exact .inr (.inl h)
    · exact .inl h
    · exact .inr (.inr h)
theorem asc_spawn {L : List Pr} (ha : Asc L) (h1 : ∀ x ∈ L, 1 ≤ x.pid) (par nice : Int) : Asc (spawnL L par nice) := by
  have hp := List.pairwise_iff_getElem.1 ha
  have hle := low_le L
  unfold spawnL Asc
  rw [List.pairwise_append]
  have hA : Asc (L.take (low L) ++ L.drop (low L)) := by rw [List.take_append_drop]; exact ha
  unfold Asc at hA
  rw [List.pairwise_append] at hA
  obtain ⟨a1, a2, a3⟩ := hA
  have hlo : ∀ x ∈ L.take (low L), x.pid < (low L : Int) + 1 := by
    intro x hx
    obtain ⟨i, hi, rfl⟩ := List.getElem_of_mem hx
    rw [List.length_take] at hi
    rw [List.getElem_take, low_at (by omega) (by omega)]
    omega
  have hhi : ∀ x ∈ L.drop (low L), (low L : Int) + 1 < x.pid := by
    intro x hx
    have hf := low_free ha h1 x (List.mem_of_mem_drop hx)
    obtain ⟨i, hi, rfl⟩ := List.getElem_of_mem hx
    rw [List.length_drop] at hi
    rw [List.getElem_drop] at hf ⊢
    rcases Nat.eq_zero_or_pos (low L) with h0 | h0
    · have := h1 _ (List.getElem_mem (show low L + i < L.length by omega)); omega
    · have h5 := low_at (L := L) (j := low L - 1) (by omega) (by omega)
      have h6 := hp (low L - 1) (low L + i) (by omega) (by omega) (by omega)
      omega
  refine ⟨a1, List.pairwise_cons.2 ⟨fun y hy => hhi y hy, a2⟩, fun x hx y hy => ?_⟩
  rcases List.mem_cons.1 hy with rfl | hy
  · exact hlo x hx
  · exact a3 x hx y hy
theorem len_spawn (L : List Pr) (par nice : Int) : (spawnL L par nice).length = L.length + 1 := by
  have := low_le L
  unfold spawnL
  rw [List.length_append, List.length_cons, List.length_take, List.length_drop]
  omega

def setPar (p : Int) (x : Pr) : Pr := if x.par = p then { x with par := 1 } else x
def setEnd (p c : Int) (x : Pr) : Pr := if x.pid = p then { x with st := 2, code := c } else x
def exP (p c : Int) (x : Pr) : Pr := setPar p (setEnd p c x)
def exitL (L : List Pr) (p c : Int) : List Pr := L.map (exP p c)
theorem setPar_pid (p : Int) (x : Pr) : (setPar p x).pid = x.pid := by unfold setPar; split <;> rfl
theorem setEnd_pid (p c : Int) (x : Pr) : (setEnd p c x).pid = x.pid := by unfold setEnd; split <;> rfl
theorem exP_pid (p c : Int) (x : Pr) : (exP p c x).pid = x.pid := by unfold exP; rw [setPar_pid, setEnd_pid]
theorem exP_comm (p c : Int) (x : Pr) : setEnd p c (setPar p x) = exP p c x := by
  unfold exP setEnd setPar
  by_cases h1 : x.pid = p <;> by_cases h2 : x.par = p <;> simp [h1, h2]
theorem asc_map {L : List Pr} (h : Asc L) {f : Pr → Pr} (hf : ∀ x, (f x).pid = x.pid) : Asc (L.map f) := by
  unfold Asc at h ⊢
  rw [List.pairwise_map]
  refine h.imp ?_
  intro a b hab
  rw [hf, hf]; exact hab
theorem get_map {f : Pr → Pr} (hf : ∀ x, (f x).pid = x.pid) (p : Int) : ∀ L : List Pr, get (L.map f) p = (get L p).map f
  | [] => rfl
  | x :: r => by
    have ih := get_map hf p r
    unfold get at ih ⊢
    rw [List.map_cons, List.find?_cons, List.find?_cons]
    have e : hasP p (f x) = hasP p x := by unfold hasP; rw [hf]
    rw [e]
    cases hasP p x
    · exact ih
    · rfl

def kid (par child : Int) (x : Pr) : Bool := decide (x.par = par) && (decide (child = 0) || decide (x.pid = child))
def kids (L : List Pr) (par child : Int) : List Pr := L.filter (kid par child)
def isEnd (x : Pr) : Bool := decide (x.st = 2)
def ended (L : List Pr) (par child : Int) : Option Pr := (kids L par child).find? isEnd
def dropL (L : List Pr) (p : Int) : List Pr := L.filter fun x => !hasP p x
theorem mem_drop {L : List Pr} {p : Int} {x : Pr} : x ∈ dropL L p ↔ x ∈ L ∧ x.pid ≠ p := by
  unfold dropL
  rw [List.mem_filter]
  simp [hasP]
theorem asc_drop {L : List Pr} (h : Asc L) (p : Int) : Asc (dropL L p) := h.filter _
theorem drop_at {L : List Pr} (h : Asc L) {i : Nat} (hi : i < L.length) : L.take i ++ L.drop (i + 1) = dropL L L[i].pid := by
  have hp := List.pairwise_iff_getElem.1 h
  unfold dropL
  obtain ⟨q, hq⟩ : ∃ q, L[i].pid = q := ⟨_, rfl⟩
  have e : (!hasP q L[i]) = false := by simp [hasP, hq]
  have e2 : L = L.take i ++ L[i] :: L.drop (i + 1) := by rw [← List.drop_eq_getElem_cons hi, List.take_append_drop]
  rw [hq]
  have e3 : L.filter (fun x => !hasP q x) = (L.take i).filter (fun x => !hasP q x) ++ (L.drop (i + 1)).filter (fun x => !hasP q x) := by
    conv => lhs; rw [e2]
    rw [List.filter_append, List.filter_cons, e]
    simp
  rw [e3]
  subst hq
  congr 1
  · symm
    rw [List.filter_eq_self]
    intro x hx
    obtain ⟨j, hj, rfl⟩ := List.getElem_of_mem hx
    rw [List.length_take] at hj
    rw [List.getElem_take]
    have := hp j i (by omega) hi (by omega)
    simp [hasP]; omega
  · symm
    rw [List.filter_eq_self]
    intro x hx
    obtain ⟨j, hj, rfl⟩ := List.getElem_of_mem hx
    rw [List.length_drop] at hj
    rw [List.getElem_drop]
    have := hp i (i + 1 + j) hi (by omega) (by omega)
    simp [hasP]; omega
def setNice (p n : Int) (x : Pr) : Pr := if x.pid = p then { x with nice := n } else x
theorem setNice_pid (p n : Int) (x : Pr) : (setNice p n x).pid = x.pid := by unfold setNice; split <;> rfl
def niceL (L : List Pr) (p n : Int) : List Pr := L.map (setNice p n)

/-! The calls. -/
def isNice (n : Int) : Bool := decide (-20 ≤ n) && decide (n ≤ 19)
def zeroP : Pr := ⟨0, 0, 0, 0, 0⟩
def spawnR (N : Nat) (L : List Pr) (par nice : Int) : (Int × Int) × List Pr :=
  if runs L par = false then ((0, 19), L) else if isNice nice = false then ((0, 2), L) else if L.length = N then ((0, 25), L) else (((low L : Int) + 1, 0), spawnL L par nice)
def exitR (L : List Pr) (p c : Int) : Int × List Pr :=
  if runs L p = false then (19, L) else if p = 1 then (27, L) else (0, exitL L p c)
def waitR (L : List Pr) (par child : Int) : (Pr × Int) × List Pr :=
  if runs L par = false then ((zeroP, 19), L) else if child < 0 then ((zeroP, 2), L) else if kids L par child = [] then ((zeroP, 20), L) else
  match ended L par child with
  | none => ((zeroP, 25), L)
  | some x => ((x, 0), dropL L x.pid)
def undoR (L : List Pr) (p : Int) : Int × List Pr :=
  if runs L p = false then (19, L) else if p = 1 ∨ kids L p 0 ≠ [] then (27, L) else (0, dropL L p)
def niceR (L : List Pr) (p n : Int) : Int × List Pr :=
  if runs L p = false then (19, L) else if isNice n = false then (2, L) else (0, niceL L p n)
def getR (L : List Pr) (p : Int) : Pr × Bool :=
  match get L p with
  | some x => (x, true)
  | none => (zeroP, false)

/-- What a table's processes may be. -/
structure Good (N : Nat) (L : List Pr) : Prop where
  asc : Asc L
  pid : ∀ x ∈ L, 1 ≤ x.pid ∧ x.pid ≤ N
  one : ∃ x ∈ L, x.pid = 1 ∧ x.st = 1 ∧ x.par = 0
  len : L.length ≤ N
  top : N ≤ 1024
  st : ∀ x ∈ L, x.st = 1 ∧ x.code = 0 ∨ x.st = 2
  par : ∀ x ∈ L, x.pid ≠ 1 → x.par ≠ x.pid ∧ runs L x.par = true
theorem len_bound {N : Nat} {L : List Pr} (ha : Asc L) (hp : ∀ x ∈ L, 1 ≤ x.pid ∧ x.pid ≤ N) : L.length ≤ N := by
  have hpw := List.pairwise_iff_getElem.1 ha
  have key : ∀ i (hi : i < L.length), (i : Int) + 1 ≤ L[i].pid := by
    intro i
    induction i with
    | zero => intro hi; have := (hp _ (List.getElem_mem hi)).1; omega
    | succ i ih =>
      intro hi
      have h1 := ih (by omega)
      have h2 := hpw i (i + 1) (by omega) hi (by omega)
      omega
  rcases Nat.eq_zero_or_pos L.length with h0 | h0
  · omega
  · have h1 := key (L.length - 1) (by omega)
    have h2 := (hp _ (List.getElem_mem (show L.length - 1 < L.length by omega))).2
    omega
theorem Good.ge {N : Nat} {L : List Pr} (h : Good N L) : ∀ x ∈ L, 1 ≤ x.pid := fun x hx => (h.pid x hx).1
theorem good_new (N : Nat) (h1 : 1 ≤ N) (h2 : N ≤ 1024) : Good N [⟨1, 0, 1, 0, 0⟩] := by
  refine ⟨List.pairwise_singleton _ _, ?_, ⟨_, List.mem_singleton.2 rfl, rfl, rfl, rfl⟩, by simpa using h1, h2, ?_, ?_⟩
  · intro x hx; rw [List.mem_singleton.1 hx]; exact ⟨by simp, by simp; omega⟩
  · intro x hx; rw [List.mem_singleton.1 hx]; exact .inl ⟨rfl, rfl⟩
  · intro x hx hne; rw [List.mem_singleton.1 hx] at hne; exact absurd rfl hne
theorem good_spawn {N : Nat} {L : List Pr} (h : Good N L) {par nice : Int} (hr : runs L par = true) (hl : L.length ≠ N) : Good N (spawnL L par nice) := by
  have hle := low_le L
  have hlen := h.len
  have hasc := asc_spawn h.asc h.ge par nice
  have hrun : ∀ p, runs L p = true → runs (spawnL L par nice) p = true := by
    intro p hp
    rw [runs_iff h.asc] at hp
    obtain ⟨x, hx, h1, h2⟩ := hp
    rw [runs_iff hasc]
    exact ⟨x, mem_spawn.2 (.inr hx), h1, h2⟩
  obtain ⟨x1, m1, p1, s1, q1⟩ := h.one
  refine ⟨hasc, ?_, ⟨x1, mem_spawn.2 (.inr m1), p1, s1, q1⟩, ?_, h.top, ?_, ?_⟩
  · intro x hx
    rcases mem_spawn.1 hx with rfl | hx
    · exact ⟨by simp [newP]; omega, by simp [newP]; omega⟩
    · exact h.pid x hx
  · rw [len_spawn]; omega
  · intro x hx
    rcases mem_spawn.1 hx with rfl | hx
    · exact .inl ⟨rfl, rfl⟩
    · exact h.st x hx
  · intro x hx hne
    rcases mem_spawn.1 hx with rfl | hx
    · refine ⟨fun e => ?_, hrun par hr⟩
      rw [runs_iff h.asc] at hr
      obtain ⟨y, hy, h1, -⟩ := hr
      exact low_free h.asc h.ge y hy (by rw [h1]; exact e)
    · exact ⟨(h.par x hx hne).1, hrun _ (h.par x hx hne).2⟩
theorem good_exit {N : Nat} {L : List Pr} (h : Good N L) {p c : Int} (hr : runs L p = true) (hp : p ≠ 1) : Good N (exitL L p c) := by
  have hasc : Asc (exitL L p c) := asc_map h.asc (exP_pid p c)
  obtain ⟨x1, m1, p1, s1, q1⟩ := h.one
  have e1 : ∀ x, x.pid ≠ p → (exP p c x).st = x.st ∧ (exP p c x).code = x.code := by
    intro x hx
    unfold exP setPar setEnd
    rw [if_neg hx]
    split <;> exact ⟨rfl, rfl⟩
  have epar : ∀ x, (exP p c x).par = if x.par = p then 1 else x.par := by
    intro x
    unfold exP setPar setEnd
    by_cases h1 : x.pid = p <;> by_cases h2 : x.par = p <;> simp [h1, h2]
  have hrun : ∀ q, q ≠ p → runs L q = true → runs (exitL L p c) q = true := by
    intro q hq hr
    rw [runs_iff h.asc] at hr
    obtain ⟨x, hx, h1, h2⟩ := hr
    rw [runs_iff hasc]
    exact ⟨exP p c x, List.mem_map.2 ⟨x, hx, rfl⟩, by rw [exP_pid, h1], by rw [(e1 x (by rw [h1]; exact hq)).1, h2]⟩
  have hr1 : runs L 1 = true := (runs_iff h.asc).2 ⟨x1, m1, p1, s1⟩
  refine ⟨hasc, ?_, ?_, by rw [exitL, List.length_map]; exact h.len, h.top, ?_, ?_⟩
  · intro x hx
    obtain ⟨y, hy, rfl⟩ := List.mem_map.1 hx
    rw [exP_pid]; exact h.pid y hy
  · by_cases h0 : (0 : Int) = p
    · exfalso
      obtain ⟨y, hy, h2, -⟩ := (runs_iff h.asc).1 hr
      have := h.ge y hy
      omega
    · exact ⟨exP p c x1, List.mem_map.2 ⟨x1, m1, rfl⟩, by rw [exP_pid, p1], by rw [(e1 x1 (by rw [p1]; exact fun e => hp e.symm)).1, s1], by rw [epar, q1, if_neg h0]⟩
  · intro x hx
    obtain ⟨y, hy, rfl⟩ := List.mem_map.1 hx
    by_cases hy1 : y.pid = p
    · right
      unfold exP setPar setEnd
      rw [if_pos hy1]
      split <;> rfl
    · rw [(e1 y hy1).1, (e1 y hy1).2]; exact h.st y hy
  · intro x hx hne
    obtain ⟨y, hy, rfl⟩ := List.mem_map.1 hx
    rw [exP_pid] at hne ⊢
    rw [epar]
    by_cases h2 : y.par = p
    · rw [if_pos h2]
      exact ⟨fun e => hne e.symm, hrun 1 (fun e => hp e.symm) hr1⟩
    · rw [if_neg h2]
      exact ⟨(h.par y hy hne).1, hrun _ h2 (h.par y hy hne).2⟩
theorem good_drop {N : Nat} {L : List Pr} (h : Good N L) {p : Int} (hp : p ≠ 1) (hk : ∀ x ∈ L, x.par ≠ p ∨ runs L p = false) : Good N (dropL L p) := by
  have hasc := asc_drop h.asc p
  obtain ⟨x1, m1, p1, s1, q1⟩ := h.one
  refine ⟨hasc, fun x hx => h.pid x (mem_drop.1 hx).1, ⟨x1, mem_drop.2 ⟨m1, by rw [p1]; exact fun e => hp e.symm⟩, p1, s1, q1⟩, Nat.le_trans (List.length_filter_le _ _) h.len, h.top, fun x hx => h.st x (mem_drop.1 hx).1, ?_⟩
  intro x hx hne
  obtain ⟨hx, -⟩ := mem_drop.1 hx
  obtain ⟨h1, h2⟩ := h.par x hx hne
  refine ⟨h1, ?_⟩
  have hpp : x.par ≠ p := by
    rcases hk x hx with h3 | h3
    · exact h3
    · intro e; rw [e, h3] at h2; cases h2
  rw [runs_iff h.asc] at h2
  obtain ⟨y, hy, h3, h4⟩ := h2
  rw [runs_iff hasc]
  exact ⟨y, mem_drop.2 ⟨hy, by rw [h3]; exact hpp⟩, h3, h4⟩
theorem good_nice {N : Nat} {L : List Pr} (h : Good N L) (p n : Int) : Good N (niceL L p n) := by
  have hasc : Asc (niceL L p n) := asc_map h.asc (setNice_pid p n)
  have e1 : ∀ x, (setNice p n x).st = x.st ∧ (setNice p n x).code = x.code ∧ (setNice p n x).par = x.par := by
    intro x
    unfold setNice
    split <;> exact ⟨rfl, rfl, rfl⟩
  have hrun : ∀ q, runs L q = true → runs (niceL L p n) q = true := by
    intro q hr
    rw [runs_iff h.asc] at hr
    obtain ⟨x, hx, h1, h2⟩ := hr
    rw [runs_iff hasc]
    exact ⟨setNice p n x, List.mem_map.2 ⟨x, hx, rfl⟩, by rw [setNice_pid, h1], by rw [(e1 x).1, h2]⟩
  obtain ⟨x1, m1, p1, s1, q1⟩ := h.one
  refine ⟨hasc, ?_, ⟨setNice p n x1, List.mem_map.2 ⟨x1, m1, rfl⟩, by rw [setNice_pid, p1], by rw [(e1 x1).1, s1], by rw [(e1 x1).2.2, q1]⟩, by rw [niceL, List.length_map]; exact h.len, h.top, ?_, ?_⟩
  · intro x hx
    obtain ⟨y, hy, rfl⟩ := List.mem_map.1 hx
    rw [setNice_pid]; exact h.pid y hy
  · intro x hx
    obtain ⟨y, hy, rfl⟩ := List.mem_map.1 hx
    rw [(e1 y).1, (e1 y).2.1]; exact h.st y hy
  · intro x hx hne
    obtain ⟨y, hy, rfl⟩ := List.mem_map.1 hx
    rw [setNice_pid] at hne ⊢
    rw [(e1 y).2.2]
    exact ⟨(h.par y hy hne).1, hrun _ (h.par y hy hne).2⟩
end PC
end Go.Proofs.Ytahcpimpmedbiaa

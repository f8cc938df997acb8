/- Stage 18, plain: instructions, threads, machines, what a step makes of them; free of any program. -/
import Derived.Test.YtjafjjfcmcpaoaaHid
import Derived.WalkKit
import Derived.ProofKit
namespace Go.Proofs.Ytjafjjfcmcpaoaa
open Go.ChangeShapes Go.WideShapes Go.ChangeAt Go.RowKit
set_option linter.unusedVariables false
set_option linter.unusedSimpArgs false
namespace MC

structure In where
  op : Int
  cell : Int
  a : Int
  b : Int
  t : Int
structure Th where
  p : List In
  r : List Int
  pc : Int
structure Ma where
  c : List Int
  t : List Th
def I64 (x : Int) : Prop := -9223372036854775808 ≤ x ∧ x ≤ 9223372036854775807
structure InFit (x : In) : Prop where
  op : I64 x.op
  cell : I64 x.cell
  a : I64 x.a
  b : I64 x.b
  t : I64 x.t
def isR (n : Int) : Bool := decide (0 ≤ n ∧ n < 8)
def hasC (n : Nat) (i : Int) : Bool := decide (0 ≤ i ∧ i < (n : Int))
/-- Is all there that an instruction names? -/
def snd (x : In) (n : Nat) : Bool :=
  if x.op = 1 then isR x.t
  else if x.op = 2 then hasC n x.cell && isR x.t
  else if x.op = 3 then hasC n x.cell && isR x.a
  else if x.op = 4 then hasC n x.cell && isR x.a && isR x.b && isR x.t
  else if x.op = 5 then hasC n x.cell && isR x.a && isR x.t
  else if x.op = 6 then isR x.a else false
def gt (l : List Int) (i : Int) : Int := l.getD i.toNat 0
def wr (x : Int) : Int := IntKind.i64.wrap x
def run1 (x : In) (c r : List Int) (pc : Int) : List Int × List Int × Int :=
  if snd x c.length = false then (c, r, -1)
  else if x.op = 1 then (c, r.set x.t.toNat x.a, pc + 1)
  else if x.op = 2 then (c, r.set x.t.toNat (gt c x.cell), pc + 1)
  else if x.op = 3 then (c.set x.cell.toNat (gt r x.a), r, pc + 1)
  else if x.op = 4 then (if gt c x.cell = gt r x.a then (c.set x.cell.toNat (gt r x.b), r.set x.t.toNat 1, pc + 1) else (c, r.set x.t.toNat 0, pc + 1))
  else if x.op = 5 then (c.set x.cell.toNat (wr (gt c x.cell + gt r x.a)), r.set x.t.toNat (gt c x.cell), pc + 1)
  else (c, r, if gt r x.a = x.b then x.t else pc + 1)
theorem run1_len (x : In) (c r : List Int) (pc : Int) : (run1 x c r pc).1.length = c.length ∧ (run1 x c r pc).2.1.length = r.length := by
  unfold run1
  repeat' split
  all_goals simp
theorem wr_i64 (x : Int) : I64 (wr x) := by
  unfold wr I64
  simp only [IntKind.wrap, IntKind.signed, IntKind.bits]
  have h1 := Int.emod_nonneg x (show ((2 : Int) ^ 64) ≠ 0 by decide)
  have h2 := Int.emod_lt_of_pos x (show (0 : Int) < (2 : Int) ^ 64 by decide)
  have key : ∀ b : Bool, (b = true → x % 2 ^ 64 ≥ 2 ^ 63) → (b = false → x % 2 ^ 64 < 2 ^ 63) → -9223372036854775808 ≤ (if b = true then x % 2 ^ 64 - 2 ^ 64 else x % 2 ^ 64) ∧ (if b = true then x % 2 ^ 64 - 2 ^ 64 else x % 2 ^ 64) ≤ 9223372036854775807 := by
    intro b hb hb'
    cases b with
    | true => have := hb rfl; simp only [if_true]; omega
    | false => have := hb' rfl; simp only [Bool.false_eq_true, if_false]; omega
  refine key _ (fun h => ?_) (fun h => ?_)
  · have h : decide (x % 2 ^ 64 ≥ 2 ^ (64 - 1)) = true := by simpa using h
    exact of_decide_eq_true h
  · have h : decide (x % 2 ^ 64 ≥ 2 ^ (64 - 1)) = false := by simpa using h
    have h := of_decide_eq_false h
    have h : ¬ (x % 2 ^ 64 ≥ 2 ^ 63) := h
    omega
theorem gt_i64 {l : List Int} (h : ∀ v ∈ l, I64 v) (i : Int) : I64 (gt l i) := by
  unfold gt
  rw [List.getD_eq_getElem?_getD]
  rcases e : l[i.toNat]? with _ | v
  · exact ⟨by decide, by decide⟩
  · exact h v (List.mem_of_getElem? e)
theorem set_i64 {l : List Int} (h : ∀ v ∈ l, I64 v) {u : Int} (hu : I64 u) (i : Nat) : ∀ v ∈ l.set i u, I64 v := by
  intro v hv
  rcases List.mem_or_eq_of_mem_set hv with hv | rfl
  · exact h v hv
  · exact hu
theorem run1_fit {x : In} {c r : List Int} {pc : Int} (hx : InFit x) (hc : ∀ v ∈ c, I64 v) (hr : ∀ v ∈ r, I64 v) (hp : I64 (pc + 1)) :
    (∀ v ∈ (run1 x c r pc).1, I64 v) ∧ (∀ v ∈ (run1 x c r pc).2.1, I64 v) ∧ I64 (run1 x c r pc).2.2 := by
  have h1 : I64 1 := ⟨by decide, by decide⟩
  have h0 : I64 0 := ⟨by decide, by decide⟩
  have hm : I64 (-1) := ⟨by decide, by decide⟩
  unfold run1
  repeat' split
  all_goals
    first
    | exact ⟨hc, hr, hm⟩
    | exact ⟨hc, set_i64 hr hx.a _, hp⟩
    | exact ⟨hc, set_i64 hr (gt_i64 hc _) _, hp⟩
    | exact ⟨set_i64 hc (gt_i64 hr _) _, hr, hp⟩
    | exact ⟨set_i64 hc (gt_i64 hr _) _, set_i64 hr h1 _, hp⟩
    | exact ⟨hc, set_i64 hr h0 _, hp⟩
    | exact ⟨set_i64 hc (wr_i64 _) _, set_i64 hr (gt_i64 hc _) _, hp⟩
    | exact ⟨hc, hr, hx.t⟩
    | exact ⟨hc, hr, hp⟩

def on (t : Th) : Bool := decide (0 ≤ t.pc ∧ t.pc < (t.p.length : Int))
def live (L : List Th) : List Nat := (List.range L.length).filter (fun i => (L[i]?.map on).getD false)
def turn (q : Int) (n : Nat) : Nat := ((if q < 0 then -1 - q else q) % (n : Int)).toNat
def pick (S : Ma) (q : Int) : Option Nat := (live S.t)[turn q (live S.t).length]?
def does (c : List Int) (t : Th) : List Int × Th :=
  match t.p[t.pc.toNat]? with
  | none => (c, t)
  | some x => ((run1 x c t.r t.pc).1, ⟨t.p, (run1 x c t.r t.pc).2.1, (run1 x c t.r t.pc).2.2⟩)
def step (S : Ma) (i : Nat) : Ma :=
  match S.t[i]? with
  | none => S
  | some t => ⟨(does S.c t).1, S.t.set i (does S.c t).2⟩
/-- Steps, until there is no one left to make one. -/
def go (S : Ma) : List Int → Ma × Nat
  | [] => (S, 0)
  | q :: l => match pick S q with
    | none => (S, 0)
    | some i => ((go (step S i) l).1, (go (step S i) l).2 + 1)
/-- One step, and what it answers. -/
def one (S : Ma) (q : Int) : Ma × Int :=
  match pick S q with
  | none => (S, -1)
  | some i => (step S i, (i : Int))

structure ThFit (t : Th) : Prop where
  p : ∀ x ∈ t.p, InFit x
  n : t.p.length ≤ 3518437208880
  r8 : t.r.length = 8
  r : ∀ v ∈ t.r, I64 v
  pc : I64 t.pc
structure Fit (N : Nat) (S : Ma) : Prop where
  cn : S.c.length = N
  c : ∀ v ∈ S.c, I64 v
  t : ∀ t ∈ S.t, ThFit t
  n : S.t.length ≤ 64
theorem live_mem {L : List Th} {i : Nat} : i ∈ live L ↔ ∃ t, L[i]? = some t ∧ on t = true := by
  unfold live
  rw [List.mem_filter, List.mem_range]
  constructor
  · rintro ⟨h, h2⟩
    rw [List.getElem?_eq_getElem h] at h2
    exact ⟨L[i], List.getElem?_eq_getElem h, by simpa using h2⟩
  · rintro ⟨t, h, h2⟩
    refine ⟨(List.getElem?_eq_some_iff.1 h).1, by rw [h]; simpa using h2⟩
theorem live_len (L : List Th) : (live L).length ≤ L.length := by
  unfold live
  have := List.length_filter_le (fun i => (L[i]?.map on).getD false) (List.range L.length)
  rw [List.length_range] at this
  exact this
theorem filter_ne : ∀ {m : List Nat} {i j : Nat}, m.Nodup → m[j]? = some i → m.filter (fun k => decide (k ≠ i)) = m.take j ++ m.drop (j + 1)
  | [], i, j, _, h => by simp at h
  | x :: m, i, 0, hn, h => by
    simp only [List.getElem?_cons_zero, Option.some.injEq] at h
    subst h
    have hx := (List.nodup_cons.1 hn).1
    rw [List.filter_cons_of_neg (by simp)]
    simp only [List.take_zero, List.nil_append, Nat.zero_add, List.drop_succ_cons, List.drop_zero]
    rw [List.filter_eq_self]
    intro k hk
    simp only [ne_eq, decide_not, Bool.not_eq_true', decide_eq_false_iff_not]
    rintro rfl
    exact hx hk
  | x :: m, i, j + 1, hn, h => by
    have hn' := List.nodup_cons.1 hn
    simp only [List.getElem?_cons_succ] at h
    have hxi : x ≠ i := by rintro rfl; exact hn'.1 (List.mem_of_getElem? h)
    rw [List.filter_cons_of_pos (by simpa using hxi), filter_ne hn'.2 h]
    rfl
theorem live_nodup (L : List Th) : (live L).Nodup := List.Nodup.sublist List.filter_sublist List.nodup_range
theorem live_set_on {L : List Th} {i : Nat} {t u : Th} (h : L[i]? = some t) (ht : on t = true) (hu : on u = true) : live (L.set i u) = live L := by
  unfold live
  rw [List.length_set]
  refine List.filter_congr fun k hk => ?_
  by_cases e : i = k
  · subst e
    have hl := (List.getElem?_eq_some_iff.1 h).1
    rw [List.getElem?_set_self hl, h]
    simp [ht, hu]
  · rw [List.getElem?_set_ne e]
theorem live_set_off {L : List Th} {i j : Nat} {t u : Th} (h : L[i]? = some t) (hj : (live L)[j]? = some i) (hu : on u = false) : live (L.set i u) = (live L).take j ++ (live L).drop (j + 1) := by
  rw [← filter_ne (live_nodup L) hj]
  unfold live
  rw [List.length_set, List.filter_filter]
  refine List.filter_congr fun k hk => ?_
  by_cases e : i = k
  · subst e
    have hl := (List.getElem?_eq_some_iff.1 h).1
    rw [List.getElem?_set_self hl]
    simp [hu]
  · rw [List.getElem?_set_ne e]
    have : k ≠ i := fun e2 => e e2.symm
    simp [this]
theorem turn_lt {q : Int} {n : Nat} (hn : 0 < n) : turn q n < n := by
  unfold turn
  have h1 := Int.emod_nonneg (if q < 0 then -1 - q else q) (show (n : Int) ≠ 0 by omega)
  have h2 := Int.emod_lt_of_pos (if q < 0 then -1 - q else q) (show (0 : Int) < n by omega)
  omega
theorem pick_some {S : Ma} {q : Int} (h : 0 < (live S.t).length) : ∃ i, pick S q = some i ∧ (live S.t)[turn q (live S.t).length]? = some i := by
  unfold pick
  exact ⟨_, List.getElem?_eq_getElem (turn_lt h), List.getElem?_eq_getElem (turn_lt h)⟩
theorem pick_none {S : Ma} {q : Int} (h : (live S.t).length = 0) : pick S q = none := by
  unfold pick
  rw [List.eq_nil_of_length_eq_zero h]
  simp
theorem pick_mem {S : Ma} {q : Int} {i : Nat} (h : pick S q = some i) : ∃ t, S.t[i]? = some t ∧ on t = true := live_mem.1 (List.mem_of_getElem? h)
theorem on_at {t : Th} (h : on t = true) : 0 ≤ t.pc ∧ t.pc.toNat < t.p.length ∧ ∃ x, t.p[t.pc.toNat]? = some x := by
  unfold on at h
  have h := of_decide_eq_true h
  have : t.pc.toNat < t.p.length := by omega
  exact ⟨h.1, this, _, List.getElem?_eq_getElem this⟩
theorem does_p (c : List Int) (t : Th) : (does c t).2.p = t.p := by unfold does; split <;> rfl
theorem does_fit {c : List Int} {t : Th} (hc : ∀ v ∈ c, I64 v) (ht : ThFit t) (ho : on t = true) : (∀ v ∈ (does c t).1, I64 v) ∧ ThFit (does c t).2 ∧ (does c t).1.length = c.length := by
  obtain ⟨h0, hl, x, hx⟩ := on_at ho
  unfold does
  rw [hx]
  have hn := ht.n
  have hf := run1_fit (x := x) (pc := t.pc) (ht.p x (List.mem_of_getElem? hx)) hc ht.r ⟨by omega, by omega⟩
  have hl := run1_len x c t.r t.pc
  exact ⟨hf.1, ⟨ht.p, ht.n, hl.2.trans ht.r8, hf.2.1, hf.2.2⟩, hl.1⟩
theorem Fit.step {N : Nat} {S : Ma} (h : Fit N S) {q : Int} {i : Nat} (hi : pick S q = some i) : Fit N (step S i) := by
  obtain ⟨t, ht, ho⟩ := pick_mem hi
  unfold MC.step
  rw [ht]
  have hd := does_fit h.c (h.t t (List.mem_of_getElem? ht)) ho
  refine ⟨hd.2.2.trans h.cn, hd.1, fun u hu => ?_, by rw [List.length_set]; exact h.n⟩
  rcases List.mem_or_eq_of_mem_set hu with hu | rfl
  · exact h.t u hu
  · exact hd.2.1
theorem step_len {S : Ma} {i : Nat} : (step S i).t.length = S.t.length := by
  unfold step
  split
  · rfl
  · simp
theorem one_fit {N : Nat} {S : Ma} (h : Fit N S) (q : Int) : Fit N (one S q).1 := by
  unfold one
  rcases e : pick S q with _ | i
  · exact h
  · exact h.step e
/-- What New makes. -/
def new (n : Nat) (P : List (List In)) : Ma := ⟨List.replicate n 0, P.map fun p => ⟨p, List.replicate 8 0, 0⟩⟩
theorem new_fit {n : Nat} {P : List (List In)} (hP : ∀ p ∈ P, (∀ x ∈ p, InFit x) ∧ p.length ≤ 3518437208880) (hl : P.length ≤ 64) : Fit n (new n P) := by
  have h0 : I64 0 := ⟨by decide, by decide⟩
  refine ⟨by simp [new], fun v hv => ?_, fun t ht => ?_, by simp [new]; exact hl⟩
  · obtain ⟨-, rfl⟩ := List.mem_replicate.1 hv
    exact h0
  · simp only [new, List.mem_map] at ht
    obtain ⟨p, hp, rfl⟩ := ht
    refine ⟨(hP p hp).1, (hP p hp).2, by simp, fun v hv => ?_, h0⟩
    obtain ⟨-, rfl⟩ := List.mem_replicate.1 hv
    exact h0
theorem go_append (S : Ma) : ∀ (l m : List Int), go S (l ++ m) = (if (go S l).2 = l.length then ((go (go S l).1 m).1, l.length + (go (go S l).1 m).2) else go S l) := by
  intro l
  induction l generalizing S with
  | nil => intro m; simp [go]
  | cons q l ih =>
    intro m
    rcases e : pick S q with _ | i
    · simp [List.cons_append, go, e]
    · simp only [List.cons_append, go, e]
      rw [ih (step S i) m]
      by_cases e : (go (step S i) l).2 = l.length
      · rw [if_pos e, if_pos (by simp [e])]
        simp only [List.length_cons, Prod.mk.injEq, true_and]
        omega
      · rw [if_neg e, if_neg (by simpa using e)]
/-- Who has stopped has nobody left. -/
theorem go_stop {S : Ma} : ∀ {l : List Int}, (go S l).2 ≠ l.length → live (go S l).1.t = [] := by
  intro l
  induction l generalizing S with
  | nil => intro h; simp [go] at h
  | cons q l ih =>
    intro h
    simp only [go] at h ⊢
    rcases e : pick S q with _ | i
    · simp only
      rcases Nat.eq_zero_or_pos (live S.t).length with h0 | h0
      · exact List.eq_nil_of_length_eq_zero h0
      · obtain ⟨i, hi, -⟩ := pick_some (q := q) h0
        rw [e] at hi; cases hi
    · rw [e] at h
      simp only [List.length_cons] at h ⊢
      exact ih (by omega)
theorem go_none {S : Ma} (h : live S.t = []) (l : List Int) : go S l = (S, 0) := by
  cases l with
  | nil => rfl
  | cons q l => simp only [go]; rw [pick_none (by rw [h]; rfl)]
theorem go_le (S : Ma) : ∀ l : List Int, (go S l).2 ≤ l.length := by
  intro l
  induction l generalizing S with
  | nil => simp [go]
  | cons q l ih =>
    simp only [go]
    rcases pick S q with _ | i
    · simp
    · simp only [List.length_cons]; have := ih (step S i); omega
theorem go_fit {N : Nat} {S : Ma} (h : Fit N S) : ∀ l : List Int, Fit N (go S l).1 := by
  intro l
  induction l generalizing S with
  | nil => exact h
  | cons q l ih =>
    simp only [go]
    rcases e : pick S q with _ | i
    · exact h
    · exact ih (h.step e)
theorem go_len (S : Ma) : ∀ l : List Int, (go S l).1.t.length = S.t.length := by
  intro l
  induction l generalizing S with
  | nil => rfl
  | cons q l ih =>
    simp only [go]
    rcases e : pick S q with _ | i
    · rfl
    · exact (ih (step S i)).trans step_len
/-- Both together. -/
theorem go_both (S : Ma) (l m : List Int) : (go S (l ++ m)).1 = (go (go S l).1 m).1 ∧ (go S (l ++ m)).2 = (go S l).2 + (go (go S l).1 m).2 := by
  rw [go_append]
  by_cases e : (go S l).2 = l.length
  · rw [if_pos e, e]; exact ⟨rfl, rfl⟩
  · rw [if_neg e, go_none (go_stop e)]; exact ⟨rfl, rfl⟩
end MC
end Go.Proofs.Ytjafjjfcmcpaoaa

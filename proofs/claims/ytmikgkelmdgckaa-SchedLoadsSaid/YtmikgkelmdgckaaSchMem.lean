/- A queue of processes in memory. -/
import Derived.Test.YtmikgkelmdgckaaSchFun
import Derived.Test.YtmikgkelmdgckaaOwn3
import Derived.Test.YtmikgkelmdgckaaKeep
namespace Go.Proofs.Ytmikgkelmdgckaa
open Go.ChangeShapes Go.WideShapes Go.ChangeAt Go.RowKit
set_option linter.unusedVariables false
set_option linter.unusedSimpArgs false
set_option maxRecDepth 100000
namespace SD
open IN (Keeps lt_of_some)

abbrev ptr (b : Nat) : Value := .pointer (some ⟨b, 0, none⟩)
abbrev TQ : TypeId := 58
abbrev TN : TypeId := 66
abbrev TR : TypeId := 86
abbrev TI : TypeId := 3
def prow (x : Pr) : List Value := [.int .i64 x.pid, .int .i64 x.nice, .bool (!x.on), .float .f64 x.load]
def rcl (P : List Pr) : List Value := (P.map prow).flatten
def icl (L : List Int) : List Value := L.map (Value.int .i64)
theorem prows (q : List Pr) : ∀ x ∈ q.map prow, x.length = 4 := by
  intro x hx
  obtain ⟨y, -, rfl⟩ := List.mem_map.1 hx
  rfl
theorem rcl_len (q : List Pr) : (rcl q).length = q.length * 4 := by unfold rcl; rw [Own.rows_len (prows q), List.length_map]
theorem rcl_app (a b : List Pr) : rcl (a ++ b) = rcl a ++ rcl b := by simp [rcl]
theorem rcl_one (x : Pr) : rcl [x] = prow x := by simp [rcl]
theorem rcl_take (q : List Pr) (k : Nat) : (rcl q).take (k * 4) = rcl (q.take k) := by unfold rcl; rw [Own.rows_take (prows q), List.map_take]
theorem rcl_drop (q : List Pr) (k : Nat) : (rcl q).drop (k * 4) = rcl (q.drop k) := by unfold rcl; rw [Own.rows_drop (prows q), List.map_drop]
theorem rcl_get (q : List Pr) (i : Nat) (hi : i < q.length) (m : Nat) (hm : m < 4) : (rcl q)[i * 4 + m]? = (prow q[i])[m]? := by
  unfold rcl; rw [Own.rows_get (prows q) i (by simpa using hi) m hm]; simp
theorem rcl_set (q : List Pr) (i : Nat) (hi : i < q.length) (m : Nat) (u : Value) (hm : m < 4) (x : Pr) (hx : (prow q[i]).set m u = prow x) : (rcl q).set (i * 4 + m) u = rcl (q.set i x) := by
  unfold rcl
  rw [Own.rows_set (prows q) i (by simpa using hi) m u hm, List.getElem_map, hx, List.map_set]
theorem prow_one (x : Pr) : ∀ u ∈ prow x, u.oneCell' = true := by
  intro u hu
  simp only [prow, List.mem_cons, List.not_mem_nil, or_false] at hu
  rcases hu with rfl | rfl | rfl | rfl <;> rfl
theorem rcl_one_cell (q : List Pr) : ∀ u ∈ rcl q, u.oneCell' = true := by
  intro u hu
  unfold rcl at hu
  rw [List.mem_flatten] at hu
  obtain ⟨l, hl, hu⟩ := hu
  obtain ⟨x, -, rfl⟩ := List.mem_map.1 hl
  exact prow_one x u hu
theorem icl_len (L : List Int) : (icl L).length = L.length := by simp [icl]
theorem icl_app (a b : List Int) : icl (a ++ b) = icl a ++ icl b := by simp [icl]
theorem icl_get (L : List Int) (j : Nat) : (icl L)[j]? = (L[j]?).map (Value.int .i64) := by simp [icl]
theorem icl_one (L : List Int) : ∀ u ∈ icl L, u.oneCell' = true := by
  intro u hu
  obtain ⟨x, -, rfl⟩ := List.mem_map.1 hu
  rfl
theorem info_row : Own.Info Try.prog TR (.agg #[.int .i64 0, .int .i64 0, .bool false, .float .f64 0]) 4 32 := Own.info_of (by kernel_rfl) rfl (by decide)
theorem info_int : Own.Info Try.prog TI (.int .i64 0) 1 8 := Own.info_of (by kernel_rfl) rfl (by decide)
theorem und_rows : Try.prog.underlying 64 = some (.slice TR) := by kernel_rfl
theorem und_ints : Try.prog.underlying 30 = some (.slice TI) := by kernel_rfl

theorem own_obj {w : World} {base e size n : Nat} {v : Value} {xs : List Value} (h : w.ownsRow base e size v n xs) {k : Nat} (hk : v.ownBlock = some k) : ∃ cur, w.heap[k]? = some (.cells cur e (0, 0)) := by
  rcases h.2 with ⟨rfl, _⟩ | ⟨g, cap, cur, rfl, hb, hg, _⟩
  · cases hk
  · simp only [Value.ownBlock, Option.some.injEq] at hk
    subst hk
    exact ⟨cur, hg⟩
theorem own_move {w w' : World} {base e size n : Nat} {v : Value} {xs : List Value} (h : w.ownsRow base e size v n xs) (hk : ∀ k, v.ownBlock = some k → w'.heap[k]? = w.heap[k]?) : w'.ownsRow base e size v n xs := by
  rcases h.2 with h0 | ⟨g, cap, cur, rfl, hb, hg, h3⟩
  · exact ⟨h.1, .inl h0⟩
  · exact ⟨h.1, .inr ⟨g, cap, cur, rfl, hb, (hk g rfl).trans hg, h3⟩⟩
theorem obj_ne {w : World} {g b : Nat} {e f : TypeId} {x y : Array Value} {p q : Nat × Nat} (h : w.heap[g]? = some (.cells x e p)) (k : w.heap[b]? = some (.cells y f q)) (hef : e ≠ f) : g ≠ b := by
  rintro rfl
  rw [h] at k
  simp only [Option.some.injEq, Obj.cells.injEq] at k
  exact hef k.2.1

/-- The queue in memory: its block, the block of its processes, the row of these, the five lists. -/
structure QM (base : Nat) (w : World) (qb nb : Nat) (vr : Value) (vl : Nat → Value) (P : List Pr) (ls : Nat → List Int) : Prop where
  box : Blk w qb TQ [ptr nb, vl 0, vl 1, vl 2, vl 3, vl 4]
  nbox : Blk w nb TN [vr]
  row : w.ownsRow base TR 4 vr P.length (rcl P)
  lst : ∀ k, k < 5 → w.ownsRow base TI 1 (vl k) (ls k).length (icl (ls k))
  inj : ∀ j k g, j < 5 → k < 5 → (vl j).ownBlock = some g → (vl k).ownBlock = some g → j = k
  ge : base ≤ qb ∧ base ≤ nb
/-- The blocks that a queue is. -/
def QX (qb nb : Nat) (vr : Value) (vl : Nat → Value) (k : Nat) : Prop := k = qb ∨ k = nb ∨ vr.ownBlock = some k ∨ ∃ j, j < 5 ∧ (vl j).ownBlock = some k
def upd (vl : Nat → Value) (k : Nat) (v : Value) : Nat → Value := fun j => if j = k then v else vl j
def updL (ls : Nat → List Int) (k : Nat) (l : List Int) : Nat → List Int := fun j => if j = k then l else ls j
section
variable {base : Nat} {w w' : World} {qb nb : Nat} {vr : Value} {vl : Nat → Value} {P : List Pr} {ls : Nat → List Int}
theorem QM.base_le (h : QM base w qb nb vr vl P ls) : base ≤ w.heap.size := Nat.le_trans h.ge.1 (Nat.le_of_lt h.box.lt)
theorem QM.tlt (h : QM base w qb nb vr vl P ls) : ∀ k, QX qb nb vr vl k → k < w.heap.size := by
  rintro k (rfl | rfl | hk | ⟨j, hj, hk⟩)
  · exact h.box.lt
  · exact h.nbox.lt
  · obtain ⟨cur, hc⟩ := own_obj h.row hk
    exact lt_of_some hc
  · obtain ⟨cur, hc⟩ := own_obj (h.lst j hj) hk
    exact lt_of_some hc
theorem QM.low (h : QM base w qb nb vr vl P ls) : ∀ k, QX qb nb vr vl k → base ≤ k := by
  rintro k (rfl | rfl | hk | ⟨j, hj, hk⟩)
  · exact h.ge.1
  · exact h.ge.2
  · exact Own.ge h.row k hk
  · exact Own.ge (h.lst j hj) k hk
theorem QM.moved (h : QM base w qb nb vr vl P ls) (hk : ∀ k, QX qb nb vr vl k → w'.heap[k]? = w.heap[k]?) : QM base w' qb nb vr vl P ls :=
  ⟨(hk qb (.inl rfl)).trans h.box, (hk nb (.inr (.inl rfl))).trans h.nbox, own_move h.row fun k hv => hk k (.inr (.inr (.inl hv))), fun j hj => own_move (h.lst j hj) fun k hv => hk k (.inr (.inr (.inr ⟨j, hj, hv⟩))), h.inj, h.ge⟩
theorem QM.keep (h : QM base w qb nb vr vl P ls) (hb : Below w.heap.size w w') : QM base w' qb nb vr vl P ls := h.moved fun k hk => hb.block k (h.tlt k hk)
theorem QM.drewN (h : QM base w qb nb vr vl P ls) (n : Nat) : QM base (w.drewN n) qb nb vr vl P ls := h.moved fun _ _ => rfl
theorem QM.keeps (h : QM base w qb nb vr vl P ls) {C : Nat} {Y : Nat → Prop} (hK : Keeps C (fun k _ => Y k) w w') (hY : ∀ k, QX qb nb vr vl k → ¬ Y k) : QM base w' qb nb vr vl P ls :=
  h.moved fun k hk => by
    have hlt := h.tlt k hk
    obtain ⟨o, ho⟩ : ∃ o, w.heap[k]? = some o := ⟨_, Array.getElem?_eq_getElem hlt⟩
    rw [ho, hK.block k o ho (hY k hk)]
theorem QM.congr (h : QM base w qb nb vr vl P ls) {ls' : Nat → List Int} (hl : ∀ k, k < 5 → ls' k = ls k) : QM base w qb nb vr vl P ls' :=
  ⟨h.box, h.nbox, h.row, fun k hk => by rw [hl k hk]; exact h.lst k hk, h.inj, h.ge⟩
theorem QM.qn (h : QM base w qb nb vr vl P ls) : qb ≠ nb := obj_ne h.box h.nbox (by decide)
theorem QM.rq (h : QM base w qb nb vr vl P ls) {g : Nat} (hg : vr.ownBlock = some g) : g ≠ qb ∧ g ≠ nb := by
  obtain ⟨cur, hc⟩ := own_obj h.row hg
  exact ⟨obj_ne hc h.box (by decide), obj_ne hc h.nbox (by decide)⟩
theorem QM.lq (h : QM base w qb nb vr vl P ls) {j g : Nat} (hj : j < 5) (hg : (vl j).ownBlock = some g) : g ≠ qb ∧ g ≠ nb ∧ vr.ownBlock ≠ some g := by
  obtain ⟨cur, hc⟩ := own_obj (h.lst j hj) hg
  refine ⟨obj_ne hc h.box (by decide), obj_ne hc h.nbox (by decide), fun e => ?_⟩
  obtain ⟨cur', hc'⟩ := own_obj h.row e
  exact obj_ne hc hc' (by decide) rfl
theorem QM.cell (h : QM base w qb nb vr vl P ls) {k : Nat} (hk : k < 5) : w.cell? ⟨qb, 1 + k, none⟩ = some (vl k) := by
  have : k = 0 ∨ k = 1 ∨ k = 2 ∨ k = 3 ∨ k = 4 := by omega
  rcases this with rfl | rfl | rfl | rfl | rfl <;> exact h.box.cell rfl
/-- A process, as the walk wants it. -/
theorem QM.opened (h : QM base w qb nb vr vl P ls) {p : Nat} (hp : p < P.length) : ∃ g n cap, vr = .slice (some ⟨g, 0, none⟩) n cap ∧ P.length = n ∧ p < n ∧ n ≤ cap ∧ cap ≤ 9223372036854775807 ∧ base ≤ g ∧ g ≠ qb ∧ g ≠ nb ∧ g < w.heap.size ∧ (∀ j, w.frozen? ⟨g, j, none⟩ = false) ∧
    w.cell? ⟨g, p * 4, none⟩ = some (.int .i64 P[p].pid) ∧ w.cell? ⟨g, p * 4 + 1, none⟩ = some (.int .i64 P[p].nice) ∧ w.cell? ⟨g, p * 4 + 2, none⟩ = some (.bool (!P[p].on)) ∧ w.cell? ⟨g, p * 4 + 3, none⟩ = some (.float .f64 P[p].load) := by
  have hr := h.row
  have hrq : ∀ g, vr.ownBlock = some g → g ≠ qb ∧ g ≠ nb := fun g hg => h.rq hg
  rcases hr.2 with ⟨rfl, h0⟩ | ⟨g, cap, cur, rfl, hb, hg, h1, h2, h3, h4⟩
  · omega
  · have hc : ∀ m u, m < 4 → (prow P[p])[m]? = some u → w.cell? ⟨g, p * 4 + m, none⟩ = some u := fun m u hm hu => by
      have := hr.cells (g := g) rfl (p * 4 + m) u (by rw [rcl_get P p hp m hm]; exact hu)
      rw [Addr.add_lit, Nat.zero_add] at this
      exact this
    have hne := hrq g rfl
    exact ⟨g, _, cap, rfl, rfl, hp, h1, by unfold maxLen at h2; omega, hb, hne.1, hne.2, lt_of_some hg, fun j => hr.frozenAt j, by have := hc 0 _ (by omega) rfl; rwa [Nat.add_zero] at this, hc 1 _ (by omega) rfl, hc 2 _ (by omega) rfl, hc 3 _ (by omega) rfl⟩
/-- A store into a process. -/
theorem QM.set {g cap n : Nat} (h : QM base w qb nb (.slice (some ⟨g, 0, none⟩) n cap) vl P ls) (hn : P.length = n) {i : Nat} (hi : i < P.length) (m : Nat) (u : Value) (hm : m < 4) (x : Pr) (hx : (prow P[i]).set m u = prow x) :
    QM base (w.setCell ⟨g, i * 4 + m, none⟩ u) qb nb (.slice (some ⟨g, 0, none⟩) n cap) vl (P.set i x) ls ∧ Keeps base (fun k _ => QX qb nb (.slice (some ⟨g, 0, none⟩) n cap) vl k) w (w.setCell ⟨g, i * 4 + m, none⟩ u) := by
  subst hn
  have hne := h.rq (g := g) rfl
  obtain ⟨cur, hc⟩ := own_obj h.row (k := g) rfl
  have hs := (h.row.stored (i * 4 + m) u).1
  rw [rcl_set P i hi m u hm x hx] at hs
  refine ⟨⟨h.box.far (p := ⟨g, i * 4 + m, none⟩) (fun e => hne.1 e.symm) u, h.nbox.far (p := ⟨g, i * 4 + m, none⟩) (fun e => hne.2 e.symm) u, by rw [List.length_set]; exact hs, fun k hk => ?_, h.inj, h.ge⟩, ?_⟩
  · refine own_move (h.lst k hk) fun b hb => Below.heap_setCell w ⟨g, i * 4 + m, none⟩ u b ?_
    intro e
    have e2 : b = g := e
    subst e2
    exact (h.lq hk hb).2.2 rfl
  · exact (Keeps.refl base _ w).setCell (p := ⟨g, i * 4 + m, none⟩) hc (.inr (.inr (.inl rfl))) (Own.ge h.row g rfl) u
/-- Another row. -/
theorem QM.newRow (h : QM base w qb nb vr vl P ls) {w1 : World} (hg : w.grownBy w1 vr.ownBlock) {vr' : Value} {P' : List Pr} (ho : w1.ownsRow base TR 4 vr' P'.length (rcl P')) (hv : vr'.ownBlock = vr.ownBlock ∨ ∃ b, vr'.ownBlock = some b ∧ w.heap.size ≤ b) :
    QM base (w1.setCell ⟨nb, 0, none⟩ vr') qb nb vr' vl P' ls ∧ Keeps base (fun k _ => QX qb nb vr vl k) w (w1.setCell ⟨nb, 0, none⟩ vr') ∧ ∀ k, QX qb nb vr' vl k → QX qb nb vr vl k ∨ w.heap.size ≤ k := by
  have hq1 : vr.ownBlock ≠ some qb := fun e => (h.rq e).1 rfl
  have hn1 : vr.ownBlock ≠ some nb := fun e => (h.rq e).2 rfl
  have hb1 : Blk w1 qb TQ [ptr nb, vl 0, vl 1, vl 2, vl 3, vl 4] := h.box.grown hg (fun e => hq1 e.symm)
  have hnb1 : Blk w1 nb TN [vr] := h.nbox.grown hg (fun e => hn1 e.symm)
  have hnv : vr'.ownBlock ≠ some nb := by
    intro e
    rcases hv with hv | ⟨b, hv, hb⟩
    · exact hn1 (hv.symm.trans e)
    · rw [hv] at e
      cases e
      have := h.nbox.lt
      omega
  have hl1 : ∀ k, k < 5 → w1.ownsRow base TI 1 (vl k) (ls k).length (icl (ls k)) := fun k hk => own_move (h.lst k hk) fun b hb => by
    obtain ⟨cur, hc⟩ := own_obj (h.lst k hk) hb
    exact hg.block b (lt_of_some hc) (fun e => (h.lq hk hb).2.2 e.symm)
  refine ⟨⟨hb1.far (p := ⟨nb, 0, none⟩) h.qn vr', hnb1.set 0 vr', own_move ho fun k hk => Below.heap_setCell w1 ⟨nb, 0, none⟩ vr' k (fun e => by have e2 : k = nb := e; subst e2; exact hnv hk), fun k hk => own_move (hl1 k hk) fun b hb => Below.heap_setCell w1 ⟨nb, 0, none⟩ vr' b (fun e => by have e2 : b = nb := e; subst e2; exact (h.lq hk hb).2.1 rfl), h.inj, h.ge⟩, ?_, ?_⟩
  · have k1 : Keeps base (fun k _ => QX qb nb vr vl k) w w1 := by
      cases hvr : vr.ownBlock with
      | none =>
        rw [hvr] at hg
        exact ⟨hg.os, hg.tape, hg.output, hg.size, fun k hk => hg.block k (Nat.lt_of_lt_of_le hk h.base_le) (by simp), fun k o ho' _ => (hg.block k (lt_of_some ho') (by simp)).trans ho'⟩
      | some b =>
        rw [hvr] at hg
        obtain ⟨cur, hc⟩ := own_obj h.row hvr
        exact (Keeps.refl base _ w).grown hc (.inr (.inr (.inl hvr))) (Own.ge h.row b hvr) hg
    exact k1.setCell (p := ⟨nb, 0, none⟩) hnb1 (.inr (.inl rfl)) h.ge.2 vr'
  · rintro k (rfl | rfl | hk | hk)
    · exact .inl (.inl rfl)
    · exact .inl (.inr (.inl rfl))
    · rcases hv with hv | ⟨b, hv, hb⟩
      · exact .inl (.inr (.inr (.inl (hv ▸ hk))))
      · rw [hv] at hk; cases hk; exact .inr hb
    · exact .inl (.inr (.inr (.inr hk)))
/-- Another list. -/
theorem QM.newList (h : QM base w qb nb vr vl P ls) {j : Nat} (hj : j < 5) {w1 : World} (hg : w.grownBy w1 (vl j).ownBlock) {v' : Value} {l' : List Int} (ho : w1.ownsRow base TI 1 v' l'.length (icl l')) (hv : v'.ownBlock = (vl j).ownBlock ∨ ∃ b, v'.ownBlock = some b ∧ w.heap.size ≤ b) :
    QM base (w1.setCell ⟨qb, 1 + j, none⟩ v') qb nb vr (upd vl j v') P (updL ls j l') ∧ Keeps base (fun k _ => QX qb nb vr vl k) w (w1.setCell ⟨qb, 1 + j, none⟩ v') ∧ ∀ k, QX qb nb vr (upd vl j v') k → QX qb nb vr vl k ∨ w.heap.size ≤ k := by
  have hq1 : (vl j).ownBlock ≠ some qb := fun e => (h.lq hj e).1 rfl
  have hn1 : (vl j).ownBlock ≠ some nb := fun e => (h.lq hj e).2.1 rfl
  have hr1 : ∀ g, vr.ownBlock = some g → (vl j).ownBlock ≠ some g := fun g hg' e => (h.lq hj e).2.2 hg'
  have hb1 : Blk w1 qb TQ [ptr nb, vl 0, vl 1, vl 2, vl 3, vl 4] := h.box.grown hg (fun e => hq1 e.symm)
  have hnb1 : Blk w1 nb TN [vr] := h.nbox.grown hg (fun e => hn1 e.symm)
  have old : ∀ b, b < w.heap.size → v'.ownBlock = some b → (vl j).ownBlock = some b := fun b hb e => by
    rcases hv with hv | ⟨c, hv, hc⟩
    · rw [← hv]; exact e
    · rw [hv] at e; cases e; omega
  have hqv : v'.ownBlock ≠ some qb := fun e => hq1 (old _ h.box.lt e)
  have hlow : ∀ k, k < 5 → ∀ b, (vl k).ownBlock = some b → b < w.heap.size := fun k hk b hb => h.tlt b (.inr (.inr (.inr ⟨k, hk, hb⟩)))
  have far : ∀ {b : Nat}, b ≠ qb → (w1.setCell ⟨qb, 1 + j, none⟩ v').heap[b]? = w1.heap[b]? := fun {b} hb => Below.heap_setCell w1 ⟨qb, 1 + j, none⟩ v' b hb
  refine ⟨⟨?_, hnb1.far (p := ⟨qb, 1 + j, none⟩) (fun e => h.qn e.symm) v', ?_, fun k hk => ?_, fun a b g ha hb hga hgb => ?_, h.ge⟩, ?_, ?_⟩
  · have := hb1.set (1 + j) v'
    have e : j = 0 ∨ j = 1 ∨ j = 2 ∨ j = 3 ∨ j = 4 := by omega
    rcases e with rfl | rfl | rfl | rfl | rfl <;> exact this
  · refine own_move h.row fun b hb => ?_
    obtain ⟨cur, hc⟩ := own_obj h.row hb
    rw [far (h.rq hb).1, hg.block b (lt_of_some hc) (fun e => hr1 b hb e.symm)]
  · unfold upd updL
    by_cases e : k = j
    · rw [if_pos e, if_pos e]
      exact own_move ho fun b hb => far (fun e => hqv (e ▸ hb))
    · rw [if_neg e, if_neg e]
      refine own_move (h.lst k hk) fun b hb => ?_
      rw [far (h.lq hk hb).1, hg.block b (hlow k hk b hb) (fun e2 => e (h.inj k j b hk hj hb e2.symm))]
  · unfold upd at hga hgb
    by_cases e1 : a = j <;> by_cases e2 : b = j
    · rw [e1, e2]
    · rw [if_pos e1] at hga
      rw [if_neg e2] at hgb
      rw [e1]
      exact h.inj j b g hj hb (old g (hlow b hb g hgb) hga) hgb
    · rw [if_neg e1] at hga
      rw [if_pos e2] at hgb
      rw [e2]
      exact h.inj a j g ha hj hga (old g (hlow a ha g hga) hgb)
    · rw [if_neg e1] at hga
      rw [if_neg e2] at hgb
      exact h.inj a b g ha hb hga hgb
  · have k1 : Keeps base (fun k _ => QX qb nb vr vl k) w w1 := by
      cases hvr : (vl j).ownBlock with
      | none =>
        rw [hvr] at hg
        exact ⟨hg.os, hg.tape, hg.output, hg.size, fun k hk => hg.block k (Nat.lt_of_lt_of_le hk h.base_le) (by simp), fun k o ho' _ => (hg.block k (lt_of_some ho') (by simp)).trans ho'⟩
      | some b =>
        rw [hvr] at hg
        obtain ⟨cur, hc⟩ := own_obj (h.lst j hj) hvr
        exact (Keeps.refl base _ w).grown hc (.inr (.inr (.inr ⟨j, hj, hvr⟩))) (Own.ge (h.lst j hj) b hvr) hg
    exact k1.setCell (p := ⟨qb, 1 + j, none⟩) hb1 (.inl rfl) h.ge.1 v'
  · rintro k (rfl | rfl | hk | ⟨i, hi, hk⟩)
    · exact .inl (.inl rfl)
    · exact .inl (.inr (.inl rfl))
    · exact .inl (.inr (.inr (.inl hk)))
    · unfold upd at hk
      by_cases e : i = j
      · rw [if_pos e] at hk
        rcases Nat.lt_or_ge k w.heap.size with hlt | hge
        · exact .inl (.inr (.inr (.inr ⟨j, hj, old k hlt hk⟩)))
        · exact .inr hge
      · rw [if_neg e] at hk
        exact .inl (.inr (.inr (.inr ⟨i, hi, hk⟩)))
end
/-- A queue in memory, with the blocks that it is. -/
def QW (base : Nat) (w : World) (qb : Nat) (S : Qs) (X : Nat → Prop) : Prop := ∃ nb vr vl, QM base w qb nb vr vl S.P (lst S.P S.L) ∧ ∀ k, X k ↔ QX qb nb vr vl k
/-- What a call leaves of a queue. -/
def QO (base : Nat) (w : World) (qb : Nat) (S : Qs) (X : Nat → Prop) (w' : World) : Prop := ∃ X', QW base w' qb S X' ∧ Keeps base (fun k _ => X k) w w' ∧ ∀ k, X' k → X k ∨ w.heap.size ≤ k
theorem keeps_iff {B : Nat} {X Y : Nat → Prop} {w w' : World} (h : Keeps B (fun k _ => X k) w w') (hXY : ∀ k, X k → Y k) : Keeps B (fun k _ => Y k) w w' :=
  ⟨h.os, h.tape, h.output, h.size, h.low, fun k o ho hY => h.block k o ho fun hX => hY (hXY k hX)⟩
/-- Two turns one behind the other: what the second one touches is old or new. -/
theorem keeps_two {B : Nat} {X Y : Nat → Prop} {w w1 w2 : World} (h : Keeps B (fun k _ => X k) w w1) (k : Keeps B (fun k _ => Y k) w1 w2) (hY : ∀ k, Y k → X k ∨ w.heap.size ≤ k) : Keeps B (fun k _ => X k) w w2 :=
  ⟨k.os.trans h.os, k.tape.trans h.tape, k.output.trans h.output, Nat.le_trans h.size k.size, fun i hi => (k.low i hi).trans (h.low i hi), fun i o ho hX => k.block i o (h.block i o ho hX) fun hy => by
    rcases hY i hy with h1 | h1
    · exact hX h1
    · have := lt_of_some ho; omega⟩
section
variable {base : Nat} {w w' : World} {qb : Nat} {S : Qs} {X : Nat → Prop}
theorem QW.lt (h : QW base w qb S X) : ∀ k, X k → k < w.heap.size := by
  obtain ⟨nb, vr, vl, h1, h2⟩ := h
  exact fun k hk => h1.tlt k ((h2 k).1 hk)
theorem QW.ge (h : QW base w qb S X) : ∀ k, X k → base ≤ k := by
  obtain ⟨nb, vr, vl, h1, h2⟩ := h
  exact fun k hk => h1.low k ((h2 k).1 hk)
theorem QW.keeps (h : QW base w qb S X) {C : Nat} {Y : Nat → Prop} (hK : Keeps C (fun k _ => Y k) w w') (hY : ∀ k, X k → ¬ Y k) : QW base w' qb S X := by
  obtain ⟨nb, vr, vl, h1, h2⟩ := h
  exact ⟨nb, vr, vl, h1.keeps hK fun k hk => hY k ((h2 k).2 hk), h2⟩
theorem QW.keep (h : QW base w qb S X) (hb : Below w.heap.size w w') : QW base w' qb S X := by
  obtain ⟨nb, vr, vl, h1, h2⟩ := h
  exact ⟨nb, vr, vl, h1.keep hb, h2⟩
theorem QW.base_le (h : QW base w qb S X) : base ≤ w.heap.size := by
  obtain ⟨nb, vr, vl, h1, h2⟩ := h
  exact h1.base_le
theorem QW.same (h : QW base w qb S X) (hb : Below w.heap.size w w') : QO base w qb S X w' :=
  ⟨X, h.keep hb, Keeps.new hb h.base_le, fun k hk => .inl hk⟩
end
end SD
end Go.Proofs.Ytmikgkelmdgckaa

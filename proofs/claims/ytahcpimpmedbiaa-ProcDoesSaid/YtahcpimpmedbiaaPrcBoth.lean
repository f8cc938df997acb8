/- Layer 14: a table and the document's side by side; does, ran, shown. -/
import Derived.Test.YtahcpimpmedbiaaRefPrc5
import Derived.Deep.Slices
import Derived.ChangeOld
import Derived.WalkLawsBesides
namespace Go.Proofs.Ytahcpimpmedbiaa
open Go.ChangeShapes Go.WideShapes Go.ChangeAt Go.RowKit Go.Maps
set_option linter.unusedVariables false
set_option linter.unusedSimpArgs false
set_option maxRecDepth 100000
namespace PC
open IS (I64)
open IN (Keeps lt_of_some)

theorem good_spawnR {N : Nat} {L : List Pr} (h : Good N L) (p n : Int) : Good N (spawnR N L p n).2 := by
  unfold spawnR
  cases hr : runs L p with
  | false => exact h
  | true =>
    rw [if_neg (by simp)]
    split
    · exact h
    · split
      · exact h
      · rename_i h1 h2
        exact good_spawn h hr h2
theorem good_exitR {N : Nat} {L : List Pr} (h : Good N L) (p c : Int) : Good N (exitR L p c).2 := by
  unfold exitR
  cases hr : runs L p with
  | false => exact h
  | true =>
    rw [if_neg (by simp)]
    split
    · exact h
    · rename_i h1
      exact good_exit h hr h1
theorem ended_some {L : List Pr} {p c : Int} {x : Pr} (h : ended L p c = some x) : x ∈ L ∧ kid p c x = true ∧ x.st = 2 := by
  unfold ended at h
  have h1 := List.mem_of_find?_eq_some h
  have h2 := List.find?_some h
  obtain ⟨h3, h4⟩ := List.mem_filter.1 h1
  exact ⟨h3, h4, of_decide_eq_true h2⟩
theorem good_dropEnd {N : Nat} {L : List Pr} (h : Good N L) {x : Pr} (hx : x ∈ L) (hst : x.st = 2) : Good N (dropL L x.pid) := by
  have h1 : runs L x.pid = false := by
    unfold runs
    rw [asc_get h.asc hx]
    simp [isRun, hst]
  refine good_drop h ?_ fun y hy => .inr h1
  intro e
  obtain ⟨x1, m1, p1, s1, q1⟩ := h.one
  have := asc_inj h.asc hx m1 (by rw [e, p1])
  subst this
  rw [hst] at s1; cases s1
theorem good_waitR {N : Nat} {L : List Pr} (h : Good N L) (p c : Int) : Good N (waitR L p c).2 := by
  unfold waitR
  split
  · exact h
  · split
    · exact h
    · split
      · exact h
      · split
        · exact h
        · rename_i x hx
          obtain ⟨h1, -, h3⟩ := ended_some hx
          exact good_dropEnd h h1 h3
theorem good_undoR {N : Nat} {L : List Pr} (h : Good N L) (p : Int) : Good N (undoR L p).2 := by
  unfold undoR
  split
  · exact h
  · split
    · exact h
    · rename_i h1
      have hk : kids L p 0 = [] := by
        cases e : kids L p 0 with
        | nil => rfl
        | cons a b => exact absurd (.inr (by rw [e]; simp)) h1
      refine good_drop h (fun e => h1 (.inl e)) fun x hx => .inl fun e => ?_
      have : x ∈ kids L p 0 := List.mem_filter.2 ⟨hx, by simp [kid, e]⟩
      rw [hk] at this
      cases this
theorem good_niceR {N : Nat} {L : List Pr} (h : Good N L) (p n : Int) : Good N (niceR L p n).2 := by
  unfold niceR
  split
  · exact h
  · split
    · exact h
    · exact good_nice h p n

theorem TM.lower {base b : Nat} {w : World} {tb mb : Nat} {M : Int → Option Nat} {N : Nat} {S : Int → Option Pr} (h : TM base w tb mb M N S) (hb : b ≤ base) : TM b w tb mb M N S :=
  ⟨h.box, h.mp, h.dom, h.node, h.pid, h.inj, Nat.le_trans hb h.ge.1, Nat.le_trans hb h.ge.2.1, fun p g hg => Nat.le_trans hb (h.ge.2.2 p g hg)⟩
theorem TW.lower {base b : Nat} {w : World} {tb N : Nat} {L : List Pr} {X : Nat → Prop} (h : TW base w tb N L X) (hb : b ≤ base) : TW b w tb N L X := by
  obtain ⟨mb, M, h1, h2⟩ := h
  exact ⟨mb, M, h1.lower hb, h2⟩
theorem DW.lower {base b : Nat} {w : World} {rb N : Nat} {L : List Pr} {Y : Nat → Prop} (h : DW base w rb N L Y) (hb : b ≤ base) : DW b w rb N L Y := by
  obtain ⟨v, h1, h2⟩ := h
  exact ⟨v, ⟨h1.box, Own.low hb h1.row, Nat.le_trans hb h1.ge⟩, h2⟩

/-- A table alone; Z: blocks that it does not touch. -/
def P1 (b : Nat) (w0 : World) (tb N : Nat) (L : List Pr) (Z : Nat → Prop) (w : World) : Prop :=
  ∃ X, TW b w tb N L X ∧ Good N L ∧ (∀ k, Z k → ¬ X k ∧ k < w.heap.size) ∧ Below b w0 w
section
variable {b : Nat} {w0 w w' : World} {tb N : Nat} {L L' : List Pr} {Z : Nat → Prop}
theorem P1.good (h : P1 b w0 tb N L Z w) : Good N L := by obtain ⟨X, h1, h2, -⟩ := h; exact h2
theorem P1.bel (h : P1 b w0 tb N L Z w) : Below b w0 w := by obtain ⟨X, -, -, -, h1⟩ := h; exact h1
theorem P1.ble (h : P1 b w0 tb N L Z w) : b ≤ w.heap.size := by obtain ⟨X, h1, -⟩ := h; exact h1.base_le
theorem P1.keep (h : P1 b w0 tb N L Z w) (hb : Below w.heap.size w w') : P1 b w0 tb N L Z w' ∧ ∀ k, Z k → w'.heap[k]? = w.heap[k]? := by
  obtain ⟨X, h1, h2, h3, h4⟩ := h
  exact ⟨⟨X, h1.keep hb, h2, fun k hk => ⟨(h3 k hk).1, Nat.lt_of_lt_of_le (h3 k hk).2 hb.size⟩, h4.trans (bel_mono hb h1.base_le)⟩, fun k hk => hb.block k (h3 k hk).2⟩
/-- A block more that it does not touch. -/
theorem P1.alloc (h : P1 b w0 tb N L Z w) (o : Obj) : P1 b w0 tb N L (fun k => Z k ∨ k = w.heap.size) (w.alloc o) := by
  have hb : Below w.heap.size w (w.alloc o) := (Below.refl _ _).alloc (Nat.le_refl _) _
  obtain ⟨⟨X, h1, h2, h3, h4⟩, -⟩ := h.keep hb
  obtain ⟨X', g1, -, g3, -⟩ := h
  refine ⟨X', g1.keep hb, h2, fun k hk => ?_, h4⟩
  rcases hk with hk | rfl
  · exact ⟨(g3 k hk).1, by simp; exact Nat.lt_succ_of_lt (g3 k hk).2⟩
  · exact ⟨fun hx => by have := g1.lt _ hx; omega, by simp⟩
theorem P1.more (h : P1 b w0 tb N L Z w) (hb : Below w.heap.size w w') {g : Nat} (h1 : w.heap.size ≤ g) (h2 : g < w'.heap.size) : P1 b w0 tb N L (fun k => Z k ∨ k = g) w' := by
  obtain ⟨X', g1, g2, g3, g4⟩ := h
  refine ⟨X', g1.keep hb, g2, fun k hk => ?_, g4.trans (bel_mono hb g1.base_le)⟩
  rcases hk with hk | rfl
  · exact ⟨(g3 k hk).1, Nat.lt_of_lt_of_le (g3 k hk).2 hb.size⟩
  · exact ⟨fun hx => by have := g1.lt _ hx; omega, h2⟩
theorem P1.less (h : P1 b w0 tb N L Z w) {Z' : Nat → Prop} (hZ : ∀ k, Z' k → Z k) : P1 b w0 tb N L Z' w := by
  obtain ⟨X, h1, h2, h3, h4⟩ := h
  exact ⟨X, h1, h2, fun k hk => h3 k (hZ k hk), h4⟩
theorem P1.turn {X : Nat → Prop} (h : TO b w tb N L' X w') (hG : Good N L') (hZ : ∀ k, Z k → ¬ X k ∧ k < w.heap.size) (hb : Below b w0 w) : P1 b w0 tb N L' Z w' ∧ ∀ k, Z k → w'.heap[k]? = w.heap[k]? := by
  obtain ⟨X', h1, h2, h3⟩ := h
  refine ⟨⟨X', h1, hG, fun k hk => ⟨fun hx => ?_, Nat.lt_of_lt_of_le (hZ k hk).2 h2.size⟩, hb.trans (h2.below (Nat.le_refl _))⟩, fun k hk => ?_⟩
  · rcases h3 k hx with h4 | h4
    · exact (hZ k hk).1 h4
    · have := (hZ k hk).2; omega
  · obtain ⟨o, ho⟩ : ∃ o, w.heap[k]? = some o := ⟨_, Array.getElem?_eq_getElem (hZ k hk).2⟩
    rw [ho, h2.block k o ho (hZ k hk).1]
theorem P1.call {f : FuncId} {args : Array Value} {r : Ending} {L' : List Pr} (h : P1 b w0 tb N L Z w) (hG' : Good N L → Good N L') (hc : ∀ X, TW b w tb N L X → Good N L → Calls Try.prog f args w fun e w' => e = r ∧ TO b w tb N L' X w') :
    Calls Try.prog f args w fun e w' => e = r ∧ P1 b w0 tb N L' Z w' ∧ ∀ k, Z k → w'.heap[k]? = w.heap[k]? := by
  obtain ⟨X, h1, h2, h3, h4⟩ := h
  refine (hc X h1 h2).mono ?_
  rintro e w' ⟨rfl, hT⟩
  exact ⟨rfl, P1.turn hT (hG' h2) h3 h4⟩
theorem P1.Spawn (h : P1 b w0 tb N L Z w) (p n : Int) (hp : I64 p) : Calls Try.prog 18 #[.pointer (some ⟨tb, 0, none⟩), .int .i64 p, .int .i64 n] w fun e w' => e = .returned (.tuple #[.int .i64 (spawnR N L p n).1.1, .int .i64 (spawnR N L p n).1.2]) ∧ P1 b w0 tb N (spawnR N L p n).2 Z w' ∧ ∀ k, Z k → w'.heap[k]? = w.heap[k]? :=
  h.call (fun hG => good_spawnR hG p n) fun X hT hG => Spawn_any hT hG p n hp
theorem P1.Exit (h : P1 b w0 tb N L Z w) (p n : Int) (hp : I64 p) : Calls Try.prog 20 #[.pointer (some ⟨tb, 0, none⟩), .int .i64 p, .int .i64 n] w fun e w' => e = .returned (.int .i64 (exitR L p n).1) ∧ P1 b w0 tb N (exitR L p n).2 Z w' ∧ ∀ k, Z k → w'.heap[k]? = w.heap[k]? :=
  h.call (fun hG => good_exitR hG p n) fun X hT hG => Exit_any hT hG p n hp
theorem P1.Wait (h : P1 b w0 tb N L Z w) (p n : Int) (hp : I64 p) : Calls Try.prog 19 #[.pointer (some ⟨tb, 0, none⟩), .int .i64 p, .int .i64 n] w fun e w' => e = .returned (.tuple #[.agg (prow (waitR L p n).1.1).toArray, .int .i64 (waitR L p n).1.2]) ∧ P1 b w0 tb N (waitR L p n).2 Z w' ∧ ∀ k, Z k → w'.heap[k]? = w.heap[k]? :=
  h.call (fun hG => good_waitR hG p n) fun X hT hG => Wait_any hT hG p n hp
theorem P1.Undo (h : P1 b w0 tb N L Z w) (p : Int) (hp : I64 p) : Calls Try.prog 21 #[.pointer (some ⟨tb, 0, none⟩), .int .i64 p] w fun e w' => e = .returned (.int .i64 (undoR L p).1) ∧ P1 b w0 tb N (undoR L p).2 Z w' ∧ ∀ k, Z k → w'.heap[k]? = w.heap[k]? :=
  h.call (fun hG => good_undoR hG p) fun X hT hG => Undo_any hT hG p hp
theorem P1.Nice (h : P1 b w0 tb N L Z w) (p n : Int) (hp : I64 p) : Calls Try.prog 22 #[.pointer (some ⟨tb, 0, none⟩), .int .i64 p, .int .i64 n] w fun e w' => e = .returned (.int .i64 (niceR L p n).1) ∧ P1 b w0 tb N (niceR L p n).2 Z w' ∧ ∀ k, Z k → w'.heap[k]? = w.heap[k]? :=
  h.call (fun hG => good_niceR hG p n) fun X hT hG => Nice_any hT p n hp
theorem P1.Get (h : P1 b w0 tb N L Z w) (p : Int) (hp : I64 p) : Calls Try.prog 17 #[.pointer (some ⟨tb, 0, none⟩), .int .i64 p] w fun e w' => e = .returned (.tuple #[.agg (prow (getR L p).1).toArray, .bool (getR L p).2]) ∧ P1 b w0 tb N L Z w' ∧ ∀ k, Z k → w'.heap[k]? = w.heap[k]? :=
  h.call (fun hG => hG) fun X hT hG => (Get_any hT p hp).mono fun e w' ⟨h1, h2⟩ => ⟨h1, hT.same h2⟩
end
theorem P1.new (N : Nat) (h1 : 1 ≤ N) (h2 : N ≤ 1024) (b : Nat) (w0 w : World) (hb : Below b w0 w) (hbw : b ≤ w.heap.size) : Calls Try.prog 11 #[.int .i64 (N : Int)] w fun e w' => ∃ tb, e = .returned (.tuple #[.pointer (some ⟨tb, 0, none⟩), .int .i64 0]) ∧ P1 b w0 tb N [⟨1, 0, 1, 0, 0⟩] (fun _ => False) w' := by
  refine (New_yes N h1 h2 w).mono ?_
  rintro e w' ⟨tb, X, rfl, hT, hB⟩
  exact ⟨tb, rfl, X, hT.lower hbw, good_new N h1 h2, fun k hk => hk.elim, hb.trans (bel_mono hB hbw)⟩

/-- Both tables. -/
def J (b : Nat) (w0 : World) (tb rb N : Nat) (L1 L2 : List Pr) (Z : Nat → Prop) (w : World) : Prop :=
  ∃ X Y, TW b w tb N L1 X ∧ DW b w rb N L2 Y ∧ (∀ k, X k → ¬ Y k) ∧ (∀ k, Z k → ¬ X k ∧ ¬ Y k ∧ k < w.heap.size) ∧ Good N L1 ∧ Good N L2 ∧ Below b w0 w
section
variable {b : Nat} {w0 w w' : World} {tb rb N : Nat} {L1 L2 : List Pr} {Z : Nat → Prop}
theorem J.toP (h : J b w0 tb rb N L1 L2 Z w) : P1 b w0 tb N L1 Z w := by
  obtain ⟨X, Y, h1, h2, h3, h4, h5, h6, h7⟩ := h
  exact ⟨X, h1, h5, fun k hk => ⟨(h4 k hk).1, (h4 k hk).2.2⟩, h7⟩
theorem J.ble (h : J b w0 tb rb N L1 L2 Z w) : b ≤ w.heap.size := h.toP.ble
theorem J.keep (h : J b w0 tb rb N L1 L2 Z w) (hb : Below w.heap.size w w') : J b w0 tb rb N L1 L2 Z w' ∧ ∀ k, Z k → w'.heap[k]? = w.heap[k]? := by
  obtain ⟨X, Y, h1, h2, h3, h4, h5, h6, h7⟩ := h
  exact ⟨⟨X, Y, h1.keep hb, h2.keep hb, h3, fun k hk => ⟨(h4 k hk).1, (h4 k hk).2.1, Nat.lt_of_lt_of_le (h4 k hk).2.2 hb.size⟩, h5, h6, h7.trans (bel_mono hb h1.base_le)⟩, fun k hk => hb.block k (h4 k hk).2.2⟩
theorem J.alloc (h : J b w0 tb rb N L1 L2 Z w) (o : Obj) : J b w0 tb rb N L1 L2 (fun k => Z k ∨ k = w.heap.size) (w.alloc o) := by
  have hb : Below w.heap.size w (w.alloc o) := (Below.refl _ _).alloc (Nat.le_refl _) _
  obtain ⟨X, Y, h1, h2, h3, h4, h5, h6, h7⟩ := h
  refine ⟨X, Y, h1.keep hb, h2.keep hb, h3, fun k hk => ?_, h5, h6, h7.trans (bel_mono hb h1.base_le)⟩
  rcases hk with hk | rfl
  · exact ⟨(h4 k hk).1, (h4 k hk).2.1, by simp; exact Nat.lt_succ_of_lt (h4 k hk).2.2⟩
  · exact ⟨fun hx => by have := h1.lt _ hx; omega, fun hx => by have := h2.lt _ hx; omega, by simp⟩
theorem J.less (h : J b w0 tb rb N L1 L2 Z w) {Z' : Nat → Prop} (hZ : ∀ k, Z' k → Z k) : J b w0 tb rb N L1 L2 Z' w := by
  obtain ⟨X, Y, h1, h2, h3, h4, h5⟩ := h
  exact ⟨X, Y, h1, h2, h3, fun k hk => h4 k (hZ k hk), h5⟩
theorem kept_of {X : Nat → Prop} (h2 : Keeps b (fun k _ => X k) w w') (hZ : ∀ k, Z k → ¬ X k ∧ k < w.heap.size) : ∀ k, Z k → w'.heap[k]? = w.heap[k]? := fun k hk => by
  obtain ⟨o, ho⟩ : ∃ o, w.heap[k]? = some o := ⟨_, Array.getElem?_eq_getElem (hZ k hk).2⟩
  rw [ho, h2.block k o ho (hZ k hk).1]
theorem J.callP {f : FuncId} {args : Array Value} {r : Ending} {L' : List Pr} (hG' : Good N L1 → Good N L') (hc : ∀ w X, TW b w tb N L1 X → Good N L1 → Calls Try.prog f args w fun e w' => e = r ∧ TO b w tb N L' X w') (h : J b w0 tb rb N L1 L2 Z w) :
    Calls Try.prog f args w fun e w' => e = r ∧ J b w0 tb rb N L' L2 Z w' ∧ ∀ k, Z k → w'.heap[k]? = w.heap[k]? := by
  obtain ⟨X, Y, h1, h2, h3, h4, h5, h6, h7⟩ := h
  refine (hc w X h1 h5).mono ?_
  rintro e w' ⟨rfl, X', k1, k2, k3⟩
  refine ⟨rfl, ⟨X', Y, k1, h2.keeps k2 fun k hk hx => h3 k hx hk, fun k hx hy => ?_, fun k hk => ⟨fun hx => ?_, (h4 k hk).2.1, Nat.lt_of_lt_of_le (h4 k hk).2.2 k2.size⟩, hG' h5, h6, h7.trans (k2.below (Nat.le_refl _))⟩, kept_of k2 fun k hk => ⟨(h4 k hk).1, (h4 k hk).2.2⟩⟩
  · rcases k3 k hx with e | e
    · exact h3 k e hy
    · have := h2.lt k hy; omega
  · rcases k3 k hx with e | e
    · exact (h4 k hk).1 e
    · have := (h4 k hk).2.2; omega
theorem J.callD {f : FuncId} {args : Array Value} {r : Ending} {L' : List Pr} (hG' : Good N L2 → Good N L') (hc : ∀ w Y, DW b w rb N L2 Y → Good N L2 → Calls Try.prog f args w fun e w' => e = r ∧ DO b w rb N L' Y w') (h : J b w0 tb rb N L1 L2 Z w) :
    Calls Try.prog f args w fun e w' => e = r ∧ J b w0 tb rb N L1 L' Z w' ∧ ∀ k, Z k → w'.heap[k]? = w.heap[k]? := by
  obtain ⟨X, Y, h1, h2, h3, h4, h5, h6, h7⟩ := h
  refine (hc w Y h2 h6).mono ?_
  rintro e w' ⟨rfl, Y', k1, k2, k3⟩
  refine ⟨rfl, ⟨X, Y', h1.keeps k2 h3, k1, fun k hx hy => ?_, fun k hk => ⟨(h4 k hk).1, fun hy => ?_, Nat.lt_of_lt_of_le (h4 k hk).2.2 k2.size⟩, h5, hG' h6, h7.trans (k2.below (Nat.le_refl _))⟩, kept_of k2 fun k hk => ⟨(h4 k hk).2.1, (h4 k hk).2.2⟩⟩
  · rcases k3 k hy with e | e
    · exact h3 k hx e
    · have := h1.lt k hx; omega
  · rcases k3 k hy with e | e
    · exact (h4 k hk).2.1 e
    · have := (h4 k hk).2.2; omega
end
theorem kind6 (k : Int) : ((((k.tmod 6) + 6).tmod 6) = 0 ∨ (((k.tmod 6) + 6).tmod 6) = 1 ∨ (((k.tmod 6) + 6).tmod 6) = 2 ∨ (((k.tmod 6) + 6).tmod 6) = 3 ∨ (((k.tmod 6) + 6).tmod 6) = 4 ∨ (((k.tmod 6) + 6).tmod 6) = 5) ∧ -5 ≤ k.tmod 6 ∧ k.tmod 6 ≤ 5 := by
  have h1 := Int.tmod_lt_of_pos k (show (0 : Int) < 6 by decide)
  have h2 : -6 < k.tmod 6 := by
    have := Int.lt_tmod_of_pos k (show (0 : Int) < 6 by decide)
    omega
  obtain ⟨t, ht⟩ : ∃ t, k.tmod 6 = t := ⟨_, rfl⟩
  rw [ht] at h1 h2 ⊢
  have : t = -5 ∨ t = -4 ∨ t = -3 ∨ t = -2 ∨ t = -1 ∨ t = 0 ∨ t = 1 ∨ t = 2 ∨ t = 3 ∨ t = 4 ∨ t = 5 := by omega
  rcases this with rfl | rfl | rfl | rfl | rfl | rfl | rfl | rfl | rfl | rfl | rfl <;> decide
theorem prc_eq (a b c d e : Int) (w : World) : (binOp .eql 43 (.agg #[.int .i64 a, .int .i64 b, .int .i64 c, .int .i64 d, .int .i64 e]) (.agg #[.int .i64 a, .int .i64 b, .int .i64 c, .int .i64 d, .int .i64 e])).run Try.prog w = .ok (.bool true) w := by
  simp [go_sem]
/-- What a call of a kind makes of the processes. -/
def opL (N : Nat) (L : List Pr) (m a c : Int) : List Pr :=
  if m = 0 then (spawnR N L a c).2 else if m = 1 then (exitR L a c).2 else if m = 2 then (waitR L a c).2 else if m = 3 then (undoR L a).2 else if m = 4 then (niceR L a c).2 else L

end PC
end Go.Proofs.Ytahcpimpmedbiaa

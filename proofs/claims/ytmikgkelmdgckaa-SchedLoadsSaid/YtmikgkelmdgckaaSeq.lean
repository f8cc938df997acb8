/- A range over an iterator that gives a list known ahead; the iterator may itself range over another one. Free of any program's numbers. -/
import Derived.Test.YtmikgkelmdgckaaHid
import Derived.RangeFuncNested
import Derived.RangeFuncBound
import Derived.RangeFuncCalls
import Derived.RangeFuncLeaves
import Derived.RangeFuncStops
import Derived.RangeFuncBox
import Derived.Shelf.Abstract
import Derived.Shelf.RegionOpen
import Derived.WalkKit
import Derived.OwnWalkIn
import Derived.TacticsInMore
import Derived.LoopNIn
import Derived.LoopIn
import Derived.Maps.AppendAt
namespace Go.Proofs.Ytmikgkelmdgckaa
open Go.RowKit Go.Shelf
set_option linter.unusedVariables false
set_option linter.unusedSimpArgs false
namespace SQ

/-- The block in which the row of the slice in cell q lies. -/
def rowOf (W : World) (q : Nat) : Option Nat := (W.cell? ⟨q, 0, none⟩).bind Value.ownBlock
theorem rowOf_same {W W' : World} {q : Nat} (h : W'.heap[q]? = W.heap[q]?) : rowOf W' q = rowOf W q := by
  unfold rowOf
  rw [World.cell?_of_block (a := ⟨q, 0, none⟩) h]
def Cells (W : World) (b : Nat) : Prop := ∃ o : Obj, W.heap[b]? = some o ∧ o.isCells = true
theorem Cells.lt {W : World} {b : Nat} (h : Cells W b) : b < W.heap.size := by
  obtain ⟨o, h, _⟩ := h
  exact (Array.getElem?_eq_some_iff.1 h).1
theorem Cells.not {W : World} {b l : Nat} {o : Obj} (h : Cells W b) (hl : W.heap[l]? = some o) (ho : o.isCells = false) : b ≠ l := by
  intro e
  subst e
  obtain ⟨o', h', hc⟩ := h
  rw [hl] at h'
  cases h'
  rw [ho] at hc
  cases hc
theorem Cells.same {W W' : World} {b : Nat} (h : Cells W b) (e : W'.heap[b]? = W.heap[b]?) : Cells W' b := by
  obtain ⟨o, h, hc⟩ := h
  exact ⟨o, e.trans h, hc⟩
/-- Cell q is a cell, and so is its row. -/
structure Rw (q : Nat) (W : World) : Prop where
  box : Cells W q
  row : ∀ g, rowOf W q = some g → Cells W g

/-- All that lay below n is there, but for cell q and its row. -/
structure Kq (n q : Nat) (W W' : World) : Prop where
  le : n ≤ W.heap.size
  size : W.heap.size ≤ W'.heap.size
  block : ∀ k, k < n → k ≠ q → some k ≠ rowOf W q → W'.heap[k]? = W.heap[k]?
  row : ∀ g, rowOf W' q = some g → rowOf W q = some g ∨ n ≤ g
  os : W'.os = W.os
  tape : W'.tape = W.tape
  output : W'.output = W.output
/-- All that was there is there, but for cell q and its row. -/
abbrev Kp (q : Nat) (W W' : World) : Prop := Kq W.heap.size q W W'
section
variable {n q : Nat} {A B C : World}
theorem Kq.refl (q : Nat) {n : Nat} {W : World} (h : n ≤ W.heap.size) : Kq n q W W := ⟨h, Nat.le_refl _, fun _ _ _ _ => rfl, fun _ h => .inl h, rfl, rfl, rfl⟩
theorem Kp.refl (q : Nat) (W : World) : Kp q W W := Kq.refl q (Nat.le_refl _)
theorem Kq.low {m : Nat} (h : Kq n q A B) (hm : m ≤ n) : Kq m q A B :=
  ⟨Nat.le_trans hm h.le, h.size, fun k hk => h.block k (by omega), fun g hg => (h.row g hg).imp_right (fun e => by omega), h.os, h.tape, h.output⟩
theorem Kq.trans (h : Kq n q A B) (k : Kq n q B C) : Kq n q A C :=
  ⟨h.le, Nat.le_trans h.size k.size, fun i hi hq hr => (k.block i hi hq (fun e => by
      rcases h.row i e.symm with e' | e'
      · exact hr e'.symm
      · omega)).trans (h.block i hi hq hr),
    fun g hg => by
      rcases k.row g hg with e | e
      · exact h.row g e
      · exact .inr e,
    k.os.trans h.os, k.tape.trans h.tape, k.output.trans h.output⟩
theorem Kq.then (h : Kq n q A B) (k : Kp q B C) : Kq n q A C := h.trans (k.low (Nat.le_trans h.le h.size))
/-- New blocks. -/
theorem Kq.below (h : Kq n q A B) (hb : Below B.heap.size B C) (hq : q < B.heap.size) : Kq n q A C :=
  h.then ⟨Nat.le_refl _, hb.size, fun k hk _ _ => hb.block k hk, fun g hg => .inl (by rwa [rowOf_same (hb.block q hq)] at hg), hb.os, hb.tape, hb.output⟩
theorem Kq.alloc (h : Kq n q A B) (hq : q < B.heap.size) (o : Obj) : Kq n q A (B.alloc o) := h.below ((Below.refl _ _).alloc (Nat.le_refl _) o) hq
theorem Kq.drew (h : Kq n q A B) (m : Nat) : Kq n q A (B.drewN m) := ⟨h.le, h.size, h.block, h.row, h.os, h.tape, h.output⟩
/-- A store into what is new. -/
theorem Kq.set (h : Kq n q A B) {p : Addr} (hp : n ≤ p.block) (hq : q ≠ p.block) (v : Value) : Kq n q A (B.setCell p v) :=
  ⟨h.le, by simpa [World.setCell] using h.size, fun k hk h1 h2 => (Below.heap_setCell B p v k (by omega)).trans (h.block k hk h1 h2),
    fun g hg => h.row g (by rwa [rowOf_same (Below.heap_setCell B p v q hq)] at hg), h.os, h.tape, h.output⟩
/-- A store into cell q. -/
theorem Kq.setq (h : Kq n q A B) {v u : Value} (hc : B.cell? ⟨q, 0, none⟩ = some u) (hv : ∀ g, v.ownBlock = some g → rowOf A q = some g ∨ n ≤ g) : Kq n q A (B.setCell ⟨q, 0, none⟩ v) :=
  ⟨h.le, by simpa [World.setCell] using h.size, fun k hk h1 h2 => (Below.heap_setCell B ⟨q, 0, none⟩ v k h1).trans (h.block k hk h1 h2),
    fun g hg => by
      unfold rowOf at hg
      rw [World.cell?_setCell_same' _ _ _ (by rw [hc]; rfl)] at hg
      exact hv g hg, h.os, h.tape, h.output⟩
/-- A store into the row, or into what is new. -/
theorem Kq.setr (h : Kq n q A B) {p : Addr} (hp : rowOf A q = some p.block ∨ n ≤ p.block) (hq : q ≠ p.block) (v : Value) : Kq n q A (B.setCell p v) :=
  ⟨h.le, by simpa [World.setCell] using h.size, fun k hk h1 h2 => (Below.heap_setCell B p v k (fun e => by
      rcases hp with hp | hp
      · rw [hp] at h2; exact h2 (by rw [e])
      · omega)).trans (h.block k hk h1 h2),
    fun g hg => h.row g (by rwa [rowOf_same (Below.heap_setCell B p v q hq)] at hg), h.os, h.tape, h.output⟩
/-- The row has grown. -/
theorem Kq.grown (h : Kq n q A B) {row : Option Nat} (hg : B.grownBy C row) (hr : ∀ g, row = some g → rowOf A q = some g ∨ n ≤ g) (hq : some q ≠ row) (hlt : q < B.heap.size) : Kq n q A C :=
  ⟨h.le, Nat.le_trans h.size hg.size, fun k hk h1 h2 => (hg.block k (Nat.lt_of_lt_of_le (Nat.lt_of_lt_of_le hk h.le) h.size) (fun e => by
      rcases hr k e.symm with e' | e'
      · exact h2 e'.symm
      · omega)).trans (h.block k hk h1 h2),
    fun g hg' => h.row g (by rwa [rowOf_same (hg.block q hlt hq)] at hg'), hg.os.trans h.os, hg.tape.trans h.tape, hg.output.trans h.output⟩
theorem Kp.toBelow {m : Nat} (h : Kp q A B) (hn : m ≤ A.heap.size) (hq : m ≤ q) (hr : ∀ g, rowOf A q = some g → m ≤ g) : Below m A B :=
  ⟨h.os, h.tape, h.output, h.size, fun k hk => h.block k (by omega) (by omega) (fun e => by have := hr k e.symm; omega)⟩
end
/-- Block k is neither cell q nor its row. -/
def Sn (q : Nat) (W : World) (k : Nat) : Prop := k < W.heap.size ∧ k ≠ q ∧ some k ≠ rowOf W q
theorem Sn.kp {q : Nat} {W W' : World} {k : Nat} (h : Sn q W k) (hk : Kp q W W') : Sn q W' k ∧ W'.heap[k]? = W.heap[k]? :=
  ⟨⟨Nat.lt_of_lt_of_le h.1 hk.size, h.2.1, fun e => by
    rcases hk.row k e.symm with e' | e'
    · exact h.2.2 e'.symm
    · have := h.1; omega⟩, hk.block k h.1 h.2.1 h.2.2⟩
theorem Sn.cell {q : Nat} {W W' : World} {k o : Nat} {v : Value} (h : Sn q W k) (hk : Kp q W W') (hc : W.cell? ⟨k, o, none⟩ = some v) : W'.cell? ⟨k, o, none⟩ = some v := by
  rw [World.cell?_of_block (a := ⟨k, o, none⟩) (h.kp hk).2]
  exact hc

theorem grownBy_row {W W' : World} {row : Option Nat} {q : Nat} (hr : Rw q W) (hg : W.grownBy W' row) (hrow : ∀ r, row = some r → r ≠ q ∧ some r ≠ rowOf W q) : rowOf W' q = rowOf W q ∧ Rw q W' := by
  have hq := hg.block q hr.box.lt (fun e => (hrow q e.symm).1 rfl)
  have e := rowOf_same hq
  exact ⟨e, hr.box.same hq, fun g hg' => by
    rw [e] at hg'
    exact (hr.row g hg').same (hg.block g (hr.row g hg').lt (fun e' => (hrow g e'.symm).2 hg'.symm))⟩
theorem Rw.far {q : Nat} {W : World} (hr : Rw q W) {l : Nat} {o : Obj} (hl : W.heap[l]? = some o) (ho : o.isCells = false) : l ≠ q ∧ some l ≠ rowOf W q :=
  ⟨fun e => hr.box.not hl ho e.symm, fun e => (hr.row l e.symm).not hl ho rfl⟩
theorem Kp.own {q : Nat} {w W W' : World} {row : Option Nat} (h : Kp q w W) (hr : Rw q W) (hg : W.grownBy W' row) (hrow : ∀ r, row = some r → w.heap.size ≤ r ∧ r ≠ q ∧ some r ≠ rowOf W q) : Kp q w W' :=
  ⟨Nat.le_refl _, Nat.le_trans h.size hg.size, fun k hk h1 h2 => (hg.block k (Nat.lt_of_lt_of_le hk h.size) (fun e => by have := (hrow k e.symm).1; omega)).trans (h.block k hk h1 h2),
    fun g hg' => h.row g (by rwa [(grownBy_row hr hg (fun r e => (hrow r e).2)).1] at hg'), hg.os.trans h.os, hg.tape.trans h.tape, hg.output.trans h.output⟩
theorem Rw.alloc {q : Nat} {w : World} (hr : Rw q w) (o : Obj) : Rw q (w.alloc o) := (grownBy_row hr (World.grownBy_alloc w o none) (fun r e => by cases e)).2
/-- What is said abides new blocks, and a turn of one at or beyond B that is neither cell q nor its row. -/
def OwnS (B q : Nat) (I : Nat → World → Prop) : Prop := ∀ k V V' row, I k V → V.grownBy V' row → (∀ r, row = some r → B ≤ r ∧ r ≠ q ∧ some r ≠ rowOf V q) → I k V'
theorem OwnS.putObj {B q : Nat} {I : Nat → World → Prop} (h : OwnS B q I) {k : Nat} {V : World} {l : Nat} (o' : Obj) (hi : I k V) (hB : B ≤ l) (hl : l ≠ q ∧ some l ≠ rowOf V q) : I k (V.putObj l o') :=
  h k V _ _ hi (grownBy_putObj' V l o') (fun r e => by cases e; exact ⟨hB, hl⟩)
theorem OwnS.alloc {B q : Nat} {I : Nat → World → Prop} (h : OwnS B q I) {k : Nat} {V : World} (o : Obj) (hi : I k V) : I k (V.alloc o) := h k V _ none hi (World.grownBy_alloc V o none) (fun r e => by cases e)
theorem OwnS.set {B q : Nat} {I : Nat → World → Prop} (h : OwnS B q I) {k : Nat} {V : World} {p : Addr} (v : Value) (hi : I k V) (hB : B ≤ p.block) (hl : p.block ≠ q ∧ some p.block ≠ rowOf V q) : I k (V.setCell p v) :=
  h k V _ (some p.block) hi ⟨rfl, rfl, rfl, by simp [World.setCell], fun k hk e => Below.heap_setCell V p v k (fun e' => e (by rw [e']))⟩ (fun r e => by cases e; exact ⟨hB, hl⟩)
theorem OwnS.later {B B' q : Nat} {I : Nat → World → Prop} (h : OwnS B q I) (hB : B ≤ B') : OwnS B' q I := fun k V V' row hi hg hr => h k V V' row hi hg (fun r e => ⟨Nat.le_trans hB (hr r e).1, (hr r e).2⟩)

variable {P : Program}
/-- The iterator g of what it has captured gives the list xs, as long as more is wanted. It: what it reads. -/
def Gives {α : Type} (P : Program) (g : Nat) (lb : Array Value) (encs : α → Array Value) (q : Nat) (It : World → Prop) (xs : List α) : Prop :=
  ∀ (l : Nat) (J Jx : Nat → World → Prop) (W : World), It W → OwnS W.heap.size q J → OwnS W.heap.size q Jx → (∀ k V, J k V → Rw q V) → (∀ k V, Jx k V → Rw q V) →
    (∀ k x V, xs[k]? = some x → J k V → YieldAt Fence.wide 0 P l (encs x) V fun e V' =>
      (e = .returned (.bool true) ∧ J (k + 1) V' ∧ Kp q V V') ∨ (e = .returned (.bool false) ∧ Jx k V' ∧ KeepsFrom W.heap.size V V')) →
    J 0 W →
    CallsIn Fence.wide 0 P g (#[.func (.yield l) #[] #[]] ++ lb) W fun e W' => (∃ v, e = .returned v) ∧ (J xs.length W' ∨ ∃ k, k < xs.length ∧ Jx k W')

theorem Kp.keeps {q : Nat} {W W' : World} (h : Kp q W W') (hr : Rw q W) (B : Nat) : KeepsFrom B W W' :=
  ⟨h.size, fun k o _ hk ho => (h.block k (Array.getElem?_eq_some_iff.1 hk).1 (fun e => hr.box.not hk ho e.symm) (fun e => (hr.row k e.symm).not hk ho rfl)).trans hk⟩

/-- How a round's body may be left. -/
def seqPost (B n q : Nat) (I : Nat → World → Prop) (Ix : Code → Nat → World → Prop) (k : Nat) (W : World) : Exit → Act → World → Prop
  | .normal, _, W' => Kq n q W W' ∧ I (k + 1) W'
  | .ret, _, W' => KeepsFrom B W W' ∧ Ix .ret k W'
  | .exit id, _, W' => KeepsFrom B W W' ∧ Ix (.exit id) k W'
  | .goto t, _, W' => KeepsFrom B W W' ∧ Ix (.goto t) k W'
  | .panic _, _, _ => False
  | .outgrown, _, _ => False

theorem range_gives {α : Type} {g : Operand} {ps : Array Tmp} {assign body : Code} {Q : Exit → Act → World → Prop} {a : Act} {w : World}
    {gf : Nat} {lb : Array Value} (hg : a.eval g = .func (.func gf) #[] lb) (eg : ∀ args w, (callFunc gf args).run P w = .ok (.enter gf args) w)
    {encs : α → Array Value} {q : Nat} {It : World → Prop} {xs : List α} (hseq : Gives P gf lb encs q It xs) (hIt : It w) (hItk : ∀ V V', Rw q V → Kp q V V' → It V → It V') (hps : ∀ x, (encs x).size = ps.size)
    (I : Nat → World → Prop) (Ix : Code → Nat → World → Prop) (hI : OwnS w.heap.size q I) (hIx : ∀ c, OwnS w.heap.size q (Ix c)) (hRw : ∀ k V, I k V → Rw q V) (hRx : ∀ c k V, Ix c k V → Rw q V) (h0 : I 0 w)
    (Ax : Nat → α → Act → World → Prop) (hAx : ∀ n x a', OwnFrom w.heap.size (fun (_ : Unit) W => Ax n x a' W))
    (hassign : ∀ (l k : Nat) (x : α) (W : World) (K : Act → World → Prop), w.heap.size ≤ W.heap.size → I k W → (∀ a' W', Kp q W W' → I k W' → Ax W.heap.size x a' W' → K a' W') →
      assign.wpIn (Fence.wide.inRound l) 0 P (Exit.then K (fun _ _ _ => False)) { tmps := (ps.zip (encs x)).foldl (fun t (p, v) => t.setIfInBounds p v) a.tmps, defers := [] } W)
    (hbody : ∀ (l k : Nat) (x : α) (a' : Act) (n : Nat) (W : World), xs[k]? = some x → w.heap.size ≤ n → n ≤ W.heap.size → I k W → Ax n x a' W → body.wpIn (Fence.wide.inRound l) 0 P (seqPost w.heap.size n q I Ix k W) a' W)
    (hdone : ∀ (D : Nat) (W : World), w.heap.size ≤ D → I xs.length W → Kp q w W → W.heap[D]? = some (.deferred (some [])) → Q .normal { a with defers := { target := .collected D, args := #[] } :: a.defers } W)
    (hstop : ∀ (D : Nat) (c : Code) (k : Nat) (W : World), w.heap.size ≤ D → k < xs.length → Ix c k W → W.heap[D]? = some (.deferred (some [])) → c.wpIn Fence.wide 0 P Q { a with defers := { target := .collected D, args := #[] } :: a.defers } W) :
    (Code.rangeFunc g ps assign body).wpIn Fence.wide 0 P Q a w := by
  refine wpIn_rangeFunc (F := Fence.wide) (n := 0) ?_
  intro fn _
  obtain ⟨rec, hrec⟩ : ∃ rec : LoopState → Option Code → Loop, rec = fun st pe => { state := st, pending := pe, fn, tmps := a.tmps, params := ps, assign, body, defers := w.heap.size } := ⟨_, rfl⟩
  obtain ⟨W1, hW1⟩ : ∃ W1, (w.alloc (.deferred (some []))).alloc (.loop (rec .ready none)) = W1 := ⟨_, rfl⟩
  have hbel : Below w.heap.size w W1 := by rw [← hW1]; exact ((Below.refl _ w).alloc (Nat.le_refl _) _).alloc (by simp) _
  have hsz : W1.heap.size = w.heap.size + 2 := by rw [← hW1]; simp
  have hL1 : W1.heap[w.heap.size + 1]? = some (.loop (rec .ready none)) := by
    rw [← hW1]; have := World.alloc_heap_new (w.alloc (.deferred (some []))) (.loop (rec .ready none)); rwa [World.size_alloc] at this
  have hK1 : W1.heap[w.heap.size]? = some (.deferred (some [])) := by
    rw [← hW1]; exact (Below.heap_alloc _ _ _ (by simp)).trans (World.alloc_heap_new w _)
  have hkp1 : Kp q w W1 := (Kp.refl q w).below hbel (hRw 0 w h0).box.lt
  have hI1 : I 0 W1 := by rw [← hW1]; exact hI.alloc _ (hI.alloc _ h0)
  -- What the iterator's contract is told of
  let J : Nat → World → Prop := fun k V => I k V ∧ Kp q w V ∧ V.heap[w.heap.size + 1]? = some (.loop (rec .ready none)) ∧ V.heap[w.heap.size]? = some (.deferred (some []))
  let Jx : Nat → World → Prop := fun k V => ∃ c, Ix c k V ∧ V.heap[w.heap.size + 1]? = some (.loop (rec .done (some c))) ∧ V.heap[w.heap.size]? = some (.deferred (some []))
  have keepN : ∀ {V V' : World} {row : Option Nat} {b : Nat} {o : Obj}, V.heap[b]? = some o → b < w.heap.size + 2 → V.grownBy V' row → (∀ r, row = some r → W1.heap.size ≤ r ∧ r ≠ q ∧ some r ≠ rowOf V q) → V'.heap[b]? = some o :=
    fun {V V' row b o} hb hlt hg hr => (hg.block b (Array.getElem?_eq_some_iff.1 hb).1 (fun e => by have := (hr b e.symm).1; omega)).trans hb
  have hlow : ∀ {V : World} {row : Option Nat}, (∀ r, row = some r → W1.heap.size ≤ r ∧ r ≠ q ∧ some r ≠ rowOf V q) → (∀ r, row = some r → w.heap.size ≤ r ∧ r ≠ q ∧ some r ≠ rowOf V q) :=
    fun hr r e => ⟨by have := (hr r e).1; omega, (hr r e).2⟩
  have hJ : OwnS W1.heap.size q J := fun k V V' row hs hg hr => by
    obtain ⟨h1, h2, h3, h4⟩ := hs
    exact ⟨hI k V V' row h1 hg (hlow hr), h2.own (hRw k V h1) hg (hlow hr), keepN h3 (by omega) hg hr, keepN h4 (by omega) hg hr⟩
  have hJx : OwnS W1.heap.size q Jx := fun k V V' row hs hg hr => by
    obtain ⟨c, h1, h3, h4⟩ := hs
    exact ⟨c, hIx c k V V' row h1 hg (hlow hr), keepN h3 (by omega) hg hr, keepN h4 (by omega) hg hr⟩
  refine ⟨w.heap.size + 1, [{ target := .collected w.heap.size, args := #[] }], W1, { target := .fn (.func gf) lb, args := #[.func (.yield (w.heap.size + 1)) #[] #[]] }, W1, gf,
    #[.func (.yield (w.heap.size + 1)) #[] #[]] ++ lb, W1, ?_, ?_, fun _ _ => trivial, ?_, fun h => by simp [Fence.wide] at h, ?_⟩
  · rw [← hW1, hrec]; exact run_enterLoop_outer _ _ _ _ _
  · simp only [resolve, hg]
    simp [go_sem]
  · simp [invoke, go_sem, eg]
  · refine (hseq (w.heap.size + 1) J Jx W1 (hItk w W1 (hRw 0 w h0) hkp1 hIt) hJ hJx (fun k V h => hRw k V h.1) (fun k V ⟨c, h, _⟩ => hRx c k V h) ?_ ⟨hI1, hkp1, hL1, hK1⟩).mono ?_
    · rintro k x V hx ⟨hi, hkw, hl, hd⟩
      have hrv := hRw k V hi
      have hlt : w.heap.size + 1 < V.heap.size := (Array.getElem?_eq_some_iff.1 hl).1
      have hy := run_yield (P := P) (args := encs x) hl (by rw [hrec]; exact hps x)
      rw [hrec] at hy
      refine ⟨fn, _, assign, body, hy, roundIn_of_wpIn trivial (hassign _ k x V _ (by omega) hi ?_)⟩
      clear hy
      intro a' Va hkp hia hax
      -- the assignment may have laid a block
      have far : ∀ {b : Nat} {o : Obj}, V.heap[b]? = some o → o.isCells = false → Va.heap[b]? = some o := fun {b o} hb ho =>
        (hkp.block b (Array.getElem?_eq_some_iff.1 hb).1 (fun e => hrv.box.not hb ho e.symm) (fun e => (hrv.row b e.symm).not hb ho rfl)).trans hb
      have hla := far hl rfl
      have hda := far hd rfl
      have hlta : w.heap.size + 1 < Va.heap.size := (Array.getElem?_eq_some_iff.1 hla).1
      refine ⟨_, run_beginRound hla (by rw [hrec]), ?_⟩
      obtain ⟨V2, hV2⟩ : ∃ V2, Va.putObj (w.heap.size + 1) (.loop { rec .ready none with state := .busy }) = V2 := ⟨_, rfl⟩
      have hfa := (hRw k Va hia).far hla rfl
      have hl2 : V2.heap[w.heap.size + 1]? = some (.loop { rec .ready none with state := .busy }) := by rw [← hV2]; exact World.putObj_heap_same hlta
      have hd2 : V2.heap[w.heap.size]? = some (.deferred (some [])) := by rw [← hV2]; exact (World.putObj_heap_other (by omega)).trans hda
      have hi2 : I k V2 := by rw [← hV2]; exact hI.putObj _ hia (by omega) hfa
      have hax2 : Ax V.heap.size x a' V2 := by rw [← hV2]; exact (hAx _ x a').putObj (s := ()) _ hax (by omega) hla rfl
      have hkw2 : Kp q w V2 := by rw [← hV2]; exact Kp.own (hkw.then hkp) (hRw k Va hia) (grownBy_putObj' Va _ _) (fun r e => by cases e; exact ⟨by omega, hfa⟩)
      have hother : ∀ b, b ≠ w.heap.size + 1 → V2.heap[b]? = Va.heap[b]? := fun b hb => by rw [← hV2]; exact World.putObj_heap_other hb
      have hsz2 : V2.heap.size = Va.heap.size := by rw [← hV2]; simp [World.putObj]
      have e2 : V2.os = Va.os ∧ V2.tape = Va.tape ∧ V2.output = Va.output := by rw [← hV2]; exact ⟨rfl, rfl, rfl⟩
      rw [show Va.putObj (w.heap.size + 1) (.loop { rec .ready none with state := .busy }) = V2 from hV2]
      clear hV2
      have hra := hRw k Va hia
      have hr2 := hRw k V2 hi2
      have hrow2 : rowOf V2 q = rowOf Va q := rowOf_same (hother q (fun e => hra.box.not hla rfl e))
      refine wpIn_mono (hbody _ k x a' V.heap.size V2 hx (by omega) (by have := hkp.size; omega) hi2 hax2) ?_
      -- how a round ends
      have fin : ∀ (jump : Option Code) (V3 : World), V3.heap[w.heap.size + 1]? = some (.loop { rec .ready none with state := .busy }) → V3.heap[w.heap.size]? = some (.deferred (some [])) →
          (Instr.endRound (w.heap.size + 1) jump).run P V3 = .ok (.bool jump.isNone) (V3.putObj (w.heap.size + 1) (.loop (rec (if jump.isNone then .ready else .done) jump))) ∧
          (V3.heap[w.heap.size + 1]? = some (.loop { rec .ready none with state := .busy })) ∧
          (V3.putObj (w.heap.size + 1) (.loop (rec (if jump.isNone then .ready else .done) jump))).heap[w.heap.size + 1]? = some (.loop (rec (if jump.isNone then .ready else .done) jump)) ∧
          (V3.putObj (w.heap.size + 1) (.loop (rec (if jump.isNone then .ready else .done) jump))).heap[w.heap.size]? = some (.deferred (some [])) := fun jump V3 hl3 hd3 => by
        have := run_endRound (P := P) jump hl3
        rw [hrec] at this ⊢
        exact ⟨this, by rw [hrec] at hl3; exact hl3, World.putObj_heap_same (Array.getElem?_eq_some_iff.1 hl3).1, (World.putObj_heap_other (by omega)).trans hd3⟩
      -- what a round that has left keeps
      have left : ∀ (V3 : World) (o' : Obj), KeepsFrom w.heap.size V2 V3 → KeepsFrom W1.heap.size V (V3.putObj (w.heap.size + 1) o') := fun V3 o' hk3 =>
        ⟨by have h1 := hk3.size; have h2 := hkp.size; simp only [World.putObj, Array.size_setIfInBounds]; omega, fun b o hb hV ho => by
          have h1 := (hkp.keeps hrv 0).same b o (Nat.zero_le _) hV ho
          have h2 : V2.heap[b]? = some o := (hother b (by omega)).trans h1
          exact (World.putObj_heap_other (by omega)).trans (hk3.same b o (by omega) h2 ho)⟩
      -- what a whole round keeps
      have whole : ∀ (V3 : World), Kq V.heap.size q V2 V3 → Rw q V3 → V3.heap[w.heap.size + 1]? = some (.loop { rec .ready none with state := .busy }) → Kp q V (V3.putObj (w.heap.size + 1) (.loop (rec .ready none))) := fun V3 hk3 hr3 hl3 => by
        have hs3 : (V3.putObj (w.heap.size + 1) (.loop (rec .ready none))).heap.size = V3.heap.size := by simp [World.putObj]
        have ho3 : ∀ b, b ≠ w.heap.size + 1 → (V3.putObj (w.heap.size + 1) (.loop (rec .ready none))).heap[b]? = V3.heap[b]? := fun b hb => World.putObj_heap_other hb
        have hrow3 : rowOf (V3.putObj (w.heap.size + 1) (.loop (rec .ready none))) q = rowOf V3 q := rowOf_same (ho3 q (fun e => hr3.box.not hl3 rfl e))
        refine hkp.trans ⟨hkp.size, by have := hk3.size; omega, fun b hb h1 h2 => ?_, fun g hg => ?_, ?_, ?_, ?_⟩
        · by_cases e : b = w.heap.size + 1
          · subst e
            rw [hla]
            exact World.putObj_heap_same (Array.getElem?_eq_some_iff.1 hl3).1
          · rw [ho3 b e, hk3.block b hb h1 (by rw [hrow2]; exact h2), hother b e]
        · rw [hrow3] at hg
          rcases hk3.row g hg with e | e
          · left; rw [← hrow2]; exact e
          · right; omega
        · exact hk3.os.trans e2.1
        · exact hk3.tape.trans e2.2.1
        · exact hk3.output.trans e2.2.2
      rintro e a3 V3 hp
      cases e with
      | normal =>
        obtain ⟨hk3, hi3⟩ := hp
        have hr3 := hRw _ _ hi3
        have far3 : ∀ {b : Nat} {o : Obj}, b < V.heap.size → V2.heap[b]? = some o → o.isCells = false → V3.heap[b]? = some o := fun {b o} hlt' hb ho =>
          (hk3.block b hlt' (fun e => hr2.box.not hb ho e.symm) (fun e => (hr2.row b e.symm).not hb ho rfl)).trans hb
        have hl3 := far3 (by omega) hl2 rfl
        have hd3 := far3 (by omega) hd2 rfl
        obtain ⟨hr, hl3, hl4, hd4⟩ := fin none V3 hl3 hd3
        have hw := whole V3 hk3 hr3 hl3
        exact ⟨_, _, hr, .inl ⟨rfl, ⟨hI.putObj _ hi3 (by omega) (hr3.far hl3 rfl), hkw.then hw, hl4, hd4⟩, hw⟩⟩
      | ret =>
        obtain ⟨hk3, hi3⟩ := hp
        obtain ⟨hr, hl3, hl4, hd4⟩ := fin (some .ret) V3 (hk3.same _ _ (by omega) hl2 rfl) (hk3.same _ _ (Nat.le_refl _) hd2 rfl)
        exact ⟨_, _, hr, .inr ⟨rfl, ⟨.ret, (hIx _).putObj _ hi3 (by omega) ((hRx _ _ _ hi3).far hl3 rfl), hl4, hd4⟩, left V3 _ hk3⟩⟩
      | exit id =>
        obtain ⟨hk3, hi3⟩ := hp
        obtain ⟨hr, hl3, hl4, hd4⟩ := fin (some (.exit id)) V3 (hk3.same _ _ (by omega) hl2 rfl) (hk3.same _ _ (Nat.le_refl _) hd2 rfl)
        exact ⟨_, _, hr, .inr ⟨rfl, ⟨.exit id, (hIx _).putObj _ hi3 (by omega) ((hRx _ _ _ hi3).far hl3 rfl), hl4, hd4⟩, left V3 _ hk3⟩⟩
      | goto t =>
        obtain ⟨hk3, hi3⟩ := hp
        obtain ⟨hr, hl3, hl4, hd4⟩ := fin (some (.goto t)) V3 (hk3.same _ _ (by omega) hl2 rfl) (hk3.same _ _ (Nat.le_refl _) hd2 rfl)
        exact ⟨_, _, hr, .inr ⟨rfl, ⟨.goto t, (hIx _).putObj _ hi3 (by omega) ((hRx _ _ _ hi3).far hl3 rfl), hl4, hd4⟩, left V3 _ hk3⟩⟩
      | panic ch => exact hp.elim
      | outgrown => exact hp.elim
    · -- behind the iterator
      rintro e V2 ⟨⟨v, rfl⟩, (⟨hi, hkw, hl, hd⟩ | ⟨k, hk, c, hi, hl, hd⟩)⟩
      · exact ⟨none, _, by have := run_endLoop (P := P) hl (by rw [hrec]; simp); rw [hrec] at this; exact this, hdone _ _ (Nat.le_refl _) (hI.putObj _ hi (by omega) ((hRw _ _ hi).far hl rfl)) (hkw.own (hRw _ _ hi) (grownBy_putObj' _ _ _) (fun r e => by cases e; exact ⟨by omega, (hRw _ _ hi).far hl rfl⟩)) ((World.putObj_heap_other (by omega)).trans hd)⟩
      · exact ⟨some c, _, by have := run_endLoop (P := P) hl (by rw [hrec]; simp); rw [hrec] at this; exact this, hstop _ c k _ (Nat.le_refl _) hk ((hIx c).putObj _ hi (by omega) ((hRx c _ _ hi).far hl rfl)) ((World.putObj_heap_other (by omega)).trans hd)⟩
end SQ
end Go.Proofs.Ytmikgkelmdgckaa

/- Blocks of memory known whole, what a call leaves that writes into two of them, and how a pool lies in memory: the program's own, and the document's. -/
import Derived.Test.YtpmpmjebhdohcaaWord
import Derived.Test.YtpmpmjebhdohcaaFrameMath
import Derived.WalkSmall
import Derived.Laws.OwnMore
namespace Go.Proofs.Ytpmpmjebhdohcaa
open Go.ChangeShapes Go.WideShapes Go.ChangeAt Go.RowKit
set_option linter.unusedVariables false
set_option linter.unusedSimpArgs false

/-- Block g is these cells. -/
def Blk (w : World) (g : Nat) (e : TypeId) (l : List Value) : Prop := w.heap[g]? = some (.cells l.toArray e (0, 0))

section
variable {w w' : World} {g : Nat} {e : TypeId} {l : List Value}
theorem Blk.cell (h : Blk w g e l) {j : Nat} {v : Value} (hj : l[j]? = some v) : w.cell? ⟨g, j, none⟩ = some v := by
  rw [cell_of_row w g j _ _ _ h]; simpa using hj
theorem Blk.fz (h : Blk w g e l) (i : Nat) : w.frozen? ⟨g, i, none⟩ = false := by unfold Blk at h; simp [World.frozen?, h]
theorem Blk.lt (h : Blk w g e l) : g < w.heap.size := by
  rcases Nat.lt_or_ge g w.heap.size with hlt | hge
  · exact hlt
  · unfold Blk at h; rw [Array.getElem?_eq_none hge] at h; cases h
theorem Blk.below {B : Nat} (h : Blk w g e l) (hb : Below B w w') (hg : g < B) : Blk w' g e l := (hb.block g hg).trans h
theorem Blk.keep (h : Blk w g e l) (hb : Below w.heap.size w w') : Blk w' g e l := h.below hb h.lt
theorem Blk.alloc (h : Blk w g e l) (o : Obj) : Blk (w.alloc o) g e l := (Below.heap_alloc w o g h.lt).trans h
theorem Blk.grown {row : Option Nat} (h : Blk w g e l) (hb : w.grownBy w' row) (hg : some g ≠ row) : Blk w' g e l := (hb.block g h.lt hg).trans h
theorem Blk.far (h : Blk w g e l) {p : Addr} (hp : g ≠ p.block) (u : Value) : Blk (w.setCell p u) g e l := (Below.heap_setCell w p u g hp).trans h
theorem Blk.set (h : Blk w g e l) (j : Nat) (u : Value) : Blk (w.setCell ⟨g, j, none⟩ u) g e (l.set j u) := by
  unfold Blk at h ⊢
  rw [heap_setCell_same w g j _ _ u h]
  simp
theorem Blk.own {base size n cap : Nat} (h : w.ownsRow base e size (.slice (some ⟨g, 0, none⟩) n n) n l) : Blk w g e l := by
  rcases h.2 with ⟨h', _⟩ | ⟨g', cap', cur, h', _, hg, _, _, hcs, htake⟩
  · simp at h'
  · simp only [Value.slice.injEq, Option.some.injEq, Addr.mk.injEq, and_true, true_and] at h'
    obtain ⟨rfl, rfl⟩ := h'
    rw [List.take_of_length_le (by simp; omega)] at htake
    unfold Blk
    rw [hg, ← htake]
end
theorem Blk.new (w : World) (e : TypeId) (l : List Value) {x : Nat} (hx : x = w.heap.size) : Blk (w.alloc (.cells l.toArray e)) x e l := by subst hx; exact heap_alloc_new w _

/-- All that was there is there, but for blocks g and b. -/
structure Two (g b : Nat) (w w' : World) : Prop where
  os : w'.os = w.os
  tape : w'.tape = w.tape
  output : w'.output = w.output
  size : w.heap.size ≤ w'.heap.size
  block : ∀ k, k < w.heap.size → k ≠ g → k ≠ b → w'.heap[k]? = w.heap[k]?

section
variable {w w' w2 : World} {g b : Nat}
theorem Two.of (h : Below w.heap.size w w') : Two g b w w' := ⟨h.os, h.tape, h.output, h.size, fun k hk _ _ => h.block k hk⟩
theorem Two.refl (g b : Nat) (w : World) : Two g b w w := Two.of (Below.refl _ _)
theorem Two.trans (h : Two g b w w') (k : Two g b w' w2) : Two g b w w2 :=
  ⟨k.os.trans h.os, k.tape.trans h.tape, k.output.trans h.output, Nat.le_trans h.size k.size, fun i hi h1 h2 => (k.block i (Nat.lt_of_lt_of_le hi h.size) h1 h2).trans (h.block i hi h1 h2)⟩
theorem Two.setCell (h : Two g b w w') {p : Addr} (hp : p.block = g ∨ p.block = b) (u : Value) : Two g b w (w'.setCell p u) :=
  h.trans ⟨rfl, rfl, rfl, by simp [World.setCell], fun k hk h1 h2 => Below.heap_setCell _ _ _ _ (by rcases hp with hp | hp <;> omega)⟩
theorem Two.drew (h : Two g b w w') (n : Nat) : Two g b w (w'.drewN n) := ⟨h.os, h.tape, h.output, h.size, h.block⟩
theorem Two.wide (h : Two b b w w') : Two g b w w' := ⟨h.os, h.tape, h.output, h.size, fun k hk _ h2 => h.block k hk h2 h2⟩
theorem Two.below {B : Nat} (h : Two g b w w') (hB : B ≤ w.heap.size) (hg : B ≤ g) (hb : B ≤ b) : Below B w w' := ⟨h.os, h.tape, h.output, h.size, fun k hk => h.block k (by omega) (by omega) (by omega)⟩
theorem Blk.two {x : Nat} {e : TypeId} {l : List Value} (h : Blk w x e l) (t : Two g b w w') (h1 : x ≠ g) (h2 : x ≠ b) : Blk w' x e l := (t.block x h.lt h1 h2).trans h
end

/-- Words of marks, as cells. -/
def wrow (T : Nat → Bool) (m : Nat) : List Value := (List.range m).map fun q => .int .u64 ((FM.wd T q : Nat) : Int)
theorem wrow_get (T : Nat → Bool) (m q : Nat) (hq : q < m) : (wrow T m)[q]? = some (.int .u64 ((FM.wd T q : Nat) : Int)) := by simp [wrow, hq]
theorem wrow_set (T : Nat → Bool) (m q r W : Nat) (h : Bool) (hq : q < m) (hr : r + W ≤ 64) :
    (wrow T m).set q (.int .u64 ((WM.put (FM.wd T q) r W (FM.want h W) : Nat) : Int)) = wrow (FM.st T (64 * q + r) W h) m := by
  apply List.ext_getElem?
  intro j
  rw [List.getElem?_set]
  by_cases hj : j < m
  · rw [wrow_get (FM.st T (64 * q + r) W h) m j hj]
    by_cases e : q = j
    · subst e
      rw [if_pos rfl, if_pos (by simpa [wrow] using hq), FM.put_wd _ _ _ _ _ hr]
    · rw [if_neg e, wrow_get _ _ _ hj, FM.wd_other _ _ _ _ _ _ hr (by omega)]
  · have e1 : (wrow (FM.st T (64 * q + r) W h) m)[j]? = none := by simp [wrow]; omega
    rw [e1, if_neg (by omega)]
    simp [wrow]; omega
theorem wrow_congr (T U : Nat → Bool) (m : Nat) (h : ∀ x, x < 64 * m → T x = U x) : wrow T m = wrow U m := by
  unfold wrow
  refine List.map_congr_left fun q hq => ?_
  have := List.mem_range.1 hq
  rw [FM.wd_congr T U q fun j hj => h _ (by omega)]

/-- A pool of the program's: n frames, of which those are taken that T says; m words. -/
structure PL (w : World) (g b n m : Nat) (T : Nat → Bool) : Prop where
  box : ∃ lf : Nat, lf + FM.cnt T 0 n = n ∧ Blk w g 52 [.slice (some ⟨b, 0, none⟩) m m, .int .i64 n, .int .i64 lf]
  row : Blk w b 31 (wrow T m)
  ne : g ≠ b
  n1 : 1 ≤ n
  n2 : n ≤ 65536
  nm : n ≤ 64 * m
  m8 : m % 8 = 0
  m2 : m ≤ 1024
  pad : ∀ x, n ≤ x → x < 64 * m → T x = true

/-- A pool of the document's. -/
def brow (T : Nat → Bool) (n : Nat) : List Value := (List.range n).map fun x => .bool (T x)
theorem brow_get (T : Nat → Bool) (n x : Nat) (hx : x < n) : (brow T n)[x]? = some (.bool (T x)) := by simp [brow, hx]
theorem brow_set (T : Nat → Bool) (n x : Nat) (h : Bool) (hx : x < n) : (brow T n).set x (.bool h) = brow (FM.st T x 1 h) n := by
  apply List.ext_getElem?
  intro j
  rw [List.getElem?_set]
  by_cases hj : j < n
  · rw [brow_get (FM.st T x 1 h) n j hj]
    by_cases e : x = j
    · subst e
      rw [if_pos rfl, if_pos (by simpa [brow] using hx)]
      unfold FM.st; rw [if_pos (by omega)]
    · rw [if_neg e, brow_get _ _ _ hj, FM.st_out _ _ _ _ _ (by omega)]
  · have e1 : (brow (FM.st T x 1 h) n)[j]? = none := by simp [brow]; omega
    rw [e1, if_neg (by omega)]
    simp [brow]; omega
theorem brow_congr (T U : Nat → Bool) (n : Nat) (h : ∀ x, x < n → T x = U x) : brow T n = brow U n := by
  unfold brow
  exact List.map_congr_left fun x hx => by rw [h x (List.mem_range.1 hx)]
structure RL (w : World) (g b n : Nat) (T : Nat → Bool) : Prop where
  box : Blk w g 46 [.slice (some ⟨b, 0, none⟩) n n]
  row : Blk w b 4 (brow T n)
  ne : g ≠ b
  n1 : 1 ≤ n
  n2 : n ≤ 65536

section
variable {w w' : World} {g b n m g2 b2 : Nat} {T : Nat → Bool}
theorem PL.keep (h : PL w g b n m T) (hb : Below w.heap.size w w') : PL w' g b n m T := ⟨h.box.elim fun lf e => ⟨lf, e.1, e.2.keep hb⟩, h.row.keep hb, h.ne, h.n1, h.n2, h.nm, h.m8, h.m2, h.pad⟩
theorem PL.two (h : PL w g b n m T) (t : Two g2 b2 w w') (h1 : g ≠ g2) (h2 : g ≠ b2) (h3 : b ≠ g2) (h4 : b ≠ b2) : PL w' g b n m T := ⟨h.box.elim fun lf e => ⟨lf, e.1, e.2.two t h1 h2⟩, h.row.two t h3 h4, h.ne, h.n1, h.n2, h.nm, h.m8, h.m2, h.pad⟩
theorem RL.keep (h : RL w g b n T) (hb : Below w.heap.size w w') : RL w' g b n T := ⟨h.box.keep hb, h.row.keep hb, h.ne, h.n1, h.n2⟩
theorem RL.two (h : RL w g b n T) (t : Two g2 b2 w w') (h1 : g ≠ g2) (h2 : g ≠ b2) (h3 : b ≠ g2) (h4 : b ≠ b2) : RL w' g b n T := ⟨h.box.two t h1 h2, h.row.two t h3 h4, h.ne, h.n1, h.n2⟩
/-- The facts that a walk over a pool wants. -/
theorem PL.gives (h : PL w g b n m T) : ∃ lf : Nat, lf + FM.cnt T 0 n = n ∧ w.cell? ⟨g, 0, none⟩ = some (.slice (some ⟨b, 0, none⟩) m m) ∧ w.cell? ⟨g, 1, none⟩ = some (.int .i64 n) ∧ w.cell? ⟨g, 2, none⟩ = some (.int .i64 lf) ∧
    (∀ i, w.frozen? ⟨g, i, none⟩ = false) := by
  obtain ⟨lf, e, hb⟩ := h.box
  exact ⟨lf, e, hb.cell rfl, hb.cell rfl, hb.cell rfl, hb.fz⟩
end
end Go.Proofs.Ytpmpmjebhdohcaa

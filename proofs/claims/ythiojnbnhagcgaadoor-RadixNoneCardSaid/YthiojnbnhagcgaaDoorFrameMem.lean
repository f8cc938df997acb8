/- How a pool lies in memory: the program's own, and the document's. -/
import Derived.Test.YthiojnbnhagcgaaDoorBlk
import Derived.Test.YthiojnbnhagcgaaDoorWord
import Derived.Test.YthiojnbnhagcgaaDoorFrameMath
namespace Go.Proofs.YthiojnbnhagcgaaDoor
open Go.ChangeShapes Go.WideShapes Go.ChangeAt Go.RowKit
set_option linter.unusedVariables false
set_option linter.unusedSimpArgs false

/-- Words of marks, as cells. -/
def wrow (T : Nat → Bool) (m : Nat) : List Value := (List.range m).map fun q => .int .u64 ((FR.wd T q : Nat) : Int)
theorem wrow_get (T : Nat → Bool) (m q : Nat) (hq : q < m) : (wrow T m)[q]? = some (.int .u64 ((FR.wd T q : Nat) : Int)) := by simp [wrow, hq]
theorem wrow_set (T : Nat → Bool) (m q r W : Nat) (h : Bool) (hq : q < m) (hr : r + W ≤ 64) :
    (wrow T m).set q (.int .u64 ((WM.put (FR.wd T q) r W (FR.want h W) : Nat) : Int)) = wrow (FR.st T (64 * q + r) W h) m := by
  apply List.ext_getElem?
  intro j
  rw [List.getElem?_set]
  by_cases hj : j < m
  · rw [wrow_get (FR.st T (64 * q + r) W h) m j hj]
    by_cases e : q = j
    · subst e
      rw [if_pos rfl, if_pos (by simpa [wrow] using hq), FR.put_wd _ _ _ _ _ hr]
    · rw [if_neg e, wrow_get _ _ _ hj, FR.wd_other _ _ _ _ _ _ hr (by omega)]
  · have e1 : (wrow (FR.st T (64 * q + r) W h) m)[j]? = none := by simp [wrow]; omega
    rw [e1, if_neg (by omega)]
    simp [wrow]; omega
theorem wrow_congr (T U : Nat → Bool) (m : Nat) (h : ∀ x, x < 64 * m → T x = U x) : wrow T m = wrow U m := by
  unfold wrow
  refine List.map_congr_left fun q hq => ?_
  have := List.mem_range.1 hq
  rw [FR.wd_congr T U q fun j hj => h _ (by omega)]

/-- A pool of the program's: n frames, of which those are taken that T says; m words. -/
structure PL (w : World) (g b n m : Nat) (T : Nat → Bool) : Prop where
  box : ∃ lf : Nat, lf + FR.cnt T 0 n = n ∧ Blk w g 83 [.slice (some ⟨b, 0, none⟩) m m, .int .i64 n, .int .i64 lf]
  row : Blk w b 22 (wrow T m)
  ne : g ≠ b
  n1 : 1 ≤ n
  n2 : n ≤ 65536
  nm : n ≤ 64 * m
  m8 : m % 8 = 0
  m2 : m ≤ 1024
  pad : ∀ x, n ≤ x → x < 64 * m → T x = true

/-- A pool of the document's. -/
def brow (T : Nat → Bool) (n : Nat) : List Value := (List.range n).map fun x => .bool (T x)
theorem brow_get (T : Nat → Bool) (n x : Nat) (hx : x < n) : (brow T n)[x]? = some (.bool (T x)) := by simp [brow, hx]
theorem brow_set (T : Nat → Bool) (n x : Nat) (h : Bool) (hx : x < n) : (brow T n).set x (.bool h) = brow (FR.st T x 1 h) n := by
  apply List.ext_getElem?
  intro j
  rw [List.getElem?_set]
  by_cases hj : j < n
  · rw [brow_get (FR.st T x 1 h) n j hj]
    by_cases e : x = j
    · subst e
      rw [if_pos rfl, if_pos (by simpa [brow] using hx)]
      unfold FR.st; rw [if_pos (by omega)]
    · rw [if_neg e, brow_get _ _ _ hj, FR.st_out _ _ _ _ _ (by omega)]
  · have e1 : (brow (FR.st T x 1 h) n)[j]? = none := by simp [brow]; omega
    rw [e1, if_neg (by omega)]
    simp [brow]; omega
theorem brow_congr (T U : Nat → Bool) (n : Nat) (h : ∀ x, x < n → T x = U x) : brow T n = brow U n := by
  unfold brow
  exact List.map_congr_left fun x hx => by rw [h x (List.mem_range.1 hx)]
section
variable {w w' : World} {g b n m g2 b2 : Nat} {T : Nat → Bool}
theorem PL.keep (h : PL w g b n m T) (hb : Below w.heap.size w w') : PL w' g b n m T := ⟨h.box.elim fun lf e => ⟨lf, e.1, e.2.keep hb⟩, h.row.keep hb, h.ne, h.n1, h.n2, h.nm, h.m8, h.m2, h.pad⟩
theorem PL.two (h : PL w g b n m T) (t : Two g2 b2 w w') (h1 : g ≠ g2) (h2 : g ≠ b2) (h3 : b ≠ g2) (h4 : b ≠ b2) : PL w' g b n m T := ⟨h.box.elim fun lf e => ⟨lf, e.1, e.2.two t h1 h2⟩, h.row.two t h3 h4, h.ne, h.n1, h.n2, h.nm, h.m8, h.m2, h.pad⟩
/-- The facts that a walk over a pool wants. -/
theorem PL.gives (h : PL w g b n m T) : ∃ lf : Nat, lf + FR.cnt T 0 n = n ∧ w.cell? ⟨g, 0, none⟩ = some (.slice (some ⟨b, 0, none⟩) m m) ∧ w.cell? ⟨g, 1, none⟩ = some (.int .i64 n) ∧ w.cell? ⟨g, 2, none⟩ = some (.int .i64 lf) ∧
    (∀ i, w.frozen? ⟨g, i, none⟩ = false) := by
  obtain ⟨lf, e, hb⟩ := h.box
  exact ⟨lf, e, hb.cell rfl, hb.cell rfl, hb.cell rfl, hb.fz⟩
end
end Go.Proofs.YthiojnbnhagcgaaDoor

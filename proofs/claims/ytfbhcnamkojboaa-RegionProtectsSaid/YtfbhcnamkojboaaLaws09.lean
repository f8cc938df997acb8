/- The laws of layer 9 (package haywardlaw09), the first part: what they share, RegionBack, RegionOrder and RegionPieces: for every input they return true, and their arguments read as before. No further condition. -/
import Derived.Test.YtfbhcnamkojboaaRegThm
import Derived.Test.YtfbhcnamkojboaaRegRef
import Derived.ShutString
import Derived.ChangeOld
import Derived.Deep.Slices
import Derived.Lib.SmallJoins
namespace Go.Proofs.Ytfbhcnamkojboaa
open Go.ChangeShapes Go.WideShapes Go.ChangeAt Go.RowKit
open SQ
set_option linter.unusedVariables false
set_option linter.unusedSimpArgs false
open RG (Rg)

/-- What is told of a slice of regions that came in. -/
def RI (w : World) (ao : Option Addr) (n cap : Nat) (l : List Rg) : Prop := GL w ao n cap l ∧ RFit l
theorem open_regions {H : Type} {enc : TypeId × Value → H} {W : World} {r : Reach} {b0 : Nat} {v : Value} {d : DataW H} {p : List MemPlace} (hv : Value.okWide Try.prog W r b0 22 v)
    (h : DataW.Trod enc Try.prog W 0 (fun _ => true) true 22 v d p) :
    ∃ (ao : Option Addr) (n cap : Nat) (l : List Rg), v = .slice ao n cap ∧ RI W ao n cap l := by
  obtain ⟨a, len, cap, rfl⟩ := okWide_slice Try.underlying22 hv
  obtain ⟨fuel, hf⟩ := h
  rcases Deep.open_slice Try.underlying22 hf with ⟨e1, -⟩ | ⟨x, len', cap', m, n, D, Pl, e1, hb, hl, hm, hmm, -, hx⟩
  · simp [Value.cells] at e1
    obtain ⟨rfl, rfl, rfl⟩ := e1
    exact ⟨none, 0, 0, [], rfl, GL_nil W, fun x hx => by cases hx⟩
  · simp [Value.cells] at e1
    obtain ⟨rfl, rfl, rfl⟩ := e1
    have hlm : len ≤ m := by rw [hmm]; split <;> omega
    have each : ∀ i, i < len → ∃ q : Rg, W.cell? (x.add (i * 4)) = some (.int .u64 (q.f : Int)) ∧ W.cell? (x.add (i * 4 + 1)) = some (.int .u64 (q.t : Int)) ∧ W.cell? (x.add (i * 4 + 2)) = some (.int .i64 q.p) ∧ W.cell? (x.add (i * 4 + 3)) = some (.int .i64 q.k) ∧ RFit1 q := by
      intro i hi
      obtain ⟨cs', h1, h2⟩ := hx i (by omega)
      rw [show Try.prog.cellsOf 25 = 4 from by kernel_rfl] at h1
      obtain ⟨_, hlen, hcell⟩ := World.cells?_some h1
      obtain ⟨xs, k, hk, hxy, _, hxl, hff⟩ := DataW.trod_struct Try.underlying25 h2
      match xs, hxl, cs', hlen with
      | [y0, y1, y2, y3], _, [v0, v1, v2, v3], _ =>
        have g0 := hff 0 _ rfl
        have g1 := hff 1 _ rfl
        have g2 := hff 2 _ rfl
        have g3 := hff 3 _ rfl
        have t1 : Try.prog.cellsOf 23 = 1 := by kernel_rfl
        have t2 : Try.prog.cellsOf 3 = 1 := by kernel_rfl
        simp [t1, t2] at g0 g1 g2 g3
        have e0 := hcell 0 (by omega)
        have e1 := hcell 1 (by omega)
        have e2 := hcell 2 (by omega)
        have e3 := hcell 3 (by omega)
        rw [Deep.add_add] at e0 e1 e2 e3
        obtain ⟨z0, q0, -, b0⟩ := DataW.trod_int Try.underlying23 g0
        obtain ⟨z1, q1, -, b1⟩ := DataW.trod_int Try.underlying23 g1
        obtain ⟨z2, q2, -, b2⟩ := DataW.trod_int Try.underlying3 g2
        obtain ⟨z3, q3, -, b3⟩ := DataW.trod_int Try.underlying3 g3
        have b0' := bounds_u64 b0
        have b1' := bounds_u64 b1
        have b2' := bounds_i64 b2
        have b3' := bounds_i64 b3
        simp at q0 q1 q2 q3
        subst q0 q1 q2 q3
        obtain ⟨a0, rfl⟩ : ∃ z : Nat, z0 = z := ⟨z0.toNat, by omega⟩
        obtain ⟨a1, rfl⟩ : ∃ z : Nat, z1 = z := ⟨z1.toNat, by omega⟩
        exact ⟨⟨a0, a1, z2, z3⟩, by simpa using e0, by simpa using e1, by simpa using e2, by simpa using e3, (by show a0 < _; omega), (by show a1 < _; omega), b2', b3'⟩
    have key : ∀ k, k ≤ len → ∃ l : List Rg, l.length = k ∧ RFit l ∧ ∀ j u, (rcl l)[j]? = some u → W.cell? (x.add j) = some u := by
      intro k
      induction k with
      | zero => exact fun _ => ⟨[], rfl, (fun x hx => by cases hx), fun j u hu => by simp [rcl] at hu⟩
      | succ k ih =>
        intro hk
        obtain ⟨l, h1, h2, h3⟩ := ih (by omega)
        obtain ⟨q, c0, c1, c2, c3, hq⟩ := each k (by omega)
        refine ⟨l ++ [q], by simp [h1], fun y hy => ?_, fun j u hu => ?_⟩
        · rcases List.mem_append.1 hy with hy | hy
          · exact h2 y hy
          · rw [List.mem_singleton.1 hy]; exact hq
        · rw [rcl_append] at hu
          by_cases hj : j < (rcl l).length
          · rw [List.getElem?_append_left hj] at hu
            exact h3 j u hu
          · rw [List.getElem?_append_right (by omega), rcl_length, h1, rcl_single] at hu
            have hj2 : j - k * 4 < 4 := (List.getElem?_eq_some_iff.1 hu).1
            rw [rcl_length, h1] at hj
            have hcs : j = k * 4 ∨ j = k * 4 + 1 ∨ j = k * 4 + 2 ∨ j = k * 4 + 3 := by omega
            rcases hcs with rfl | rfl | rfl | rfl
            · rw [Nat.sub_self] at hu; rw [c0, ← hu]; rfl
            · rw [show k * 4 + 1 - k * 4 = 1 by omega] at hu; rw [c1, ← hu]; rfl
            · rw [show k * 4 + 2 - k * 4 = 2 by omega] at hu; rw [c2, ← hu]; rfl
            · rw [show k * 4 + 3 - k * 4 = 3 by omega] at hu; rw [c3, ← hu]; rfl
    obtain ⟨l, h1, h2, h3⟩ := key len (Nat.le_refl _)
    refine ⟨some x, len, cap, l, rfl, ⟨⟨h1, hl, hm, (fun h => by cases h), fun ad had j u hu => ?_⟩, fun ad had hn => ?_⟩, h2⟩
    · obtain rfl := Option.some.inj had
      exact h3 j u hu
    · obtain rfl := Option.some.inj had
      obtain ⟨q, c0, _⟩ := each 0 hn
      have := cell_lt c0
      rwa [show (x.add (0 * 4)).block = x.block by unfold Addr.add; split <;> rfl] at this
theorem open_region {H : Type} {enc : TypeId × Value → H} {W : World} {r : Reach} {b0 : Nat} {v : Value} {d : DataW H} {p : List MemPlace} (hv : Value.okWide Try.prog W r b0 25 v)
    (h : DataW.Trod enc Try.prog W 0 (fun _ => true) true 25 v d p) :
    ∃ (f t : Nat) (q k : Int), v = .agg #[.int .u64 (f : Int), .int .u64 (t : Int), .int .i64 q, .int .i64 k] ∧ RFit1 ⟨f, t, q, k⟩ := by
  obtain ⟨v0, v1, v2, v3, y0, y1, y2, y3, m, rfl, -, -, h0, h1, h2, h3⟩ := Joins.open_agg4 Try.underlying25 (by kernel_rfl) (by kernel_rfl) hv h
  obtain ⟨f, e0, -, b0⟩ := DataW.trod_int Try.underlying23 h0
  obtain ⟨t, e1, -, b1⟩ := DataW.trod_int Try.underlying23 h1
  obtain ⟨q, e2, -, b2⟩ := DataW.trod_int Try.underlying3 h2
  obtain ⟨k, e3, -, b3⟩ := DataW.trod_int Try.underlying3 h3
  obtain rfl : v0 = .int .u64 f := by simpa using e0
  obtain rfl : v1 = .int .u64 t := by simpa using e1
  obtain rfl : v2 = .int .i64 q := by simpa using e2
  obtain rfl : v3 = .int .i64 k := by simpa using e3
  have c0 := bounds_u64 b0
  have c1 := bounds_u64 b1
  have c2 := bounds_i64 b2
  have c3 := bounds_i64 b3
  obtain ⟨f, rfl⟩ : ∃ z : Nat, f = z := ⟨f.toNat, by omega⟩
  obtain ⟨t, rfl⟩ : ∃ z : Nat, t = z := ⟨t.toNat, by omega⟩
  exact ⟨f, t, q, k, rfl, by unfold RFit1; simp only; omega⟩
end Go.Proofs.Ytfbhcnamkojboaa

/- The table of kinds as the rows list it: its cells; and the heap that the program's own initialisers leave meets the condition. -/
import Derived.Test.YthiojnbnhagcgaaDoorEntry
import Derived.ProofKit
import Derived.LaidMore
import Derived.OpenShut
import Derived.Stop.Joined
import Derived.MakeChecks
namespace Go.Proofs.YthiojnbnhagcgaaDoor
open Go.ChangeShapes Go.WideShapes Go.ChangeAt Go.RowKit
set_option linter.unusedVariables false
set_option linter.unusedSimpArgs false

theorem own_knob : ownKnob Tryd.prog.godebug = none := by kernel_rfl
theorem kinds_named : Tryd.prog.globalNamed "hayward/entry.kinds" = some 0 := by kernel_rfl
theorem kinds_type : (Tryd.prog.globals[0]?).map (·.type) = some 105 := by kernel_rfl

theorem cell_bool {H : Type} {enc : TypeId × Value → H} {W : World} {m b0 : Nat} {s : Nat → Bool} {hl : Bool} {v : Value} {b : Bool} {x : DataW H × List MemPlace} (h : DataW.trod enc Tryd.prog W b0 s hl m 4 [v] = some x) (hx : x.1 = .lit (.bool b)) : v = .bool b := by
  obtain ⟨z, e, rfl⟩ := DataW.trod_bool Tryd.underlying4 h
  simp at hx; subst hx; simpa using e
theorem cell_int {H : Type} {enc : TypeId × Value → H} {W : World} {m b0 : Nat} {s : Nat → Bool} {hl : Bool} {v : Value} {b : Int} {x : DataW H × List MemPlace} (h : DataW.trod enc Tryd.prog W b0 s hl m 3 [v] = some x) (hx : x.1 = .lit (.int .i64 b)) : v = .int .i64 b := by
  obtain ⟨z, e, rfl, -⟩ := DataW.trod_int Tryd.underlying3 h
  simp at hx; subst hx; simpa using e
theorem cell_u64 {H : Type} {enc : TypeId × Value → H} {W : World} {m b0 : Nat} {s : Nat → Bool} {hl : Bool} {v : Value} {b : Int} {x : DataW H × List MemPlace} (h : DataW.trod enc Tryd.prog W b0 s hl m 22 [v] = some x) (hx : x.1 = .lit (.int .u64 b)) : v = .int .u64 b := by
  obtain ⟨z, e, rfl, -⟩ := DataW.trod_int Tryd.underlying22 h
  simp at hx; subst hx; simpa using e

/-- One kind's six cells. -/
theorem kind_cells {H : Type} {enc : TypeId × Value → H} {W : World} {m b0 : Nat} {s : Nat → Bool} {hl : Bool} {v0 v1 v2 v3 v4 v5 : Value} {a b : Bool} {lo hi F S : Int} {x : DataW H × List MemPlace}
    (h : DataW.trod enc Tryd.prog W b0 s hl m 104 [v0, v1, v2, v3, v4, v5] = some x) (hx : x.1 = .agg [.lit (.bool a), .lit (.bool b), .lit (.int .i64 lo), .lit (.int .i64 hi), .lit (.int .u64 F), .lit (.int .u64 S)]) :
    [v0, v1, v2, v3, v4, v5] = [.bool a, .bool b, .int .i64 lo, .int .i64 hi, .int .u64 F, .int .u64 S] := by
  obtain ⟨xs, n, -, rfl, -, hlen, hf⟩ := DataW.trod_struct Tryd.underlying104 h
  match xs, hlen with
  | [y0, y1, y2, y3, y4, y5], _ =>
    have t0 : Tryd.prog.cellsOf 4 = 1 := by kernel_rfl
    have t1 : Tryd.prog.cellsOf 22 = 1 := by kernel_rfl
    have t2 : Tryd.prog.cellsOf 3 = 1 := by kernel_rfl
    have g0 := hf 0 _ rfl
    have g1 := hf 1 _ rfl
    have g2 := hf 2 _ rfl
    have g3 := hf 3 _ rfl
    have g4 := hf 4 _ rfl
    have g5 := hf 5 _ rfl
    simp [t0, t1, t2] at g0 g1 g2 g3 g4 g5
    simp at hx
    obtain ⟨e0, e1, e2, e3, e4, e5⟩ := hx
    rw [cell_bool g0 e0, cell_bool g1 e1, cell_int g2 e2, cell_int g3 e3, cell_u64 g4 e4, cell_u64 g5 e5]

theorem eighteen {l : List Value} (h : l.length = 18) : ∃ a0 a1 a2 a3 a4 a5 b0 b1 b2 b3 b4 b5 c0 c1 c2 c3 c4 c5, l = [a0, a1, a2, a3, a4, a5, b0, b1, b2, b3, b4, b5, c0, c1, c2, c3, c4, c5] := by
  match l, h with
  | [a0, a1, a2, a3, a4, a5, b0, b1, b2, b3, b4, b5, c0, c1, c2, c3, c4, c5], _ => exact ⟨_, _, _, _, _, _, _, _, _, _, _, _, _, _, _, _, _, _, rfl⟩

/-- What the condition gives the walks. -/
theorem kt_of_laid {W : World} (h : laidMetH Tryd.prog [("hayward/entry.kinds", Rows.laid_hayward_entry_kinds)] W) : KT W := by
  rw [MakeChecks.laidMetH_plain _ _ _ (by kernel_rfl)] at h
  obtain ⟨ps, ⟨g0, t0, cs0, f0, p0, q0, hg0, ht0, hv0, hd0, -⟩, -⟩ := h
  obtain rfl := Option.some.inj (kinds_named.symm.trans hg0)
  obtain rfl := Option.some.inj (kinds_type.symm.trans ht0)
  obtain ⟨l⟩ := cs0
  obtain ⟨xs, m1, -, hx1, hlen, hn, hel⟩ := DataW.trod_array Tryd.underlying105 hd0
  rw [show Tryd.prog.cellsOf 105 = 18 from by kernel_rfl] at hlen
  rw [show Tryd.prog.cellsOf 104 = 6 from by kernel_rfl] at hel
  obtain ⟨a0, a1, a2, a3, a4, a5, b0, b1, b2, b3, b4, b5, c0, c1, c2, c3, c4, c5, rfl⟩ := eighteen hlen
  match xs, hn, hx1, hel with
  | [x0, x1, x2], _, hx1, hel =>
    simp only [Prod.mk.injEq] at hx1
    have hx2 := hx1.1
    unfold Rows.laid_hayward_entry_kinds at hx2
    simp only [List.map_cons, List.map_nil, DataW.agg.injEq, List.cons.injEq, and_true] at hx2
    obtain ⟨e0, e1, e2⟩ := hx2
    have k0 := kind_cells (hel 0 (by decide)) e0.symm
    have k1 := kind_cells (hel 1 (by decide)) e1.symm
    have k2 := kind_cells (hel 2 (by decide)) e2.symm
    simp only [List.cons.injEq, and_true] at k0 k1 k2
    obtain ⟨rfl, rfl, rfl, rfl, rfl, rfl⟩ := k0
    obtain ⟨rfl, rfl, rfl, rfl, rfl, rfl⟩ := k1
    obtain ⟨rfl, rfl, rfl, rfl, rfl, rfl⟩ := k2
    unfold World.var? at hv0
    rw [kinds_named] at hv0
    simp only [Option.bind_some] at hv0
    split at hv0
    · rename_i cs t fr heq
      cases hv0
      exact ⟨t, fr, heq⟩
    · cases hv0

/-- The heap that the program's own initialisers leave meets the condition. -/
theorem kinds_met (os : Os) (args : Array Value) : laidMetH Tryd.prog [("hayward/entry.kinds", Rows.laid_hayward_entry_kinds)] ((World.doorLaid Tryd.prog 400 os).forCall (fun _ _ => 0) ⟨#[], args, []⟩).memory :=
  laidMetH_of_parts3 (fuel := 8) (laidMet_of_run' 8 (by kernel_rfl) (by kernel_rfl)) (by kernel_rfl) (by kernel_rfl)

end Go.Proofs.YthiojnbnhagcgaaDoor

/- Unmap and Protect of no tree, and of wrong arguments. -/
import Derived.Test.YthiojnbnhagcgaaDoorRadNew
namespace Go.Proofs.YthiojnbnhagcgaaDoor
open Go.ChangeShapes Go.WideShapes Go.ChangeAt Go.RowKit
set_option linter.unusedVariables false
set_option linter.unusedSimpArgs false

theorem res_map2 {fn : Func} {r c : Tmp} (hres : fn.results = #[.cell r 24, .tmp c]) (tmps : Array Value) (w : World) {g : Nat} {l : List Value} (hr : tmps.getD r undef = .pointer (some ⟨g, 0, none⟩)) (hp : Blk w g 24 l) (hl : l.length = 4) :
    (results fn tmps).run Tryd.prog w = .ok (.tuple #[.agg l.toArray, tmps.getD c undef]) w := by
  have h1 := run_loadVar_row (P := Tryd.prog) w g 24 24 l.toArray (0, 0) _ hp Tryd.underlying24 rfl (by simp only [List.size_toArray, hl]; kernel_rfl)
  rw [Array.getD_eq_getD_getElem?] at hr
  simp [results, hres, hr, asAddr, h1]

def noMap : List Value := [.int .u64 0, .int .u64 0, .int .i64 0, .bool false]
def mapL (va f : Nat) (p : Int) (h : Bool) : List Value := [.int .u64 (va : Int), .int .u64 (f : Int), .int .i64 p, .bool h]

set_option maxRecDepth 100000 in
set_option maxHeartbeats 2000000 in
theorem Unmap_nil (va : Int) (w : World) :
    Calls Tryd.prog 6 #[.pointer none, .int .u64 va] w fun e w' => e = .returned (.tuple #[.agg noMap.toArray, .int .i64 1]) ∧ Below w.heap.size w w' := by
  have hmf : ∀ (fn : Fn) (first cap : Array Value) (w : World), (Instr.makeFunc fn first cap).run Tryd.prog w = .ok (.func fn first cap) w := fun _ _ _ _ => rfl
  have hD := W_hid (fun s f w => do_nil s f w)
  go_enter Tryd.func6, Tryd.ntmps6
  go_wp2_with fail
  refine (hD.out _ _ _).mono ?_
  rintro e w2 ⟨rfl, bel⟩
  have hM : Blk w2 (w.heap.size + 1 + 1 + 1) 24 noMap := Blk.keep (Blk.new (((w.alloc _).alloc _).alloc _) _ noMap (by simp)) bel
  have hR : Blk w2 (w.heap.size + 1 + 1) 24 noMap := Blk.keep ((Blk.new ((w.alloc _).alloc _) _ noMap (by simp)).alloc _) bel
  have k0 : w2.cell? ⟨w.heap.size + 1 + 1 + 1, 0, none⟩ = some (.int .u64 0) := hM.cell rfl
  have k1 : w2.cell? ⟨w.heap.size + 1 + 1 + 1, 1, none⟩ = some (.int .u64 0) := hM.cell rfl
  have k2 : w2.cell? ⟨w.heap.size + 1 + 1 + 1, 2, none⟩ = some (.int .i64 0) := hM.cell rfl
  have k3 : w2.cell? ⟨w.heap.size + 1 + 1 + 1, 3, none⟩ = some (.bool false) := hM.cell rfl
  have r0 : w2.cell? ⟨w.heap.size + 1 + 1, 0, none⟩ = some (.int .u64 0) := hR.cell rfl
  have r1 : w2.cell? ⟨w.heap.size + 1 + 1, 1, none⟩ = some (.int .u64 0) := hR.cell rfl
  have r2 : w2.cell? ⟨w.heap.size + 1 + 1, 2, none⟩ = some (.int .i64 0) := hR.cell rfl
  have r3 : w2.cell? ⟨w.heap.size + 1 + 1, 3, none⟩ = some (.bool false) := hR.cell rfl
  have rf := hR.fz
  have hres := W_hid (((((Below.refl _ _).alloc (Nat.le_refl _) _).alloc (by simp) _).alloc (by simp; omega) _ |>.alloc (by simp; omega) _).trans (bel.mono (by simp; omega)))
  replace hM := W_hid hM
  replace hR := W_hid hR
  clear bel
  go_wp2
  have hZ := (((hR.out.set 0 (.int .u64 0)).set 1 (.int .u64 0)).set 2 (.int .i64 0)).set 3 (.bool false)
  refine bodyPost_ret (res_map2 Tryd.results6 _ _ rfl hZ rfl) rfl ⟨rfl, (((hres.out.setCell (by simp; omega) _).setCell (by simp; omega) _).setCell (by simp; omega) _).setCell (by simp; omega) _⟩

/-- Are Protect's arguments sound? -/
def protOk (va : Nat) (perm : Int) : Bool := decide (va < 140737488355328) && (bits BinOp.and IntKind.i64 perm 1 != 0) && (bits BinOp.andNot IntKind.i64 perm 7 == 0)

set_option maxRecDepth 100000 in
set_option maxHeartbeats 2000000 in
theorem Protect_nil (va perm : Int) (w : World) :
    Calls Tryd.prog 10 #[.pointer none, .int .u64 va, .int .i64 perm] w fun e w' => e = .returned (.int .i64 1) ∧ Below w.heap.size w w' := by
  have hmf : ∀ (fn : Fn) (first cap : Array Value) (w : World), (Instr.makeFunc fn first cap).run Tryd.prog w = .ok (.func fn first cap) w := fun _ _ _ _ => rfl
  have hD := W_hid (fun s f w => do_nil s f w)
  obtain ⟨t1, d1⟩ : ∃ t, decide (va < 140737488355328) = t := ⟨_, rfl⟩
  obtain ⟨t2, d2⟩ : ∃ t, (bits BinOp.and IntKind.i64 perm 1 != 0) = t := ⟨_, rfl⟩
  obtain ⟨t3, d3⟩ : ∃ t, (bits BinOp.andNot IntKind.i64 perm 7 == 0) = t := ⟨_, rfl⟩
  cases t1 <;> cases t2 <;> cases t3 <;>
  · go_enter Tryd.func10, Tryd.ntmps10
    go_wp2_with fail
    refine (hD.out _ _ _).mono ?_
    rintro e w2 ⟨rfl, bel⟩
    have hres := W_hid ((((Below.refl _ _).alloc (Nat.le_refl _) _).alloc (by simp) _).alloc (by simp; omega) _ |>.trans (bel.mono (by simp; omega)))
    clear bel
    go_wp2
    go_ret
    exact ⟨rfl, hres.out⟩
end Go.Proofs.YthiojnbnhagcgaaDoor

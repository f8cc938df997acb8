/- Contract of package radix's do: work on a tree that is there, and what a panic becomes. -/
import Derived.Test.YthiojnbnhagcgaaDoorRadLen
import Derived.Defers
import Derived.Recover
import Derived.Laws.Pointers
import Derived.Tactics2
namespace Go.Proofs.YthiojnbnhagcgaaDoor
open Go.ChangeShapes Go.WideShapes Go.ChangeAt Go.RowKit
set_option linter.unusedVariables false
set_option linter.unusedSimpArgs false

set_option maxRecDepth 100000 in
theorem catch_panic (p : Addr) (x c : Int) (w : World) (hc : w.cell? p = some (.int .i64 x)) (hz : w.frozen? p = false) :
    CallsD Tryd.prog 42 #[.pointer (some p)] (.panicking (fault c)) w fun e u' w' =>
      e = .returned (.tuple #[]) ∧ u' = .panicking [{ v := .iface 27 (.int .i64 c), recovered := true }] ∧ w' = w.setCell p (.int .i64 c) := by
  unfold fault
  refine callsD_of_wpS Tryd.func42 rfl fun c₀ cs hu => ?_
  apply wpS_seq
  apply wpS_region
  simp [wpOpsS, go_sem, recoverD, hu, Tryd.ntmps42, Exit.thenS]
  refine wpS_of_wp ?_
  have hne : ∀ w, (binOp .neq 20 (.iface 27 (.int .i64 c)) .nilIface).run Tryd.prog w = .ok (.bool true) w := fun w => by simp [go_sem]
  have hta : ∀ w, (Instr.typeAssert (.iface 27 (.int .i64 c)) 20 27 false).run Tryd.prog w = .ok (.int .i64 c) w := fun w => by kernel_rfl
  change Code.wp _ _ _ { tmps := #[.pointer (some p), .iface 27 (.int .i64 c), .iface 27 (.int .i64 c), undef, undef, undef, undef], defers := [] } w
  go_wp2
  simp [bodyPostS, results, Tryd.results42]

set_option maxRecDepth 100000 in
theorem catch_none (p : Addr) (w : World) :
    CallsD Tryd.prog 42 #[.pointer (some p)] .returning w fun e u' w' => e = .returned (.tuple #[]) ∧ u' = .returning ∧ w' = w := by
  refine callsD_of_wpS Tryd.func42 rfl fun c₀ cs hu => ?_
  apply wpS_seq
  apply wpS_region
  simp [wpOpsS, go_sem, recoverD, hu, Tryd.ntmps42, Exit.thenS]
  refine wpS_of_wp ?_
  have hne : ∀ w, (binOp .neq 20 .nilIface .nilIface).run Tryd.prog w = .ok (.bool false) w := fun w => by simp [go_sem]
  change Code.wp _ _ _ { tmps := #[.pointer (some p), .nilIface, .nilIface, undef, undef, undef, undef], defers := [] } w
  go_wp2
  cases c₀
  simp_all [bodyPostS, results, Tryd.results42]

theorem fault_inj {c c' : Int} (h : Ending.panicked (fault c) = .panicked (fault c')) : c = c' := by
  simpa [fault] using h
/-- What do's frame leaves: the answer lies in a cell of its own. -/
def Done (A : Ending → World → Prop) (y : Nat) (e : Ending) (w' : World) : Prop :=
  ∃ w1, (A (.returned (.tuple #[])) w1 ∧ e = .returned (.int .i64 0) ∧ w' = w1.setCell ⟨y, 0, none⟩ (.int .i64 0)) ∨ ∃ c, A (.panicked (fault c)) w1 ∧ e = .returned (.int .i64 c) ∧ w' = w1.setCell ⟨y, 0, none⟩ (.int .i64 c)

set_option maxRecDepth 100000 in
theorem do_nil (s : Bool) (f : Value) (w : World) : Calls Tryd.prog 17 #[.pointer none, .bool s, f] w fun e w' => e = .returned (.int .i64 1) ∧ Below w.heap.size w w' := by
  have hN := W_hid none_nilT
  go_enter_defers Tryd.func17, Tryd.ntmps17
  go_wp2_with fail
  refine (hN.out _).mono ?_
  rintro e w1 ⟨rfl, rfl⟩
  go_wp2
  simp [bodyPostD, Leaves, settle, results, Tryd.results17, go_sem]
  exact (Below.refl _ _).alloc (Nat.le_refl _) _

set_option maxRecDepth 100000 in
theorem do_arg (g pg r b : Nat) (M : Nat → Option (Nat → Nat)) (f : Value) (w : World) (h : TM w g pg r b M) : Calls Tryd.prog 17 #[.pointer (some ⟨g, 0, none⟩), .bool false, f] w fun e w' => e = .returned (.int .i64 2) ∧ Below w.heap.size w w' := by
  have hN := W_hid (none_tree g pg r b M)
  have H := W_hid h
  clear h
  go_enter_defers Tryd.func17, Tryd.ntmps17
  go_wp2_with fail
  refine (hN.out _ (H.out.keep ((Below.refl _ _).alloc (Nat.le_refl _) _))).mono ?_
  rintro e w1 ⟨rfl, rfl⟩
  go_wp2
  simp [bodyPostD, Leaves, settle, results, Tryd.results17, go_sem]
  exact (Below.refl _ _).alloc (Nat.le_refl _) _

set_option maxRecDepth 100000 in
set_option maxHeartbeats 1000000 in
theorem do_yes (g pg r b f : Nat) (M : Nat → Option (Nat → Nat)) (caps : Array Value) (w : World) (h : TM w g pg r b M) (A : Ending → World → Prop)
    (hent : ∀ w, (callFunc f caps).run Tryd.prog w = .ok (.enter f caps) w)
    (hA : ∀ e w', A e w' → (e = .returned (.tuple #[]) ∨ ∃ c, e = .panicked (fault c)) ∧ Blk w' w.heap.size 27 [.int .i64 0])
    (hW : Calls Tryd.prog f caps (w.alloc (.cells #[.int .i64 0] 27)) A) :
    Calls Tryd.prog 17 #[.pointer (some ⟨g, 0, none⟩), .bool true, .func (.func f) #[] caps] w (Done A w.heap.size) := by
  have hN := W_hid (none_tree g pg r b M)
  have H := W_hid h
  have hmf : ∀ (fn : Fn) (first cap : Array Value) (w : World), (Instr.makeFunc fn first cap).run Tryd.prog w = .ok (.func fn first cap) w := fun _ _ _ _ => rfl
  replace hW := W_hid hW
  clear h
  go_enter_defers Tryd.func17, Tryd.ntmps17
  go_wp2_with fail
  refine (hN.out _ (H.out.keep ((Below.refl _ _).alloc (Nat.le_refl _) _))).mono ?_
  rintro e w1 ⟨rfl, rfl⟩
  go_wp2_with fail
  refine hW.out.mono ?_
  intro e w2 hE
  obtain ⟨rfl | ⟨c, rfl⟩, hB⟩ := hA _ _ hE
  · have c0 : w2.cell? ⟨w.heap.size, 0, none⟩ = some (.int .i64 0) := hB.cell rfl
    have f0 := hB.fz
    replace hE := W_hid hE
    replace hB := W_hid hB
    go_wp2
    refine leaves_cons (f := 42) (args := #[.pointer (some ⟨w.heap.size, 0, none⟩)]) (by simp) (by simp [go_sem]) ?_
    refine (catch_none ⟨w.heap.size, 0, none⟩ _).mono ?_
    rintro e u' w'' ⟨rfl, rfl, rfl⟩
    have hcell : (w2.setCell ⟨w.heap.size, 0, none⟩ (.int .i64 0)).cell? ⟨w.heap.size, 0, none⟩ = some (.int .i64 0) := (hB.out.set 0 (.int .i64 0)).cell rfl
    simp [Leaves, settle, results, Tryd.results17, go_sem, hcell]
    exact ⟨w2, .inl ⟨hE.out, rfl, rfl⟩⟩
  · have c0 : w2.cell? ⟨w.heap.size, 0, none⟩ = some (.int .i64 0) := hB.cell rfl
    have f0 := hB.fz
    have hcell : (w2.setCell ⟨w.heap.size, 0, none⟩ (.int .i64 c)).cell? ⟨w.heap.size, 0, none⟩ = some (.int .i64 c) := (hB.set 0 (.int .i64 c)).cell rfl
    replace hE := W_hid hE
    replace hB := W_hid hB
    show bodyPostD _ _ _ _ _ _
    refine leaves_cons (f := 42) (args := #[.pointer (some ⟨w.heap.size, 0, none⟩)]) (by simp) (by simp [go_sem]) ?_
    refine (catch_panic ⟨w.heap.size, 0, none⟩ 0 c _ c0 (f0 0)).mono ?_
    rintro e u' w'' ⟨rfl, rfl, rfl⟩
    simp [Leaves, settle, results, Tryd.results17, go_sem, hcell]
    exact ⟨w2, .inr ⟨c, hE.out, rfl, rfl⟩⟩
end Go.Proofs.YthiojnbnhagcgaaDoor

/- Contracts of package inode's calls of a nil store. -/
import Derived.Test.YtieneehpijilpaaInoStat2
namespace Go.Proofs.Ytieneehpijilpaa
open Go.ChangeShapes Go.WideShapes Go.ChangeAt Go.RowKit Go.Maps
set_option linter.unusedVariables false
set_option linter.unusedSimpArgs false
namespace IN

set_option maxRecDepth 100000 in
theorem nil_three (k2 k3 : Nat) (n : Int) (w : World) (e2 : ∀ w, (callFunc k2 #[.pointer none, .int .i64 n]).run Try.prog w = .ok (.enter k2 #[.pointer none, .int .i64 n]) w) (e3 : ∀ w, (callFunc k3 #[.pointer none, .int .i64 n]).run Try.prog w = .ok (.enter k3 #[.pointer none, .int .i64 n]) w) :
    Calls Try.prog 35 #[.int .i64 n, .slice (some ⟨w.heap.size, 0, none⟩) 3 3] (w.alloc (.cells #[.func (.func 36) #[.pointer none] #[], .func (.func k2) #[.pointer none] #[], .func (.func k3) #[.pointer none] #[]] 45)) fun e w' => e = .returned (.int .i64 1) ∧ Below w.heap.size w w' := by
  have hal := (Below.refl w.heap.size w).alloc (Nat.le_refl _) (.cells #[.func (.func 36) #[.pointer none] #[], .func (.func k2) #[.pointer none] #[], .func (.func k3) #[.pointer none] #[]] 45)
  refine (first_three (.pointer none) _ k2 k3 1 0 0 n w.heap.size _ (chk_blk w [.func (.func 36) #[.pointer none] #[], .func (.func k2) #[.pointer none] #[], .func (.func k3) #[.pointer none] #[]] _ rfl)
    (fun w => by kernel_rfl) e2 e3 (fun W hW => made_nil _ W) (fun W h _ => absurd h (by decide)) (fun W h _ _ => absurd h (by decide))).mono ?_
  rintro e w' ⟨rfl, hb⟩
  exact ⟨rfl, hal.trans (hb.mono hal.size)⟩
set_option maxRecDepth 100000 in
theorem nil_make (n : Int) (w : World) :
    Calls Try.prog 35 #[.int .i64 n, .slice (some ⟨w.heap.size, 0, none⟩) 3 3] (w.alloc (.cells #[.func (.func 36) #[.pointer none] #[], .func (.func 40) #[] #[], .func (.func 41) #[.pointer none] #[]] 45)) fun e w' => e = .returned (.int .i64 1) ∧ Below w.heap.size w w' := by
  have hal := (Below.refl w.heap.size w).alloc (Nat.le_refl _) (.cells #[.func (.func 36) #[.pointer none] #[], .func (.func 40) #[] #[], .func (.func 41) #[.pointer none] #[]] 45)
  refine (first_make (.pointer none) _ _ _ 1 0 0 n w.heap.size _ (chk_blk w [.func (.func 36) #[.pointer none] #[], .func (.func 40) #[] #[], .func (.func 41) #[.pointer none] #[]] _ rfl)
    (fun w => by kernel_rfl) (fun w => by kernel_rfl) (fun w => by kernel_rfl) (fun W hW => made_nil _ W) (fun W h _ => absurd h (by decide)) (fun W h _ _ => absurd h (by decide))).mono ?_
  rintro e w' ⟨rfl, hb⟩
  exact ⟨rfl, hal.trans (hb.mono hal.size)⟩
set_option maxRecDepth 100000 in
theorem nil_two (n : Int) (w : World) :
    Calls Try.prog 35 #[.int .i64 n, .slice (some ⟨w.heap.size, 0, none⟩) 2 2] (w.alloc (.cells #[.func (.func 36) #[.pointer none] #[], .func (.func 42) #[.pointer none] #[]] 45)) fun e w' => e = .returned (.int .i64 1) ∧ Below w.heap.size w w' := by
  have hal := (Below.refl w.heap.size w).alloc (Nat.le_refl _) (.cells #[.func (.func 36) #[.pointer none] #[], .func (.func 42) #[.pointer none] #[]] 45)
  refine (first_two (.pointer none) _ _ 1 0 n w.heap.size _ (chk_blk w [.func (.func 36) #[.pointer none] #[], .func (.func 42) #[.pointer none] #[]] _ rfl)
    (fun w => by kernel_rfl) (fun w => by kernel_rfl) (fun W hW => made_nil _ W) (fun W h _ => absurd h (by decide))).mono ?_
  rintro e w' ⟨rfl, hb⟩
  exact ⟨rfl, hal.trans (hb.mono hal.size)⟩
set_option maxRecDepth 100000 in
theorem nil_one (w : World) :
    Calls Try.prog 35 #[.int .i64 0, .slice (some ⟨w.heap.size, 0, none⟩) 1 1] (w.alloc (.cells #[.func (.func 36) #[.pointer none] #[]] 45)) fun e w' => e = .returned (.int .i64 1) ∧ Below w.heap.size w w' := by
  have hal := (Below.refl w.heap.size w).alloc (Nat.le_refl _) (.cells #[.func (.func 36) #[.pointer none] #[]] 45)
  refine (first_one (.pointer none) _ 1 0 w.heap.size _ (chk_blk w [.func (.func 36) #[.pointer none] #[]] _ rfl)
    (fun w => by kernel_rfl) (fun W hW => made_nil _ W)).mono ?_
  rintro e w' ⟨rfl, hb⟩
  exact ⟨rfl, hal.trans (hb.mono hal.size)⟩

set_option maxRecDepth 100000 in
set_option maxHeartbeats 2000000 in
theorem Link_nil (n : Int) (w : World) : Calls Try.prog 17 #[.pointer none, .int .i64 n] w fun e w' => e = .returned (.int .i64 1) ∧ Below w.heap.size w w' := by
  have hmf : ∀ (fn : Fn) (first cap : Array Value) (w : World), (Instr.makeFunc fn first cap).run Try.prog w = .ok (.func fn first cap) w := fun _ _ _ _ => rfl
  have cA := W_hid (nil_three 42 43 n w (fun w => by kernel_rfl) (fun w => by kernel_rfl))
  go_enter Try.func17, Try.ntmps17
  go_wp2_with fail
  refine cA.out.mono ?_
  rintro e w1 ⟨rfl, b1⟩
  go_wp2_with fail
  go_ret
  exact ⟨rfl, b1⟩

set_option maxRecDepth 100000 in
set_option maxHeartbeats 2000000 in
theorem Unlink_nil (n : Int) (w : World) : Calls Try.prog 18 #[.pointer none, .int .i64 n] w fun e w' => e = .returned (.int .i64 1) ∧ Below w.heap.size w w' := by
  have hmf : ∀ (fn : Fn) (first cap : Array Value) (w : World), (Instr.makeFunc fn first cap).run Try.prog w = .ok (.func fn first cap) w := fun _ _ _ _ => rfl
  have cA := W_hid (nil_three 42 44 n w (fun w => by kernel_rfl) (fun w => by kernel_rfl))
  go_enter Try.func18, Try.ntmps18
  go_wp2_with fail
  refine cA.out.mono ?_
  rintro e w1 ⟨rfl, b1⟩
  go_wp2_with fail
  go_ret
  exact ⟨rfl, b1⟩

set_option maxRecDepth 100000 in
set_option maxHeartbeats 2000000 in
theorem Close_nil (n : Int) (w : World) : Calls Try.prog 20 #[.pointer none, .int .i64 n] w fun e w' => e = .returned (.int .i64 1) ∧ Below w.heap.size w w' := by
  have hmf : ∀ (fn : Fn) (first cap : Array Value) (w : World), (Instr.makeFunc fn first cap).run Try.prog w = .ok (.func fn first cap) w := fun _ _ _ _ => rfl
  have cA := W_hid (nil_three 42 46 n w (fun w => by kernel_rfl) (fun w => by kernel_rfl))
  go_enter Try.func20, Try.ntmps20
  go_wp2_with fail
  refine cA.out.mono ?_
  rintro e w1 ⟨rfl, b1⟩
  go_wp2_with fail
  go_ret
  exact ⟨rfl, b1⟩

set_option maxRecDepth 100000 in
set_option maxHeartbeats 2000000 in
theorem Open_nil (n : Int) (w : World) : Calls Try.prog 19 #[.pointer none, .int .i64 n] w fun e w' => e = .returned (.int .i64 1) ∧ Below w.heap.size w w' := by
  have hmf : ∀ (fn : Fn) (first cap : Array Value) (w : World), (Instr.makeFunc fn first cap).run Try.prog w = .ok (.func fn first cap) w := fun _ _ _ _ => rfl
  have cA := W_hid (nil_two n w)
  go_enter Try.func19, Try.ntmps19
  go_wp2_with fail
  refine cA.out.mono ?_
  rintro e w1 ⟨rfl, b1⟩
  go_wp2_with fail
  go_ret
  exact ⟨rfl, b1⟩

set_option maxRecDepth 100000 in
set_option maxHeartbeats 2000000 in
theorem Make_nil (n : Int) (w : World) : Calls Try.prog 16 #[.pointer none, .int .i64 n] w fun e w' => e = .returned (.tuple #[.int .i64 0, .int .i64 1]) ∧ Below w.heap.size w w' := by
  have hmf : ∀ (fn : Fn) (first cap : Array Value) (w : World), (Instr.makeFunc fn first cap).run Try.prog w = .ok (.func fn first cap) w := fun _ _ _ _ => rfl
  have cA := W_hid (nil_make n w)
  go_enter Try.func16, Try.ntmps16
  go_wp2_with fail
  refine cA.out.mono ?_
  rintro e w1 ⟨rfl, b1⟩
  go_wp2_with fail
  go_ret2
  exact ⟨rfl, b1⟩

set_option maxRecDepth 100000 in
set_option maxHeartbeats 2000000 in
theorem Write_nil (n f : Int) (d : ByteArray) (w : World) : Calls Try.prog 22 #[.pointer none, .int .i64 n, .int .i64 f, .string d] w fun e w' => e = .returned (.int .i64 1) ∧ Below w.heap.size w w' := by
  have hmf : ∀ (fn : Fn) (first cap : Array Value) (w : World), (Instr.makeFunc fn first cap).run Try.prog w = .ok (.func fn first cap) w := fun _ _ _ _ => rfl
  have cA := W_hid (nil_three 42 47 n w (fun w => by kernel_rfl) (fun w => by kernel_rfl))
  go_enter Try.func22, Try.ntmps22
  go_wp2_with fail
  refine cA.out.mono ?_
  rintro e w1 ⟨rfl, b1⟩
  go_wp2_with fail
  go_ret
  exact ⟨rfl, b1⟩

set_option maxRecDepth 100000 in
set_option maxHeartbeats 2000000 in
theorem Trunc_nil (n f : Int) (w : World) : Calls Try.prog 23 #[.pointer none, .int .i64 n, .int .i64 f] w fun e w' => e = .returned (.int .i64 1) ∧ Below w.heap.size w w' := by
  have hmf : ∀ (fn : Fn) (first cap : Array Value) (w : World), (Instr.makeFunc fn first cap).run Try.prog w = .ok (.func fn first cap) w := fun _ _ _ _ => rfl
  have cA := W_hid (nil_three 42 47 n w (fun w => by kernel_rfl) (fun w => by kernel_rfl))
  go_enter Try.func23, Try.ntmps23
  go_wp2_with fail
  refine cA.out.mono ?_
  rintro e w1 ⟨rfl, b1⟩
  go_wp2_with fail
  go_ret
  exact ⟨rfl, b1⟩

set_option maxRecDepth 100000 in
set_option maxHeartbeats 2000000 in
theorem Read_nil (n f m : Int) (w : World) : Calls Try.prog 21 #[.pointer none, .int .i64 n, .int .i64 f, .int .i64 m] w fun e w' => e = .returned (.tuple #[.string ⟨#[]⟩, .int .i64 1]) ∧ Below w.heap.size w w' := by
  have hmf : ∀ (fn : Fn) (first cap : Array Value) (w : World), (Instr.makeFunc fn first cap).run Try.prog w = .ok (.func fn first cap) w := fun _ _ _ _ => rfl
  have cA := W_hid (nil_three 42 47 n w (fun w => by kernel_rfl) (fun w => by kernel_rfl))
  go_enter Try.func21, Try.ntmps21
  go_wp2_with fail
  refine cA.out.mono ?_
  rintro e w1 ⟨rfl, b1⟩
  go_wp2_with fail
  go_ret2
  exact ⟨rfl, b1⟩

set_option maxRecDepth 100000 in
set_option maxHeartbeats 2000000 in
theorem All_nil  (w : World) : Calls Try.prog 14 #[.pointer none] w fun e w' => e = .returned (.slice none 0 0) ∧ Below w.heap.size w w' := by
  have hmf : ∀ (fn : Fn) (first cap : Array Value) (w : World), (Instr.makeFunc fn first cap).run Try.prog w = .ok (.func fn first cap) w := fun _ _ _ _ => rfl
  have cA := W_hid (nil_one w)
  go_enter Try.func14, Try.ntmps14
  go_wp2_with fail
  refine cA.out.mono ?_
  rintro e w1 ⟨rfl, b1⟩
  go_wp2_with fail
  go_ret
  exact ⟨rfl, b1⟩

set_option maxRecDepth 100000 in
set_option maxHeartbeats 2000000 in
theorem Stat_nil (n : Int) (w : World) : Calls Try.prog 24 #[.pointer none, .int .i64 n] w fun e w' => e = .returned (.tuple #[.agg zl.toArray, .int .i64 1]) ∧ Below w.heap.size w w' := by
  have hmf : ∀ (fn : Fn) (first cap : Array Value) (w : World), (Instr.makeFunc fn first cap).run Try.prog w = .ok (.func fn first cap) w := fun _ _ _ _ => rfl
  obtain ⟨W0, hW0⟩ : ∃ W0, w.alloc (.cells #[.int .i64 0, .int .i64 0, .int .i64 0, .int .i64 0, .int .i64 0, .int .i64 0] 41) = W0 := ⟨_, rfl⟩
  have hb0 : Below w.heap.size w W0 := by rw [← hW0]; exact (Below.refl _ _).alloc (Nat.le_refl _) _
  have hr0 : Blk W0 w.heap.size 41 zl := by rw [← hW0]; exact Blk.new w _ zl rfl
  have hs0 : w.heap.size ≤ W0.heap.size := hb0.size
  have cA := W_hid (nil_two n W0)
  replace hb0 := W_hid hb0
  replace hr0 := W_hid hr0
  go_enter Try.func24, Try.ntmps24
  go_wp2_with fail
  refine cA.out.mono ?_
  rintro e w1 ⟨rfl, b1⟩
  have hr1 := hr0.out.keep b1
  have f1 := hr1.fz
  have r0 := hr1.cell (j := 0) rfl
  have r1 := hr1.cell (j := 1) rfl
  have r2 := hr1.cell (j := 2) rfl
  have r3 := hr1.cell (j := 3) rfl
  have r4 := hr1.cell (j := 4) rfl
  have r5 := hr1.cell (j := 5) rfl
  have hfin := W_hid (six_blk hr1 0 0 0 0 0 0)
  have hbl := W_hid (six_below (hb0.out.trans (b1.mono hs0)) (Nat.le_refl _) 0 0 0 0 0 0)
  clear hr1 b1
  go_wp2_with fail
  exact bodyPost_ret (res_two rfl _ _ rfl hfin.out) rfl ⟨rfl, hbl.out⟩
end IN
end Go.Proofs.Ytieneehpijilpaa

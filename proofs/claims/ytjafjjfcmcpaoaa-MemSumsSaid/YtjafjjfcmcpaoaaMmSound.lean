/- Stage 18: is all there that an instruction names? -/
import Derived.Test.YtjafjjfcmcpaoaaMmLeaf
namespace Go.Proofs.Ytjafjjfcmcpaoaa
open Go.ChangeShapes Go.WideShapes Go.ChangeAt Go.RowKit
set_option linter.unusedVariables false
set_option linter.unusedSimpArgs false
set_option maxRecDepth 100000
namespace MC
open IN (lt_of_some)

/-- An instruction as a value. -/
def inv (x : In) : Value := .agg #[.int .i64 x.op, .int .i64 x.cell, .int .i64 x.a, .int .i64 x.b, .int .i64 x.t]
theorem snd_eq (op cell a b t : Int) (n : Nat) {B1 B2 B3 B4 : Bool} (h1 : hasC n cell = B1) (h2 : isR t = B2) (h3 : isR a = B3) (h4 : isR b = B4) : snd ⟨op, cell, a, b, t⟩ n =
    (if op = 1 then B2 else if op = 2 then B1 && B2 else if op = 3 then B1 && B3 else if op = 4 then B1 && B3 && B4 && B2 else if op = 5 then B1 && B3 && B2 else if op = 6 then B3 else false) := by
  subst h1 h2 h3 h4; rfl
set_option maxRecDepth 100000 in
set_option maxHeartbeats 4000000 in
theorem sound_any (w : World) (x : In) (ao : Option Addr) (n cap : Nat) : Calls Try.prog 37 #[inv x, .slice ao n cap] w fun e w' => e = .returned (.bool (snd x n)) ∧ Below w.heap.size w w' := by
  obtain ⟨op, cell, a, b, t⟩ := x
  have hH := W_hid (fun W q => Calls.quiet_of_same ((has_any (World.drewN W q) ao n cap cell).mono fun e w' h => ⟨h.1, h.2.symm⟩))
  have hT := W_hid (fun W q => Calls.quiet_of_same ((isR_any (World.drewN W q) t).mono fun e w' h => ⟨h.1, h.2.symm⟩))
  have hA := W_hid (fun W q => Calls.quiet_of_same ((isR_any (World.drewN W q) a).mono fun e w' h => ⟨h.1, h.2.symm⟩))
  have hB := W_hid (fun W q => Calls.quiet_of_same ((isR_any (World.drewN W q) b).mono fun e w' h => ⟨h.1, h.2.symm⟩))
  obtain ⟨B1, h1⟩ : ∃ B, hasC n cell = B := ⟨_, rfl⟩
  obtain ⟨B2, h2⟩ : ∃ B, isR t = B := ⟨_, rfl⟩
  obtain ⟨B3, h3⟩ : ∃ B, isR a = B := ⟨_, rfl⟩
  obtain ⟨B4, h4⟩ : ∃ B, isR b = B := ⟨_, rfl⟩
  rw [snd_eq op cell a b t n h1 h2 h3 h4]
  rw [h1] at hH
  rw [h2] at hT
  rw [h3] at hA
  rw [h4] at hB
  clear h1 h2 h3 h4
  unfold inv
  go_enter Try.func37, Try.ntmps37
  go_wp2_with fail
  go_quiet ((first | (go_at_call 34; exact hH.out _ _) | (go_at_call 35; exact hT.out _ _)))
  obtain ⟨W, hW⟩ : ∃ W, (w.alloc (.cells #[.int .i64 op, .int .i64 cell, .int .i64 a, .int .i64 b, .int .i64 t] TX)).drewN nq = W := ⟨_, rfl⟩
  have hbl : Hid (Below w.heap.size w W) := W_hid (by rw [← hW]; exact below_drewN ((Below.refl _ _).alloc (Nat.le_refl _) _) nq)
  have hbk : Blk W w.heap.size TX [.int .i64 op, .int .i64 cell, .int .i64 a, .int .i64 b, .int .i64 t] := by rw [← hW]; exact Blk.new w _ _ rfl
  rw [hW]
  have c0 := hbk.cell (j := 0) rfl
  have c2 := hbk.cell (j := 2) rfl
  have c3 := hbk.cell (j := 3) rfl
  clear hW hbk
  go_wp2_with fail
  go_quiet ((first | (go_at_call 35; exact hA.out _ _) | (go_at_call 35; exact hB.out _ _)))
  have hbl2 := W_hid (below_drewN hbl.out nq)
  by_cases h1 : op = 1
  · subst h1
    cases B2 <;>
    (go_wp2_with fail; go_ret; exact ⟨rfl, hbl2.out⟩)
  by_cases h2 : op = 2
  · subst h2
    cases B1 <;> cases B2 <;>
    (go_wp2_with fail; go_ret; exact ⟨rfl, hbl2.out⟩)
  by_cases h3 : op = 3
  · subst h3
    cases B1 <;> cases B3 <;>
    (go_wp2_with fail; go_ret; exact ⟨rfl, hbl2.out⟩)
  by_cases h4 : op = 4
  · subst h4
    cases B1 <;> cases B3 <;> cases B4 <;> cases B2 <;>
    (go_wp2_with fail; go_ret; exact ⟨rfl, hbl2.out⟩)
  by_cases h5 : op = 5
  · subst h5
    cases B1 <;> cases B3 <;> cases B2 <;>
    (go_wp2_with fail; go_ret; exact ⟨rfl, hbl2.out⟩)
  by_cases h6 : op = 6
  · subst h6
    cases B3 <;>
    (go_wp2_with fail; go_ret; exact ⟨rfl, hbl2.out⟩)
  go_wp2_with fail
  go_ret
  exact ⟨by simp [h1, h2, h3, h4, h5, h6], hbl2.out⟩
end MC
end Go.Proofs.Ytjafjjfcmcpaoaa


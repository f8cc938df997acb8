/- Stage 18: contracts of the small functions. -/
import Derived.Test.YtjafjjfcmcpaoaaMmMem
import Derived.BigQuiet
import Derived.RegionTactic
namespace Go.Proofs.Ytjafjjfcmcpaoaa
open Go.ChangeShapes Go.WideShapes Go.ChangeAt Go.RowKit
set_option linter.unusedVariables false
set_option linter.unusedSimpArgs false
set_option maxRecDepth 100000
namespace MC
open IN (lt_of_some)

theorem has_any (w : World) (ao : Option Addr) (n cap : Nat) (i : Int) : Calls Try.prog 34 #[.slice ao n cap, .int .i64 i] w fun e w' => e = .returned (.bool (hasC n i)) ∧ w = w' := by
  unfold hasC
  by_cases h0 : 0 ≤ i
  · by_cases h1 : i < (n : Int)
    · go_enter Try.func34, Try.ntmps34
      go_wp2_with fail
      go_ret
      exact ⟨by simp [h0, h1], rfl⟩
    · have h2 : (n : Int) ≤ i := by omega
      go_enter Try.func34, Try.ntmps34
      go_wp2_with fail
      go_ret
      exact ⟨by simp [h1], rfl⟩
  · have h2 : i < 0 := by omega
    go_enter Try.func34, Try.ntmps34
    go_wp2_with fail
    go_ret
    exact ⟨by simp; omega, rfl⟩
theorem isR_any (w : World) (i : Int) : Calls Try.prog 35 #[.int .i64 i] w fun e w' => e = .returned (.bool (isR i)) ∧ w = w' := by
  unfold isR
  by_cases h0 : 0 ≤ i
  · by_cases h1 : i < 8
    · go_enter Try.func35, Try.ntmps35
      go_wp2_with fail
      go_ret
      exact ⟨by simp [h0, h1], rfl⟩
    · have h2 : 8 ≤ i := by omega
      go_enter Try.func35, Try.ntmps35
      go_wp2_with fail
      go_ret
      exact ⟨by simp [h1], rfl⟩
  · have h2 : i < 0 := by omega
    go_enter Try.func35, Try.ntmps35
    go_wp2_with fail
    go_ret
    exact ⟨by simp; omega, rfl⟩
theorem risR_any (w : World) (i : Int) : Calls Try.prog 40 #[.int .i64 i] w fun e w' => e = .returned (.bool (isR i)) ∧ w = w' := by
  unfold isR
  by_cases h0 : 0 ≤ i
  · by_cases h1 : i < 8
    · have h3 : i ≤ 7 := by omega
      go_enter Try.func40, Try.ntmps40
      go_wp2_with fail
      go_ret
      exact ⟨by simp [h0, h1, h3], rfl⟩
    · have h2 : 7 < i := by omega
      go_enter Try.func40, Try.ntmps40
      go_wp2_with fail
      go_ret
      exact ⟨by simp [h0, h1]; omega, rfl⟩
  · have h2 : i < 0 := by omega
    go_enter Try.func40, Try.ntmps40
    go_wp2_with fail
    go_ret
    exact ⟨by simp; omega, rfl⟩
theorem turn_any (w : World) (q : Int) (n : Nat) (hn : 0 < n) (hq : I64 q) (hm : n ≤ 9223372036854775807) : Calls Try.prog 28 #[.int .i64 q, .int .i64 (n : Int)] w fun e w' => e = .returned (.int .i64 ((turn q n : Nat) : Int)) ∧ w = w' := by
  have hlt := turn_lt (q := q) hn
  have hne : ¬ ((n : Int) = 0) := by omega
  unfold I64 at hq
  by_cases h0 : q < 0
  · have e1 : IntKind.i64.wrap (-1 - q) = -1 - q := IntWalk.i64_in _ (by omega)
    have e2 : (-1 - q).tmod (n : Int) = ((turn q n : Nat) : Int) := by
      unfold turn
      rw [if_pos h0, Int.tmod_eq_emod_of_nonneg (by omega)]
      have := Int.emod_nonneg (-1 - q) (show (n : Int) ≠ 0 by omega)
      omega
    go_enter Try.func28, Try.ntmps28
    go_wp2_with fail
    go_ret
    exact ⟨rfl, rfl⟩
  · have e2 : q.tmod (n : Int) = ((turn q n : Nat) : Int) := by
      unfold turn
      rw [if_neg h0, Int.tmod_eq_emod_of_nonneg (by omega)]
      have := Int.emod_nonneg q (show (n : Int) ≠ 0 by omega)
      omega
    go_enter Try.func28, Try.ntmps28
    go_wp2_with fail
    go_ret
    exact ⟨rfl, rfl⟩
theorem none_nil (w : World) : Calls Try.prog 27 #[.pointer none] w fun e w' => e = .returned (.bool true) ∧ w = w' := by
  go_enter Try.func27, Try.ntmps27
  go_wp2_with fail
  go_ret
  exact ⟨rfl, rfl⟩
theorem none_some {w : World} {g gc n cap : Nat} (h0 : w.cell? ⟨g, 0, none⟩ = some (.slice (some ⟨gc, 0, none⟩) n cap)) : Calls Try.prog 27 #[ptr g] w fun e w' => e = .returned (.bool false) ∧ w = w' := by
  have hb : ∀ w, (binOp .eql 38 (.slice (some ⟨gc, 0, none⟩) n cap) (.slice none 0 0)).run Try.prog w = .ok (.bool false) w := fun w => by kernel_rfl
  go_enter Try.func27, Try.ntmps27
  go_wp2_with fail
  go_ret
  exact ⟨rfl, rfl⟩
theorem swap_any {w : World} {g j : Nat} {x : Int} (h0 : w.cell? ⟨g, j, none⟩ = some (.int .i64 x)) (hf : w.frozen? ⟨g, j, none⟩ = false) (u v : Int) :
    Calls Try.prog 38 #[.pointer (some ⟨g, j, none⟩), .int .i64 u, .int .i64 v] w fun e w' => e = .returned (.int .i64 (if x = u then 1 else 0)) ∧ w' = (if x = u then w.setCell ⟨g, j, none⟩ (.int .i64 v) else w) := by
  by_cases h : x = u
  · subst h
    go_enter Try.func38, Try.ntmps38
    go_wp2_with fail
    go_ret
    exact ⟨by simp, by simp⟩
  · go_enter Try.func38, Try.ntmps38
    go_wp2_with fail
    go_ret
    exact ⟨by simp [h], by simp [h]⟩
theorem add_any {w : World} {g j : Nat} {x : Int} (h0 : w.cell? ⟨g, j, none⟩ = some (.int .i64 x)) (hf : w.frozen? ⟨g, j, none⟩ = false) (u : Int) :
    Calls Try.prog 39 #[.pointer (some ⟨g, j, none⟩), .int .i64 u] w fun e w' => e = .returned (.int .i64 x) ∧ w' = w.setCell ⟨g, j, none⟩ (.int .i64 (wr (x + u))) := by
  obtain ⟨s, hs⟩ : ∃ s, IntKind.i64.wrap (x + u) = s := ⟨_, rfl⟩
  have e : wr (x + u) = s := hs
  rw [e]
  go_enter Try.func39, Try.ntmps39
  go_wp2_with fail
  go_ret
  exact ⟨rfl, rfl⟩
theorem ended_any {w : World} {g o : Nat} {v : Value} {t : Th} {ao : Option Addr} {cap : Nat} (h : TCell w g o v t) (hv : v = .slice ao t.p.length cap) :
    Calls Try.prog 26 #[.pointer (some ⟨g, o, none⟩)] w fun e w' => e = .returned (.bool (!on t)) ∧ ∃ n, w' = w.drewN n := by
  subst hv
  obtain ⟨p, r, pc⟩ := t
  have c0 := h.p
  have c9 := h.pc
  simp only at c0 c9
  obtain ⟨n, hn⟩ : ∃ n, p.length = n := ⟨_, rfl⟩
  rw [hn] at c0
  have hon : ∀ b, (!on ⟨p, r, pc⟩) = b ↔ (!decide (0 ≤ pc ∧ pc < (n : Int))) = b := fun b => by unfold on; simp [hn]
  replace hn := W_hid hn
  by_cases h0 : pc < 0
  · have hd : decide (pc < 0) = true := by simp [h0]
    go_enter Try.func26, Try.ntmps26
    go_wp2_with fail
    go_quiet (fail)
    go_wp2_with fail
    go_ret
    refine ⟨?_, _, rfl⟩
    rw [(hon true).2 (by simp; omega)]; rfl
  · have hd : decide (pc < 0) = false := by simp [h0]
    by_cases h1 : (n : Int) ≤ pc
    · have hd2 : decide ((n : Int) ≤ pc) = true := by simp [h1]
      go_enter Try.func26, Try.ntmps26
      go_wp2_with fail
      go_quiet (fail)
      go_wp2_with fail
      go_ret
      refine ⟨?_, _, rfl⟩
      rw [(hon true).2 (by simp; omega)]; rfl
    · have hd2 : decide ((n : Int) ≤ pc) = false := by simp [h1]
      go_enter Try.func26, Try.ntmps26
      go_wp2_with fail
      go_quiet (fail)
      go_wp2_with fail
      go_ret
      refine ⟨?_, _, rfl⟩
      rw [(hon false).2 (by simp; omega)]; rfl
end MC
end Go.Proofs.Ytjafjjfcmcpaoaa

/- Contracts of package proc's closures, and of cmp.Compare at int. -/
import Derived.Test.YtahcpimpmedbiaaPrcAsk
namespace Go.Proofs.Ytahcpimpmedbiaa
open Go.ChangeShapes Go.WideShapes Go.ChangeAt Go.RowKit Go.Maps
set_option linter.unusedVariables false
set_option linter.unusedSimpArgs false
set_option maxRecDepth 100000
namespace PC
open IS (ptr I64 Nums upd)
open IN (Keeps lt_of_some)

/-- How numbers compare. -/
def cmpI (x y : Int) : Int := if x < y then -1 else if y < x then 1 else 0
theorem pNaN_any (x : Int) (w : World) : Calls Try.prog 46 #[.int .i64 x] w fun e w' => e = .returned (.bool false) ∧ w = w' := by
  have h : (x != x) = false := by simp
  go_enter Try.func46, Try.ntmps46
  go_wp2
  go_ret
  exact ⟨rfl, rfl⟩
theorem pCompare_any (x y : Int) (w : World) : Calls Try.prog 42 #[.int .i64 x, .int .i64 y] w fun e w' => e = .returned (.int .i64 (cmpI x y)) ∧ w = w' := by
  unfold cmpI
  by_cases h1 : x < y
  · rw [if_pos h1]
    go_enter Try.func42, Try.ntmps42
    go_wp2_with (go_at_call 46; refine (pNaN_any _ _).mono ?_; rintro e w' ⟨rfl, rfl⟩)
    go_ret
    exact ⟨rfl, rfl⟩
  · rw [if_neg h1]
    by_cases h2 : y < x
    · rw [if_pos h2]
      have h3 : decide (x < y) = false := by simp [h1]
      go_enter Try.func42, Try.ntmps42
      go_wp2_with (go_at_call 46; refine (pNaN_any _ _).mono ?_; rintro e w' ⟨rfl, rfl⟩)
      go_ret
      exact ⟨rfl, rfl⟩
    · rw [if_neg h2]
      have h3 : decide (x < y) = false := by simp [h1]
      have h4 : decide (y < x) = false := by simp [h2]
      go_enter Try.func42, Try.ntmps42
      go_wp2_with (go_at_call 46; refine (pNaN_any _ _).mono ?_; rintro e w' ⟨rfl, rfl⟩)
      go_ret
      exact ⟨rfl, rfl⟩

/-- A process's block. -/
def PBk (w : World) (g : Nat) (x : Pr) : Prop := Blk w g 43 (prow x)
theorem PBk.drew {w : World} {g : Nat} {x : Pr} (h : PBk w g x) (n : Nat) : PBk (w.drewN n) g x := h
theorem psel1_any {w : World} {a b : Nat} {x y : Pr} (ha : PBk w a x) (hb : PBk w b y) :
    Calls Try.prog 41 #[.pointer (some ⟨a, 0, none⟩), .pointer (some ⟨b, 0, none⟩)] w fun e w' => e = .returned (.int .i64 (cmpI x.pid y.pid)) ∧ ∃ n, w' = w.drewN n := by
  have h0 : ∀ n, (w.drewN n).cell? ⟨a, 0, none⟩ = some (.int .i64 x.pid) := fun n => Blk.cell (w := w) ha (j := 0) rfl
  have h1 : ∀ n, (w.drewN n).cell? ⟨b, 0, none⟩ = some (.int .i64 y.pid) := fun n => Blk.cell (w := w) hb (j := 0) rfl
  have i0 := h0 0
  have i1 := h1 0
  obtain ⟨p, hp⟩ : ∃ p, x.pid = p := ⟨_, rfl⟩
  obtain ⟨q, hq⟩ : ∃ q, y.pid = q := ⟨_, rfl⟩
  have hc : ∀ w, Calls Try.prog 42 #[.int .i64 p, .int .i64 q] w fun e w' => e = .returned (.int .i64 (cmpI p q)) ∧ w' = w := fun w => (pCompare_any p q w).mono fun _ _ h => ⟨h.1, h.2.symm⟩
  simp only [hp, hq] at h0 h1 i0 i1 ⊢
  obtain ⟨r, hr⟩ : ∃ r, cmpI p q = r := ⟨_, rfl⟩
  rw [hr] at hc ⊢
  clear ha hb hr hp hq
  go_enter Try.func41, Try.ntmps41
  go_wp2_with fail
  go_quiet ((go_at_call 42; refine Calls.quiet_of_same (hc _)))
  go_wp2_with fail
  go_ret
  exact ⟨rfl, _, rfl⟩
theorem pkid_any {w : World} {a b c : Nat} {x : Pr} {par child : Int} (ha : PBk w a x) (hb : w.cell? ⟨b, 0, none⟩ = some (.int .i64 par)) (hc : w.cell? ⟨c, 0, none⟩ = some (.int .i64 child)) :
    Calls Try.prog 43 #[.pointer (some ⟨a, 0, none⟩), .pointer (some ⟨b, 0, none⟩), .pointer (some ⟨c, 0, none⟩)] w fun e w' => e = .returned (.bool (kid par child x)) ∧ ∃ n, w' = w.drewN n := by
  have i0 := Blk.cell (w := w) ha (j := 0) rfl
  have i1 := Blk.cell (w := w) ha (j := 1) rfl
  unfold kid
  obtain ⟨p, hp⟩ : ∃ p, x.pid = p := ⟨_, rfl⟩
  obtain ⟨q, hq⟩ : ∃ q, x.par = q := ⟨_, rfl⟩
  simp only [hp, hq] at i0 i1 ⊢
  clear ha hp hq
  by_cases h1 : q = par
  · subst h1
    by_cases h2 : child = 0
    · subst h2
      simp only [decide_true, Bool.true_and, Bool.true_or]
      go_enter Try.func43, Try.ntmps43
      go_wp2_with fail
      go_quiet (fail)
      go_wp2_with fail
      go_ret
      exact ⟨rfl, _, rfl⟩
    · have h3 : (child == 0) = false := by simp [h2]
      simp only [decide_true, Bool.true_and, h2, decide_false, Bool.false_or]
      by_cases h4 : p = child
      · subst h4
        simp only [decide_true]
        go_enter Try.func43, Try.ntmps43
        go_wp2_with fail
        go_quiet (fail)
        go_wp2_with fail
        go_ret
        exact ⟨rfl, _, rfl⟩
      · have h5 : (p == child) = false := by simp [h4]
        simp only [h4, decide_false]
        go_enter Try.func43, Try.ntmps43
        go_wp2_with fail
        go_quiet (fail)
        go_wp2_with fail
        go_ret
        exact ⟨rfl, _, rfl⟩
  · have h3 : (q == par) = false := by simp [h1]
    simp only [h1, decide_false, Bool.false_and]
    go_enter Try.func43, Try.ntmps43
    go_wp2_with fail
    go_quiet (fail)
    go_wp2_with fail
    go_ret
    exact ⟨rfl, _, rfl⟩
theorem pall1_any (v : Value) (w : World) : Calls Try.prog 32 #[v] w fun e w' => e = .returned (.bool true) ∧ ∃ n, w' = w.drewN n := by
  go_enter Try.func32, Try.ntmps32
  go_wp2
  go_ret
  exact ⟨rfl, 0, rfl⟩
end PC
end Go.Proofs.Ytahcpimpmedbiaa

/- Contracts of package proc: none, running, isNice; calls of no table. -/
import Derived.Test.YtahcpimpmedbiaaPrcMem
import Derived.WalkLawsBesides
import Derived.Deep.QuietTactic
import Derived.BigQuiet
namespace Go.Proofs.Ytahcpimpmedbiaa
open Go.ChangeShapes Go.WideShapes Go.ChangeAt Go.RowKit Go.Maps
set_option linter.unusedVariables false
set_option linter.unusedSimpArgs false
set_option maxRecDepth 100000
namespace PC
open IS (ptr I64 Nums upd)
open IN (Keeps lt_of_some)

theorem pnone_nil (w : World) : Calls Try.prog 30 #[.pointer none] w fun e w' => e = .returned (.bool true) ∧ w = w' := by
  go_enter Try.func30, Try.ntmps30
  go_wp2
  go_ret
  exact ⟨rfl, rfl⟩
theorem pisNice_any (n : Int) (w : World) : Calls Try.prog 34 #[.int .i64 n] w fun e w' => e = .returned (.bool (isNice n)) ∧ w = w' := by
  obtain ⟨r, hr⟩ : ∃ r, isNice n = r := ⟨_, rfl⟩
  rw [hr]
  by_cases h1 : -20 ≤ n
  · by_cases h2 : n ≤ 19
    · have : r = true := by rw [← hr]; simp [isNice, h1, h2]
      subst this
      clear hr
      go_enter Try.func34, Try.ntmps34
      go_wp2
      go_ret
      exact ⟨rfl, rfl⟩
    · have : r = false := by rw [← hr]; simp [isNice, h1, h2]
      subst this
      clear hr
      go_enter Try.func34, Try.ntmps34
      go_wp2
      go_ret
      exact ⟨rfl, rfl⟩
  · have : r = false := by rw [← hr]; simp [isNice, h1]
    subst this
    clear hr
    go_enter Try.func34, Try.ntmps34
    go_wp2
    go_ret
    exact ⟨rfl, rfl⟩
theorem running_nil (p : Int) (w : World) : Calls Try.prog 33 #[.pointer none, .int .i64 p] w fun e w' => e = .returned (.tuple #[.pointer none, .int .i64 1]) ∧ w = w' := by
  go_enter Try.func33, Try.ntmps33
  go_wp2_with (go_at_call 30; refine (pnone_nil _).mono ?_; rintro e w' ⟨rfl, rfl⟩)
  go_ret2
  exact ⟨rfl, rfl⟩
section
variable {base : Nat} {w w' : World} {tb mb : Nat} {M : Int → Option Nat} {N : Nat} {S : Int → Option Pr}
theorem pnone_any (h : TM base w tb mb M N S) : Calls Try.prog 30 #[.pointer (some ⟨tb, 0, none⟩)] w fun e w' => e = .returned (.bool false) ∧ w = w' := by
  have c0 := h.box.cell (j := 0) rfl
  have hb : ∀ w, (binOp .eql 56 (.map (some mb)) (.map none)).run Try.prog w = .ok (.bool false) w := fun w => by kernel_rfl
  clear h
  go_enter Try.func30, Try.ntmps30
  go_wp2
  go_ret
  exact ⟨rfl, rfl⟩
theorem running_yes (h : TM base w tb mb M N S) {p : Int} (hp : I64 p) {g : Nat} {x : Pr} (hM : M p = some g) (hS : S p = some x) (hx : x.st = 1) :
    Calls Try.prog 33 #[.pointer (some ⟨tb, 0, none⟩), .int .i64 p] w fun e w' => e = .returned (.tuple #[.pointer (some ⟨g, 0, none⟩), .int .i64 0]) ∧ w = w' := by
  have hn := pnone_any h
  have c0 := h.box.cell (j := 0) rfl
  have hlk := h.mp.look p hp
  rw [hM] at hlk
  have hb := h.node p g x hM hS
  have c2 := hb.cell (j := 2) rfl
  rw [hx] at c2
  simp only [ptr] at hlk
  clear h hM hS hb hx
  go_enter Try.func33, Try.ntmps33
  go_wp2_with (go_at_call 30; refine hn.mono ?_; rintro e w' ⟨rfl, rfl⟩)
  go_ret2
  exact ⟨rfl, rfl⟩
theorem running_no (h : TM base w tb mb M N S) {p : Int} (hp : I64 p) (hr : isRun (S p) = false) :
    Calls Try.prog 33 #[.pointer (some ⟨tb, 0, none⟩), .int .i64 p] w fun e w' => e = .returned (.tuple #[.pointer none, .int .i64 19]) ∧ w = w' := by
  have hn := pnone_any h
  have c0 := h.box.cell (j := 0) rfl
  have hlk := h.mp.look p hp
  cases hS : S p with
  | none =>
    rw [(h.dom p).2 hS] at hlk
    simp only [ptr] at hlk
    clear h hr hS
    go_enter Try.func33, Try.ntmps33
    go_wp2_with (go_at_call 30; refine hn.mono ?_; rintro e w' ⟨rfl, rfl⟩)
    go_ret2
    exact ⟨rfl, rfl⟩
  | some x =>
    obtain ⟨g, hM⟩ := h.some' hS
    rw [hM] at hlk
    simp only [ptr] at hlk
    have c2 := (h.node p g x hM hS).cell (j := 2) rfl
    rw [hS] at hr
    have hx : ¬ x.st = 1 := by simpa [isRun] using hr
    obtain ⟨a, ha⟩ : ∃ a, x.st = a := ⟨_, rfl⟩
    rw [ha] at c2 hx
    have h1 : (a != 1) = true := by simp [hx]
    clear h hr hS hM ha
    go_enter Try.func33, Try.ntmps33
    go_wp2_with (go_at_call 30; refine hn.mono ?_; rintro e w' ⟨rfl, rfl⟩)
    go_ret2
    exact ⟨rfl, rfl⟩
end
end PC
end Go.Proofs.Ytahcpimpmedbiaa

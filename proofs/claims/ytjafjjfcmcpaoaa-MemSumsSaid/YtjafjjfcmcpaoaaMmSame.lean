/- Stage 18, the document: lists compared. -/
import Derived.Test.YtjafjjfcmcpaoaaMmMake
namespace Go.Proofs.Ytjafjjfcmcpaoaa
open Go.ChangeShapes Go.WideShapes Go.ChangeAt Go.RowKit
set_option linter.unusedVariables false
set_option linter.unusedSimpArgs false
set_option maxRecDepth 100000
namespace MC
open IN (lt_of_some)
/-- Two lists of numbers, compared. -/
def NuL (w : World) (ao : Option Addr) (n : Nat) (l : List Nat) : Prop := n = l.length ∧ ∀ (j x : Nat), l[j]? = some x → ∃ g o, ao = some ⟨g, o, none⟩ ∧ w.cell? ⟨g, o + j, none⟩ = some (.int .i64 (x : Int))
theorem nul_own {w : World} {base n cap : Nat} {ao : Option Addr} {l : List Nat} (h : w.ownsRow base TI 1 (.slice ao n cap) l.length (ncl l)) : NuL w ao n l := by
  obtain ⟨a1, c1, he⟩ := Own.form h
  simp only [Value.slice.injEq] at he
  obtain ⟨rfl, rfl, rfl⟩ := he
  refine ⟨rfl, fun j x hj => ?_⟩
  rcases h.2 with ⟨h1, h2⟩ | ⟨g, c2, cur, h1, -⟩
  · have := (List.getElem?_eq_some_iff.1 hj).1
    omega
  · simp only [Value.slice.injEq, true_and] at h1
    obtain ⟨rfl, rfl⟩ := h1
    refine ⟨g, 0, rfl, ?_⟩
    have := h.cells (g := g) rfl j (.int .i64 (x : Int)) (by rw [ncl_get, hj]; rfl)
    rwa [Addr.add_lit] at this
theorem Same_yes {w : World} {a1 a2 : Option Addr} {n c1 c2 : Nat} {l : List Nat} (h1 : NuL w a1 n l) (h2 : NuL w a2 n l) (hn : n ≤ 60000) :
    Calls Try.prog 16 #[.slice a1 n c1, .slice a2 n c2] w fun e w' => e = .returned (.bool true) ∧ Below w.heap.size w w' := by
  have hnl := h1.1
  replace h1 := W_hid h1
  replace h2 := W_hid h2
  replace hnl := W_hid hnl
  go_enter Try.func16, Try.ntmps16
  go_wp2_with fail
  go_loopw [5] (fun i wr => ∃ k : Nat, i = .int .i64 (k : Int) ∧ k ≤ n ∧ ∃ m, wr = w.drewN m) (fun i _ => n - (intOf i).toNat)
  case atStart => exact ⟨0, rfl, Nat.zero_le _, 0, rfl⟩
  case round =>
    obtain ⟨k, rfl, hkn, m, rfl⟩ := hrel
    by_cases hlt : k < n
    · have hkl : k < l.length := by have := hnl.out; omega
      obtain ⟨g, o, rfl, q1⟩ := h1.out.2 k l[k] (List.getElem?_eq_getElem hkl)
      obtain ⟨g2, o2, rfl, q2⟩ := h2.out.2 k l[k] (List.getElem?_eq_getElem hkl)
      obtain ⟨x, hx⟩ : ∃ x : Int, ((l[k] : Nat) : Int) = x := ⟨_, rfl⟩
      rw [hx] at q1 q2
      replace hx := W_hid hx
      have hkp : IntKind.i64.wrap ((k : Int) + 1) = ((k + 1 : Nat) : Int) := by rw [IntWalk.i64_in _ (by omega)]; omega
      have hi1 : (k : Int) < (n : Int) := by omega
      replace hkp := W_hid hkp
      have hkp2 := hkp.out
      go_wp2_with fail
      go_quiet (fail)
      go_wp2_with fail
      refine ⟨⟨k + 1, by simp [hkp2], by omega, ?_⟩, by simp [intOf]; omega⟩
      exact ⟨_, rfl⟩
    · have hkn2 : k = n := by omega
      subst hkn2
      go_wp2_with fail
      go_ret
      exact ⟨rfl, below_drewN (Below.refl _ _) m⟩
end MC
end Go.Proofs.Ytjafjjfcmcpaoaa

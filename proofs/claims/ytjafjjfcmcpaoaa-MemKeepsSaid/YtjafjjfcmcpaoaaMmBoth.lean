/- Stage 18: the program's machine and the document's, in one world. -/
import Derived.Test.YtjafjjfcmcpaoaaMmOpen
import Derived.Test.YtjafjjfcmcpaoaaRefMmN
namespace Go.Proofs.Ytjafjjfcmcpaoaa
open Go.ChangeShapes Go.WideShapes Go.ChangeAt Go.RowKit
set_option linter.unusedVariables false
set_option linter.unusedSimpArgs false
set_option maxRecDepth 100000
namespace MC
open IN (lt_of_some)

/-- Both machines, and what was there before. -/
structure J (w0 w : World) (gp gd : Nat) (N : Nat) (Sp Sd : Ma) : Prop where
  ex : ∃ a1 b1 a2 b2, w0.heap.size ≤ a1 ∧ b1 ≤ a2 ∧ PW w0.heap.size a1 b1 w gp Sp ∧ DW w0.heap.size a2 b2 w gd Sd
  bel : Below w0.heap.size w0 w
  fp : Fit N Sp
  fd : Fit N Sd
section
variable {w0 w w' : World} {gp gd N : Nat} {Sp Sd : Ma}
theorem PW.ab {lo a b : Nat} {g : Nat} {S : Ma} (h : PW lo a b w g S) : a < b ∧ b ≤ w.heap.size := by
  obtain ⟨gc, vt, vl, L, h⟩ := h
  have := h.gm1
  have := h.gm2
  have := h.raw.top
  omega
theorem DW.ab {lo a b : Nat} {g : Nat} {S : Ma} (h : DW lo a b w g S) : a < b ∧ b ≤ w.heap.size := by
  obtain ⟨gc, vt, L, h⟩ := h
  have := h.gm1
  have := h.gm2
  have := h.raw.top
  omega
theorem J.keep (h : J w0 w gp gd N Sp Sd) (hb : Below w.heap.size w w') : J w0 w' gp gd N Sp Sd := by
  obtain ⟨a1, b1, a2, b2, h1, h2, h3, h4⟩ := h.ex
  exact ⟨⟨a1, b1, a2, b2, h1, h2, h3.keep hb, h4.keep hb⟩, h.bel.trans (hb.mono h.bel.size), h.fp, h.fd⟩
theorem J.pStep (h : J w0 w gp gd N Sp Sd) {q : Int} (hq : I64 q) : Calls Try.prog 12 #[ptr gp, .int .i64 q] w fun e w' => e = .returned (.int .i64 (one Sp q).2) ∧ J w0 w' gp gd N (one Sp q).1 Sd := by
  obtain ⟨a1, b1, a2, b2, h1, h2, h3, h4⟩ := h.ex
  refine (Step_any h3 h.fp hq).mono ?_
  rintro e w' ⟨rfl, h5, hw⟩
  have h3b := h3.ab
  have h4b := h4.ab
  have hs := h.bel.size
  exact ⟨rfl, ⟨a1, b1, a2, b2, h1, h2, h5, h4.win hw (.inr h2) h1⟩, h.bel.trans (hw.below hs h1), one_fit h.fp q, h.fd⟩
theorem J.dStep (h : J w0 w gp gd N Sp Sd) {q : Int} (hq : I64 q) : Calls Try.prog 13 #[ptr gd, .int .i64 q] w fun e w' => e = .returned (.int .i64 (one Sd q).2) ∧ J w0 w' gp gd N Sp (one Sd q).1 := by
  obtain ⟨a1, b1, a2, b2, h1, h2, h3, h4⟩ := h.ex
  refine (rStep_any h4 h.fd hq).mono ?_
  rintro e w' ⟨rfl, h5, hw⟩
  have h3b := h3.ab
  have h4b := h4.ab
  have hs := h.bel.size
  exact ⟨rfl, ⟨a1, b1, a2, b2, h1, h2, h3.win hw (.inl h2) (by omega), h5⟩, h.bel.trans (hw.below hs (by omega)), h.fp, one_fit h.fd q⟩
theorem J.pAt (h : J w0 w gp gd N Sp Sd) (t : Int) : Calls Try.prog 14 #[ptr gp, .int .i64 t] w fun e w' => e = .returned (.int .i64 (atM Sp t)) ∧ J w0 w' gp gd N Sp Sd := by
  obtain ⟨a1, b1, a2, b2, h1, h2, h3, h4⟩ := h.ex
  refine (At_any h3 t).mono ?_
  rintro e w' ⟨rfl, hb⟩
  exact ⟨rfl, h.keep hb⟩
theorem J.dAt (h : J w0 w gp gd N Sp Sd) (t : Int) : Calls Try.prog 15 #[ptr gd, .int .i64 t] w fun e w' => e = .returned (.int .i64 (atM Sd t)) ∧ w = w' := by
  obtain ⟨a1, b1, a2, b2, h1, h2, h3, h4⟩ := h.ex
  exact rAt_any h4 t
theorem J.pReg (h : J w0 w gp gd N Sp Sd) (t i : Int) : Calls Try.prog 21 #[ptr gp, .int .i64 t, .int .i64 i] w fun e w' => e = .returned (.int .i64 (regM Sp t i)) ∧ J w0 w' gp gd N Sp Sd := by
  obtain ⟨a1, b1, a2, b2, h1, h2, h3, h4⟩ := h.ex
  refine (Reg_any h3 t i).mono ?_
  rintro e w' ⟨rfl, hb⟩
  exact ⟨rfl, h.keep hb⟩
theorem J.dReg (h : J w0 w gp gd N Sp Sd) (t i : Int) : Calls Try.prog 22 #[ptr gd, .int .i64 t, .int .i64 i] w fun e w' => e = .returned (.int .i64 (regM Sd t i)) ∧ w = w' := by
  obtain ⟨a1, b1, a2, b2, h1, h2, h3, h4⟩ := h.ex
  exact rReg_any h4 t i
theorem J.pCell (h : J w0 w gp gd N Sp Sd) (i : Int) : Calls Try.prog 19 #[ptr gp, .int .i64 i] w fun e w' => e = .returned (.int .i64 (cellM Sp i)) ∧ w = w' := by
  obtain ⟨a1, b1, a2, b2, h1, h2, h3, h4⟩ := h.ex
  exact Cell_any h3 i
theorem J.dCell (h : J w0 w gp gd N Sp Sd) (i : Int) : Calls Try.prog 20 #[ptr gd, .int .i64 i] w fun e w' => e = .returned (.int .i64 (cellM Sd i)) ∧ w = w' := by
  obtain ⟨a1, b1, a2, b2, h1, h2, h3, h4⟩ := h.ex
  exact rCell_any h4 i
theorem J.pLive (h : J w0 w gp gd N Sp Sd) : Calls Try.prog 17 #[ptr gp] w fun e w' => ∃ ao cap, e = .returned (.slice ao (live Sp.t).length cap) ∧ NuL w' ao (live Sp.t).length (live Sp.t) ∧ J w0 w' gp gd N Sp Sd ∧ Below w.heap.size w w' := by
  obtain ⟨a1, b1, a2, b2, h1, h2, h3, h4⟩ := h.ex
  refine (Live_any h3 h.fp.n).mono ?_
  rintro e w' ⟨v, rfl, ho, hb⟩
  obtain ⟨ao, cap, rfl⟩ := Own.form ho
  exact ⟨ao, cap, rfl, nul_own ho, h.keep hb, hb⟩
theorem J.dLive (h : J w0 w gp gd N Sp Sd) : Calls Try.prog 18 #[ptr gd] w fun e w' => ∃ ao cap, e = .returned (.slice ao (live Sd.t).length cap) ∧ NuL w' ao (live Sd.t).length (live Sd.t) ∧ J w0 w' gp gd N Sp Sd ∧ Below w.heap.size w w' := by
  obtain ⟨a1, b1, a2, b2, h1, h2, h3, h4⟩ := h.ex
  refine (rLive_any h4 h.fd.n).mono ?_
  rintro e w' ⟨v, rfl, ho, hb⟩
  obtain ⟨ao, cap, rfl⟩ := Own.form ho
  exact ⟨ao, cap, rfl, nul_own ho, h.keep hb, hb⟩
theorem NuL.below {ao : Option Addr} {n : Nat} {l : List Nat} (h : NuL w ao n l) (hb : Below w.heap.size w w') : NuL w' ao n l := by
  refine ⟨h.1, fun j x hj => ?_⟩
  obtain ⟨g, o, h1, h2⟩ := h.2 j x hj
  exact ⟨g, o, h1, by rw [hb.cell (cell_lt h2)]; exact h2⟩
theorem one_i64 (S : Ma) (hS : S.t.length ≤ 64) (q : Int) : I64 (one S q).2 := by
  unfold one
  rcases e : pick S q with _ | i
  · exact (show I64 (-1) from ⟨by decide, by decide⟩)
  · obtain ⟨t, ht, -⟩ := pick_mem e
    have := (List.getElem?_eq_some_iff.1 ht).1
    exact ⟨by simp only; omega, by simp only; omega⟩
end
end MC
end Go.Proofs.Ytjafjjfcmcpaoaa

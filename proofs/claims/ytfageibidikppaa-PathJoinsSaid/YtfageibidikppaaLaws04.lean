/- The laws of layer 4 (package haywardlaw04), the first part: what they share, and PathReads: for every input it returns true, and its arguments read as before. No further condition. -/
import Derived.Test.YtfageibidikppaaPathSame
import Derived.ShutString
import Derived.ChangeOld
import Derived.SizedLaws
namespace Go.Proofs.Ytfageibidikppaa
open Go.ChangeShapes Go.WideShapes Go.ChangeAt Go.RowKit
open Go.ChangeMaps (open_string shut_string)
set_option linter.unusedVariables false
set_option linter.unusedSimpArgs false

theorem laidOut : laidOutB Try.prog = true := by kernel_rfl

def lit : ByteArray := ⟨#[47, 47, 97, 47, 98, 47]⟩
theorem lit_facts : PM.perr lit = 0 ∧ PM.pA lit = true ∧ PM.pD lit = true ∧ PM.pN lit = [⟨#[97]⟩, ⟨#[98]⟩] := by decide

set_option maxHeartbeats 1000000 in
theorem shown_any (w : World) : Calls Try.prog 9 #[] w fun e w' => e = .returned (.bool true) ∧ Below w.heap.size w w' := by
  have hP := fun w => Parse_all lit w (by decide)
  have hP := W_hid hP
  go_enter Try.func9, Try.ntmps9
  go_wp2_with fail
  refine (hP.out _).mono ?_
  rintro e w1 ⟨v, rfl, hown, bel⟩
  obtain ⟨r1, r2, r3, r4⟩ := lit_facts
  rw [r4] at hown
  obtain ⟨ao, cap, rfl⟩ := own_form hown
  obtain ⟨blk, off, rfl, hc⟩ := (SS_own hown).at_ (by decide)
  have hc1 := (hc 1 (by decide))
  have hc1' : ∀ o, (w1.alloc o).cell? ⟨blk, off + 1, none⟩ = some (.string ⟨#[98]⟩) := fun o => (World.cell?_alloc_lt w1 o _ (World.block_lt_of_cell? w1 _ hc1)).trans hc1
  clear hc hc1
  go_wp2
  go_ret
  exact ⟨rfl, bel.alloc bel.size _⟩

theorem same_refl (a : Bool) (l : List ByteArray) (d : Bool) : same a l d a l d = true := by simp [same]

set_option maxHeartbeats 1000000 in
theorem PathReads_walk (a0 : ByteArray) (w : World) (w0 : a0.size ≤ maxLen) :
    Calls Try.prog 3 #[.string a0] w fun e w' => e = .returned (.bool true) ∧ Below w.heap.size w w' := by
  have hP := W_hid (fun w => Parse_all a0 w w0)
  have hR := W_hid (fun w => rParse_all a0 w w0)
  have hN := W_hid (fun w => IsName_any a0 w w0)
  have hM := W_hid (fun w => rIsName_any a0 w w0)
  go_enter Try.func3, Try.ntmps3
  go_wp2_with fail
  refine (shown_any _).mono ?_
  rintro e w1 ⟨rfl, bel1⟩
  go_wp2_with fail
  refine (hP.out _).mono ?_
  rintro e w2 ⟨v, rfl, hown, bel2⟩
  obtain ⟨ao, cap, rfl⟩ := own_form hown
  have s2 := SS_own hown
  go_wp2_with fail
  refine (hR.out _).mono ?_
  rintro e w3 ⟨v', rfl, hown', bel3⟩
  obtain ⟨ao', cap', rfl⟩ := own_form hown'
  have s3 := (SS_own hown').alloc (.cells #[.bool (PM.pA a0), .slice ao' (PM.pN a0).length cap', .bool (PM.pD a0)] 25)
  have s2' := ((s2.alloc _).below bel3 (Nat.le_refl _)).alloc (.cells #[.bool (PM.pA a0), .slice ao' (PM.pN a0).length cap', .bool (PM.pD a0)] 25)
  have p2 := ((PB.new w2 (PM.pA a0) (.slice ao (PM.pN a0).length cap) (PM.pD a0) rfl).below bel3 (by simp)).alloc (.cells #[.bool (PM.pA a0), .slice ao' (PM.pN a0).length cap', .bool (PM.pD a0)] 25)
  have c0 := p2.c0
  have c1 := p2.c1
  have c2 := p2.c2
  have HS := W_hid (Same_any (PM.pA a0) (PM.pD a0) (PM.pA a0) (PM.pD a0) _ _ _ _ _ _ _ _ _ s2' s3)
  rw [same_refl] at HS
  have bel3' : Below w.heap.size w w3 := (bel1.trans (bel2.mono bel1.size)).alloc (Nat.le_trans bel1.size bel2.size) _ |>.trans (bel3.mono (by simp; have := bel1.size; have := bel2.size; omega))
  clear s2 s3 s2' p2 hown hown'
  generalize PM.perr a0 = pe at *
  generalize PM.pA a0 = pa at *
  generalize PM.pD a0 = pd at *
  generalize PM.pN a0 = pn at *
  generalize PM.name a0 = nm at *
  go_wp2_with fail
  refine HS.out.mono ?_
  rintro e w4 ⟨rfl, bel4⟩
  go_wp2_with fail
  refine (hN.out _).mono ?_
  rintro e w' ⟨rfl, rfl⟩
  go_wp2_with fail
  refine (hM.out _).mono ?_
  rintro e w' ⟨rfl, rfl⟩
  go_wp2
  go_ret
  exact ⟨rfl, (bel3'.alloc bel3'.size _).trans (bel4.mono (by simp; have := bel3'.size; omega))⟩

set_option maxRecDepth 100000 in
theorem PathReads_lifted (os : Os) (started : os.Started) (H : Type) (enc : TypeId × Value → H) :
    ReturnsInHanded {} Try.checked os 3 .any (Rows.pathReadsSpec.pre6 enc Try.prog Try.f3 Rows.pathReadsRow.domain false) (Rows.pathReadsSpec.post enc Try.prog Try.f3 false true false false) := by
  refine returnsInHanded_of_change (C := Try.checked) (by kernel_rfl) started (by kernel_rfl) Try.func3
    (ChangeSpec.witness6 (enc := enc) (C := Try.checked) false ⟨#[], #[.string ByteArray.empty], []⟩ 8 (by kernel_rfl) (by kernel_rfl) (by kernel_rfl) (by kernel_rfl)) ?_
  intro W base args ds gs before hval0 hW hcnd _
  have hval : ∀ (j : Nat) t v, Try.f3.params[j]? = some t → args[j]? = some v → Value.okWide Try.prog W .any base t v := hval0
  have hW' := hW
  obtain ⟨p, q, hA0, hV, rfl, hfz, hnd⟩ := hW
  have hA : DataW.TrodAll enc Try.prog W 0 (fun _ => true) true Try.f3.params.toList args.toList ds p := hA0
  rw [Try.params3] at hA hval
  obtain ⟨v0, vs0, d0, ds0, p0, q0, hargs, rfl, rfl, h0, r0⟩ := trodAll_cons hA
  obtain ⟨rfl, rfl, rfl⟩ := trodAll_nil r0
  obtain rfl : args = #[v0] := by cases args; simp_all
  obtain ⟨rfl, rfl⟩ := trodVars_none hV
  obtain ⟨a0, rfl, rfl, rfl, w0⟩ := open_string Try.underlying9 (hval 0 9 v0 rfl rfl) h0
  clear hA0 hval0
  refine (PathReads_walk a0 W w0).mono fun e W' ⟨he, bel⟩ => ?_
  subst he
  exact ⟨_, rfl, _, _, _, [], _, [], hW', trodAll_mk1 (shut_bool Try.underlying4 _), (trodAll_cons_mk (shut_string Try.underlying9 w0) trodAll_mk0), rfl, bel.frame _, fun h => by cases h⟩

/-- The given statement of PathReads. -/
theorem PathReads_holds : Rows.PathReadsSaid :=
  OpenClaim.holds_of_wide 3 Try.f3 rfl rfl rfl rfl rfl rfl rfl ⟨rfl, rfl, rfl, rfl, rfl⟩ rfl rfl rfl rfl rfl (by kernel_rfl) Try.func3 (by kernel_rfl)
    (of_decide_eq_true (by kernel_rfl)) (by unfold Func.isWrapper; first | (rw [if_pos (by decide +kernel)]; kernel_rfl) | (rw [if_neg (by decide +kernel)]; exact ⟨rfl, rfl⟩))
    (fun os started H enc _ => PathReads_lifted os started H enc)

end Go.Proofs.Ytfageibidikppaa

/- The laws of layer 7 (package haywardlaw07) on addresses' places: EntryPlaces and EntryWhole: for every input they return true, and their arguments read as before. No further condition. -/
import Derived.Test.YtgfoojnkgfikbaaEntryIdx
import Derived.OpenShut
import Derived.ShutString
import Derived.ChangeOld
namespace Go.Proofs.Ytgfoojnkgfikbaa
open Go.ChangeShapes Go.WideShapes Go.ChangeAt Go.RowKit
set_option linter.unusedVariables false
set_option linter.unusedSimpArgs false

theorem shown_idx (w : World) : Calls Try.prog 5 #[.int .u64 4096, .int .i64 1] w fun e w' => e = .returned (.tuple #[.int .i64 1, .int .i64 0]) ∧ Below w.heap.size w w' :=
  Index_yes 4096 1 (by decide) (by decide) (by decide) w

/-- Program and document answer alike. -/
theorem both_idx (va : Nat) (L : Int) : ∃ i E : Int, (∀ w, Calls Try.prog 5 #[.int .u64 va, .int .i64 L] w fun e w' => e = .returned (.tuple #[.int .i64 i, .int .i64 E]) ∧ Below w.heap.size w w') ∧
    (∀ w, Calls Try.prog 6 #[.int .u64 va, .int .i64 L] w fun e w' => e = .returned (.tuple #[.int .i64 i, .int .i64 E]) ∧ w = w') := by
  by_cases h : 1 ≤ L ∧ L ≤ 4 ∧ va < 140737488355328
  · obtain ⟨l, rfl⟩ : ∃ l : Nat, L = l := ⟨L.toNat, by omega⟩
    exact ⟨_, _, fun w => Index_yes va l h.2.2 (by omega) (by omega) w, fun w => rIndex_yes va l h.2.2 (by omega) (by omega) w⟩
  · refine ⟨0, 2, fun w => (Index_no va L h w).mono ?_, fun w => rIndex_no va L h w⟩
    rintro e w' ⟨rfl, rfl⟩
    exact ⟨rfl, Below.refl _ _⟩

set_option maxRecDepth 100000 in
set_option maxHeartbeats 1000000 in
theorem EntryPlaces_walk (a0 a1 : Int) (w : World) (w0 : (Lit.int .u64 a0).wf = true) (w1 : (Lit.int .i64 a1).wf = true) :
    Calls Try.prog 3 #[.int .u64 a0, .int .i64 a1] w fun e w' => e = .returned (.bool true) ∧ Below w.heap.size w w' := by
  have hb := bounds_u64 w0
  obtain ⟨va, rfl⟩ : ∃ va : Nat, a0 = va := ⟨a0.toNat, by omega⟩
  obtain ⟨i, E, hP, hR⟩ := both_idx va a1
  have HP := W_hid hP
  have HR := W_hid hR
  clear hP hR w0 w1
  go_enter Try.func3, Try.ntmps3
  go_wp2_with fail
  refine (shown_idx _).mono ?_
  rintro e w1 ⟨rfl, bel1⟩
  go_wp2_with fail
  refine (HP.out _).mono ?_
  rintro e w2 ⟨rfl, bel2⟩
  go_wp2_with fail
  refine (HR.out _).mono ?_
  rintro e w3 ⟨rfl, rfl⟩
  go_wp2
  go_ret
  exact ⟨rfl, bel1.trans (bel2.mono bel1.size)⟩

set_option maxRecDepth 100000 in
set_option maxHeartbeats 1000000 in
theorem EntryWhole_walk (a0 : Int) (w : World) (w0 : (Lit.int .u64 a0).wf = true) :
    Calls Try.prog 4 #[.int .u64 a0] w fun e w' => e = .returned (.bool true) ∧ Below w.heap.size w w' := by
  have hb := bounds_u64 w0
  obtain ⟨va, rfl⟩ : ∃ va : Nat, a0 = va := ⟨a0.toNat, by omega⟩
  clear w0
  by_cases hva : va < 140737488355328
  · have hI := W_hid (fun l h1 h4 w => Index_yes va l hva h1 h4 w)
    have hall := W_hid (EN.low_all va hva)
    go_enter Try.func4, Try.ntmps4
    go_wp2_with fail
    refine (shown_idx _).mono ?_
    rintro e w1 ⟨rfl, bel1⟩
    go_wp2
    go_loopw [5, 6, 7, 8, 9] (fun s z i _ _ wr => ∃ k : Nat, k ≤ 4 ∧ i = .int .i64 ((k + 1 : Nat) : Int) ∧ s = .int .u64 ((EN.low va k : Nat) : Int) ∧ z = .int .u64 ((EN.sz k : Nat) : Int) ∧ Below w.heap.size w wr) (fun _ _ i _ _ _ => (5 - intOf i).toNat)
    case atStart => exact ⟨0, by omega, rfl, rfl, rfl, bel1⟩
    case round =>
      obtain ⟨k, hk, rfl, rfl, rfl, bel⟩ := hrel
      by_cases hlt : k < 4
      · have d : decide (((k + 1 : Nat) : Int) ≤ 4) = true := by simp; omega
        have hz := EN.sz_le (k + 1) (by omega)
        have hz1 := W_hid (EN.sz_succ k)
        have hl1 := W_hid (EN.low_succ va k)
        have hl2 := EN.low_lt va (k + 1)
        have hi := EN.idx_lt va (k + 1)
        have hII : Hid (∀ w, Calls Try.prog 5 #[.int .u64 va, .int .i64 ((k + 1 : Nat) : Int)] w fun e w' => e = .returned (.tuple #[.int .i64 ((EN.idx va (k + 1) : Nat) : Int), .int .i64 0]) ∧ Below w.heap.size w w') := fun w => hI.out (k + 1) (by omega) (by omega) w
        generalize hX : EN.idx va (k + 1) = x at *
        generalize hS : EN.sz (k + 1) = s at *
        generalize hW : EN.low va (k + 1) = y at *
        generalize hS0 : EN.sz k = s0 at *
        generalize hW0 : EN.low va k = y0 at *
        have hp : x * s0 ≤ y := by have := hl1.out; omega
        have hm : Hid (IntKind.u64.wrap ((y0 : Int) + (x : Int) * (s0 : Int)) = (y : Int)) := by
          show _ = _
          rw [← Int.natCast_mul, ← Int.natCast_add, ← hl1.out, wrap_in _ (by omega)]
        have hm2 : Hid (IntKind.u64.wrap ((s0 : Int) * 512) = (s : Int)) := by
          show _ = _
          rw [show (512 : Int) = ((512 : Nat) : Int) from rfl, ← Int.natCast_mul, ← hz1.out, wrap_in _ (by omega)]
        go_wp2_with fail
        refine (hII.out _).mono ?_
        rintro e w2 ⟨rfl, bel2⟩
        go_wp2
        go_roundw
        case rel => exact ⟨k + 1, by omega, by go_num, by rw [hW, ← hm.out], by rw [hS, ← hm2.out], bel.trans (bel2.mono bel.size)⟩
        case measure => simp [intOf]; omega
      · have d : decide (((k + 1 : Nat) : Int) ≤ 4) = false := by simp; omega
        obtain rfl : k = 4 := by omega
        have e4 : (((EN.low va 4 : Nat) : Int) == (va : Int)) = true := by rw [hall.out]; simp
        go_wp2
        go_ret
        exact ⟨rfl, bel⟩
  · have hI := W_hid (fun w => Index_no va 1 (by omega) w)
    have d : decide (140737488355328 ≤ (va : Int)) = true := by simp; omega
    go_enter Try.func4, Try.ntmps4
    go_wp2_with fail
    refine (shown_idx _).mono ?_
    rintro e w1 ⟨rfl, bel1⟩
    go_wp2
    refine wp_loop_rounds 1 ?_
    rw [rounds_succ]
    go_wp2_with fail
    refine (hI.out _).mono ?_
    rintro e w2 ⟨rfl, rfl⟩
    go_wp2
    go_ret
    exact ⟨rfl, bel1⟩

set_option maxRecDepth 100000 in
theorem EntryPlaces_lifted (os : Os) (started : os.Started) (H : Type) (enc : TypeId × Value → H) :
    ReturnsInHanded {} Try.checked os 3 .any (Rows.entryPlacesSpec.pre6 enc Try.prog Try.f3 Rows.entryPlacesRow.domain false) (Rows.entryPlacesSpec.post enc Try.prog Try.f3 false true false false) := by
  refine returnsInHanded_of_change (C := Try.checked) (by kernel_rfl) started (by kernel_rfl) Try.func3
    (ChangeSpec.witness6 (enc := enc) (C := Try.checked) false ⟨#[], #[.int .u64 0, .int .i64 0], []⟩ 8 (by kernel_rfl) (by kernel_rfl) (by kernel_rfl) (by kernel_rfl)) ?_
  intro W base args ds gs before hval0 hW hcnd _
  have hval : ∀ (j : Nat) t v, Try.f3.params[j]? = some t → args[j]? = some v → Value.okWide Try.prog W .any base t v := hval0
  have hW' := hW
  obtain ⟨p, q, hA0, hV, rfl, hfz, hnd⟩ := hW
  have hA : DataW.TrodAll enc Try.prog W 0 (fun _ => true) true Try.f3.params.toList args.toList ds p := hA0
  rw [Try.params3] at hA hval
  obtain ⟨v0, vs0, d0, ds0, p0, q0, hargs, rfl, rfl, h0, r0⟩ := trodAll_cons hA
  obtain ⟨v1, vs1, d1, ds1, p1, q1, rfl, rfl, rfl, h1, r1⟩ := trodAll_cons r0
  obtain ⟨rfl, rfl, rfl⟩ := trodAll_nil r1
  obtain rfl : args = #[v0, v1] := by cases args; simp_all
  obtain ⟨rfl, rfl⟩ := trodVars_none hV
  obtain ⟨a0, rfl, rfl, rfl, w0⟩ := open_int Try.underlying22 (hval 0 22 v0 rfl rfl) h0
  obtain ⟨a1, rfl, rfl, rfl, w1⟩ := open_int Try.underlying3 (hval 1 3 v1 rfl rfl) h1
  clear hA0 hval0
  refine (EntryPlaces_walk a0 a1 W w0 w1).mono fun e W' ⟨he, bel⟩ => ?_
  subst he
  exact ⟨_, rfl, _, _, _, [], _, [], hW', trodAll_mk1 (shut_bool Try.underlying4 _), (trodAll_cons_mk (shut_int Try.underlying22 w0) (trodAll_cons_mk (shut_int Try.underlying3 w1) trodAll_mk0)), rfl, bel.frame _, fun h => by cases h⟩

/-- The given statement of EntryPlaces. -/
theorem EntryPlaces_holds : Rows.EntryPlacesSaid :=
  OpenClaim.holds_of_wide 3 Try.f3 rfl rfl rfl rfl rfl rfl rfl ⟨rfl, rfl, rfl, rfl, rfl⟩ rfl rfl rfl rfl rfl (by kernel_rfl) Try.func3 (by kernel_rfl)
    (of_decide_eq_true (by kernel_rfl)) (by unfold Func.isWrapper; first | (rw [if_pos (by decide +kernel)]; kernel_rfl) | (rw [if_neg (by decide +kernel)]; exact ⟨rfl, rfl⟩))
    (fun os started H enc _ => EntryPlaces_lifted os started H enc)

set_option maxRecDepth 100000 in
theorem EntryWhole_lifted (os : Os) (started : os.Started) (H : Type) (enc : TypeId × Value → H) :
    ReturnsInHanded {} Try.checked os 4 .any (Rows.entryWholeSpec.pre6 enc Try.prog Try.f4 Rows.entryWholeRow.domain false) (Rows.entryWholeSpec.post enc Try.prog Try.f4 false true false false) := by
  refine returnsInHanded_of_change (C := Try.checked) (by kernel_rfl) started (by kernel_rfl) Try.func4
    (ChangeSpec.witness6 (enc := enc) (C := Try.checked) false ⟨#[], #[.int .u64 0], []⟩ 8 (by kernel_rfl) (by kernel_rfl) (by kernel_rfl) (by kernel_rfl)) ?_
  intro W base args ds gs before hval0 hW hcnd _
  have hval : ∀ (j : Nat) t v, Try.f4.params[j]? = some t → args[j]? = some v → Value.okWide Try.prog W .any base t v := hval0
  have hW' := hW
  obtain ⟨p, q, hA0, hV, rfl, hfz, hnd⟩ := hW
  have hA : DataW.TrodAll enc Try.prog W 0 (fun _ => true) true Try.f4.params.toList args.toList ds p := hA0
  rw [Try.params4] at hA hval
  obtain ⟨v0, vs0, d0, ds0, p0, q0, hargs, rfl, rfl, h0, r0⟩ := trodAll_cons hA
  obtain ⟨rfl, rfl, rfl⟩ := trodAll_nil r0
  obtain rfl : args = #[v0] := by cases args; simp_all
  obtain ⟨rfl, rfl⟩ := trodVars_none hV
  obtain ⟨a0, rfl, rfl, rfl, w0⟩ := open_int Try.underlying22 (hval 0 22 v0 rfl rfl) h0
  clear hA0 hval0
  refine (EntryWhole_walk a0 W w0).mono fun e W' ⟨he, bel⟩ => ?_
  subst he
  exact ⟨_, rfl, _, _, _, [], _, [], hW', trodAll_mk1 (shut_bool Try.underlying4 _), (trodAll_cons_mk (shut_int Try.underlying22 w0) trodAll_mk0), rfl, bel.frame _, fun h => by cases h⟩

/-- The given statement of EntryWhole. -/
theorem EntryWhole_holds : Rows.EntryWholeSaid :=
  OpenClaim.holds_of_wide 4 Try.f4 rfl rfl rfl rfl rfl rfl rfl ⟨rfl, rfl, rfl, rfl, rfl⟩ rfl rfl rfl rfl rfl (by kernel_rfl) Try.func4 (by kernel_rfl)
    (of_decide_eq_true (by kernel_rfl)) (by unfold Func.isWrapper; first | (rw [if_pos (by decide +kernel)]; kernel_rfl) | (rw [if_neg (by decide +kernel)]; exact ⟨rfl, rfl⟩))
    (fun os started H enc _ => EntryWhole_lifted os started H enc)

end Go.Proofs.Ytgfoojnkgfikbaa

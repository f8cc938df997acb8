/- ExtentWrites (package haywardlaw05): for every input it returns true, and its arguments read as before. No further condition. -/
import Derived.Test.YtlmkohmanfoejaaLaws05
namespace Go.Proofs.Ytlmkohmanfoejaa
open Go.ChangeShapes Go.WideShapes Go.ChangeAt Go.RowKit
open Go.ChangeMaps (open_string shut_string)
set_option linter.unusedVariables false
set_option linter.unusedSimpArgs false

theorem gave_len {L : List (Int × ByteArray)} {N : Nat} {E : Int} {w w' : World} {e : Ending} (hN : L.length = N) (h : Gave L E w e w') : ∃ ao c, e = .returned (.tuple #[.slice ao N c, .int .i64 E]) ∧ w'.ownsRow w.heap.size 32 2 (.slice ao N c) N (ecl L) ∧ Below w.heap.size w w' := by
  subst hN
  exact gave_form h

set_option maxHeartbeats 2000000 in
theorem ExtentWrites_walk (o0 : Option Addr) (n0 c0 : Nat) (l0 : List (Int × ByteArray)) (a1 : Int) (a2 : ByteArray) (w : World) (w0 : XS w o0 n0 c0 l0) (s0 : XFit l0) (w1 : (Lit.int .i64 a1).wf = true) (w2 : a2.size ≤ maxLen) :
    Calls Try.prog 4 #[.slice o0 n0 c0, .int .i64 a1, .string a2] w fun e w' => e = .returned (.bool true) ∧ Below w.heap.size w w' := by
  have hP := W_hid (fun w h => Write_any o0 n0 c0 l0 a1 a2 w h s0 (bounds_i64 w1) w2)
  have hR := W_hid (fun w h => rWrite_any o0 n0 c0 l0 a1 a2 w h s0 (bounds_i64 w1) w2)
  obtain ⟨L, hL⟩ : ∃ L, wrL l0 a1 a2 = L := ⟨_, rfl⟩
  obtain ⟨E, hE⟩ : ∃ E, wrE l0 a1 a2 = E := ⟨_, rfl⟩
  rw [hL, hE] at hP hR
  obtain ⟨N, hN⟩ : ∃ N, L.length = N := ⟨_, rfl⟩
  have HN := W_hid hN
  have H := W_hid w0
  clear hL hE w0 w1 w2 hN
  go_enter Try.func4, Try.ntmps4
  go_wp2_with fail
  refine (shown_any _).mono ?_
  rintro e w1 ⟨rfl, bel1⟩
  go_wp2_with fail
  refine (hP.out _ (H.out.below bel1 (Nat.le_refl _))).mono ?_
  intro e w2 hg2
  obtain ⟨x2, c2, rfl, hown2, bel2⟩ := gave_len HN.out hg2
  have s2 := XS_own hown2
  have hNb : N ≤ 9223372036854775807 := by have := s2.2.1; have := s2.2.2.1; unfold maxLen at this; omega
  have hlies : Hid (0 < N → ∃ g, x2 = some ⟨g, 0, none⟩ ∧ w1.heap.size ≤ g ∧ g < w2.heap.size) := by
    intro h0
    obtain ⟨g, cap, hv, h1, h2, -⟩ := Own.lies hown2 h0
    simp only [Value.slice.injEq, true_and] at hv
    exact ⟨g, hv.1, h1, h2⟩
  have hge : w.heap.size ≤ w1.heap.size := bel1.size
  replace bel2 := below_tr bel1 bel2
  clear bel1 hg2
  go_wp2_with fail
  refine (hR.out _ (H.out.below bel2 (Nat.le_refl _))).mono ?_
  intro e w3 hg3
  obtain ⟨x3, c3, rfl, hown3, bel3⟩ := gave_len HN.out hg3
  have s3 := XS_own hown3
  replace s2 := s2.below bel3 (Nat.le_refl _)
  replace hown2 := Own.below hown2 bel3
  replace bel3 := below_tr bel2 bel3
  have hS := Same_any _ _ _ _ _ _ _ _ w3 s2 s3
  rw [decide_eq_true rfl] at hS
  have hS := W_hid hS
  clear bel2 hg3 s2 s3 hR
  go_wp2_with fail
  refine hS.out.mono ?_
  rintro e w4 ⟨rfl, bel4⟩
  replace hown2 := Own.below hown2 bel4
  replace hown3 := Own.below hown3 bel4
  replace bel4 := below_tr bel3 bel4
  clear bel3 hS
  go_wp2_with fail
  go_loopw [13] (fun i wr => ∃ (k : Nat) (xs : List Value), k ≤ N ∧ i = .int .i64 k ∧ wr.ownsRow w1.heap.size 32 2 (.slice x2 N c2) N xs ∧ wr.ownsRow w2.heap.size 32 2 (.slice x3 N c3) N (ecl L) ∧ Below w.heap.size w wr) (fun i _ => N - (intOf i).toNat)
  case atStart => exact ⟨0, _, Nat.zero_le _, rfl, hown2, hown3, bel4⟩
  case round =>
    clear hown2 hown3 bel4
    obtain ⟨k, xs, hk, rfl, hown2, hown3, bel⟩ := hrel
    by_cases hlt : k < N
    · obtain ⟨g, rfl, hg1, hg2⟩ := hlies.out (by omega)
      have hxl : xs.length = N * 2 := hown2.1
      have e1 : wr.cell? ⟨g, k * 2, none⟩ = some (xs[k * 2]'(by omega)) := by rw [hown2.cellAt (k * 2) (by omega), List.getElem?_eq_getElem (by omega)]
      have e2 : wr.cell? ⟨g, k * 2 + 1, none⟩ = some (xs[k * 2 + 1]'(by omega)) := by rw [hown2.cellAt (k * 2 + 1) (by omega), List.getElem?_eq_getElem (by omega)]
      have ff := hown2.frozenAt
      have q2 := ((hown2.stored (k * 2) (.int .i64 (-7))).1.stored (k * 2 + 1) (.string ⟨#[]⟩)).1
      have q3 := Own.set (Own.set hown3 (p := ⟨g, k * 2, none⟩) hg2 (.int .i64 (-7))) (p := ⟨g, k * 2 + 1, none⟩) hg2 (.string ⟨#[]⟩)
      have q4 := (bel.setCell (p := ⟨g, k * 2, none⟩) (Nat.le_trans hge hg1) (.int .i64 (-7))).setCell (p := ⟨g, k * 2 + 1, none⟩) (Nat.le_trans hge hg1) (.string ⟨#[]⟩)
      obtain ⟨u1, hu1⟩ : ∃ u, xs[k * 2]'(by omega) = u := ⟨_, rfl⟩
      obtain ⟨u2, hu2⟩ : ∃ u, xs[k * 2 + 1]'(by omega) = u := ⟨_, rfl⟩
      rw [hu1] at e1
      rw [hu2] at e2
      clear hown2 hown3 bel hu1 hu2
      go_wp2_with fail
      go_roundw
      case rel => exact ⟨k + 1, _, by omega, by go_num, q2, q3, q4⟩
      case measure => simp [intOf]; omega
    · obtain rfl : k = N := by omega
      go_wp2_with fail
      refine (hP.out _ (H.out.below bel (Nat.le_refl _))).mono ?_
      intro e w5 hg5
      obtain ⟨x5, c5, rfl, hown5, bel5⟩ := gave_len HN.out hg5
      have s5 := XS_own hown5
      have s3 := (XS_own hown3).below bel5 (Nat.le_refl _)
      replace bel5 := below_tr bel bel5
      have hS := Same_any _ _ _ _ _ _ _ _ w5 s5 s3
      rw [decide_eq_true rfl] at hS
      have hS := W_hid hS
      clear hg5 hown5 hown3 hown2 bel s5 s3
      go_wp2_with fail
      refine hS.out.mono ?_
      rintro e w6 ⟨rfl, bel6⟩
      go_wp2
      go_ret
      exact ⟨rfl, below_tr bel5 bel6⟩

set_option maxRecDepth 100000 in
theorem ExtentWrites_lifted (os : Os) (started : os.Started) (H : Type) (enc : TypeId × Value → H) :
    ReturnsInHanded {} Try.checked os 4 .any (Rows.extentWritesSpec.pre6 enc Try.prog Try.f4 Rows.extentWritesRow.domain false) (Rows.extentWritesSpec.post enc Try.prog Try.f4 false true false false) := by
  refine returnsInHanded_of_change (C := Try.checked) (by kernel_rfl) started (by kernel_rfl) Try.func4
    (ChangeSpec.witness6 (enc := enc) (C := Try.checked) false ⟨#[], #[.slice none 0 0, .int .i64 0, .string ByteArray.empty], []⟩ 8 (by kernel_rfl) (by kernel_rfl) (by kernel_rfl) (by kernel_rfl)) ?_
  intro W base args ds gs before hval0 hW hcnd _
  have hval : ∀ (j : Nat) t v, Try.f4.params[j]? = some t → args[j]? = some v → Value.okWide Try.prog W .any base t v := hval0
  have hW' := hW
  obtain ⟨p, q, hA0, hV, rfl, hfz, hnd⟩ := hW
  have hA : DataW.TrodAll enc Try.prog W 0 (fun _ => true) true Try.f4.params.toList args.toList ds p := hA0
  rw [Try.params4] at hA hval
  obtain ⟨v0, vs0, d0, ds0, p0, q0, hargs, rfl, rfl, h0, r0⟩ := trodAll_cons hA
  obtain ⟨v1, vs1, d1, ds1, p1, q1, rfl, rfl, rfl, h1, r1⟩ := trodAll_cons r0
  obtain ⟨v2, vs2, d2, ds2, p2, q2, rfl, rfl, rfl, h2, r2⟩ := trodAll_cons r1
  obtain ⟨rfl, rfl, rfl⟩ := trodAll_nil r2
  obtain rfl : args = #[v0, v1, v2] := by cases args; simp_all
  obtain ⟨rfl, rfl⟩ := trodVars_none hV
  have k0 := h0
  have lt0 : ∀ x ∈ p0, x.block < W.heap.size := by obtain ⟨m, hm⟩ := k0; exact DataW.trod_lt m _ _ _ hm
  obtain ⟨o0, n0, c0, l0, rfl, w0, s0⟩ := open_extents (hval 0 22 v0 rfl rfl) h0
  obtain ⟨a1, rfl, rfl, rfl, w1⟩ := open_int Try.underlying2 (hval 1 2 v1 rfl rfl) h1
  obtain ⟨a2, rfl, rfl, rfl, w2⟩ := open_string Try.underlying9 (hval 2 9 v2 rfl rfl) h2
  clear hA0 hval0
  refine (ExtentWrites_walk o0 n0 c0 l0 a1 a2 W w0 s0 w1 w2).mono fun e W' ⟨he, bel⟩ => ?_
  subst he
  exact ⟨_, rfl, _, _, _, [], _, [], hW', trodAll_mk1 (shut_bool Try.underlying4 _), (trodAll_cons_mk (Below.trod laidOut (by kernel_rfl) (of_decide_eq_true (by kernel_rfl)) k0 bel lt0) (trodAll_cons_mk (shut_int Try.underlying2 w1) (trodAll_cons_mk (shut_string Try.underlying9 w2) trodAll_mk0))), rfl, bel.frame _, fun h => by cases h⟩

/-- The given statement of ExtentWrites. -/
theorem ExtentWrites_holds : Rows.ExtentWritesSaid :=
  OpenClaim.holds_of_wide 4 Try.f4 rfl rfl rfl rfl rfl rfl rfl ⟨rfl, rfl, rfl, rfl, rfl⟩ rfl rfl rfl rfl rfl (by kernel_rfl) Try.func4 (by kernel_rfl)
    (of_decide_eq_true (by kernel_rfl)) (by unfold Func.isWrapper; first | (rw [if_pos (by decide +kernel)]; kernel_rfl) | (rw [if_neg (by decide +kernel)]; exact ⟨rfl, rfl⟩))
    (fun os started H enc _ => ExtentWrites_lifted os started H enc)

end Go.Proofs.Ytlmkohmanfoejaa

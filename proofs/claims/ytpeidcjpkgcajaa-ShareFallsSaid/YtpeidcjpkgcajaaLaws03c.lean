/- The laws of layer 3, continued: ShareDecays, ShareWeights, ShareAgain: for every input each returns true, and its arguments read as before. No further condition. -/
import Derived.Test.YtpeidcjpkgcajaaShareDecay
import Derived.Test.YtpeidcjpkgcajaaLaws03
namespace Go.Proofs.Ytpeidcjpkgcajaa
open Go.ChangeShapes Go.WideShapes Go.ChangeAt Go.RowKit
open Go.ChangeMaps (open_string shut_string)
open FM
set_option linter.unusedVariables false

theorem val_some {r q : Nat} (h : val r = some q) : r = q := by
  unfold val at h
  split at h
  · cases h
  · exact Option.some.inj h

/-- What averages come to, or that there is none. -/
def decR (a x : Nat) (n : Int) : Option Nat × Int := if n < 0 ∨ 64 < n then (val 0, 2) else (dec n.toNat (val a) (val x), 0)

theorem decay_all (a x : Nat) (ha : a < 18446744073709551616) (n : Int) (w : World) :
    Calls Try.prog 22 #[fl a, fl x, .int .i64 n] w fun e w' => ∃ r, e = .returned (.tuple #[fl r, .int .i64 (decR a x n).2]) ∧ r < 18446744073709551616 ∧ val r = (decR a x n).1 ∧ Below w.heap.size w w' := by
  by_cases h : n < 0 ∨ 64 < n
  · rw [show decR a x n = (val 0, 2) by simp only [decR, if_pos h]]
    refine (decay_no a x n h w).mono ?_
    rintro e w' ⟨rfl, rfl⟩
    exact ⟨0, rfl, by decide, rfl, Below.refl _ _⟩
  · rw [show decR a x n = (dec n.toNat (val a) (val x), 0) by simp only [decR, if_neg h]]
    obtain ⟨k, rfl⟩ : ∃ k : Nat, n = k := ⟨n.toNat, by omega⟩
    exact decay_yes a x k (by omega) ha w
theorem rdecay_all (a x : Nat) (ha : a < 18446744073709551616) (n : Int) (w : World) :
    Calls Try.prog 23 #[fl a, fl x, .int .i64 n] w fun e w' => ∃ r, e = .returned (.tuple #[fl r, .int .i64 (decR a x n).2]) ∧ r < 18446744073709551616 ∧ val r = (decR a x n).1 ∧ Below w.heap.size w w' := by
  by_cases h : n < 0 ∨ 64 < n
  · rw [show decR a x n = (val 0, 2) by simp only [decR, if_pos h]]
    refine (rdecay_no a x n h w).mono ?_
    rintro e w' ⟨rfl, rfl⟩
    exact ⟨0, rfl, by decide, rfl, Below.refl _ _⟩
  · rw [show decR a x n = (dec n.toNat (val a) (val x), 0) by simp only [decR, if_neg h]]
    obtain ⟨k, rfl⟩ : ∃ k : Nat, n = k := ⟨n.toNat, by omega⟩
    exact rdecay_yes a x k (by omega) ha w

theorem head_decay (w : World) : Calls Try.prog 22 #[fl 4620693217682128896, fl 0, .int .i64 2] w fun e w' => e = .returned (.tuple #[fl 4611686018427387904, .int .i64 0]) ∧ Below w.heap.size w w' := by
  refine (decay_yes 4620693217682128896 0 2 (by decide) (by decide) w).mono ?_
  rintro e w' ⟨r, rfl, -, hv, bel⟩
  rw [show dec 2 (val 4620693217682128896) (val 0) = some 4611686018427387904 by decide +kernel] at hv
  rw [val_some hv]
  exact ⟨rfl, bel⟩

set_option maxHeartbeats 1000000 in
theorem ShareDecays_walk (a0 a1 a2 : Int) (w : World) (w0 : (Lit.int .u64 a0).wf = true) (w1 : (Lit.int .u64 a1).wf = true) (w2 : (Lit.int .i64 a2).wf = true) :
    Calls Try.prog 5 #[.int .u64 a0, .int .u64 a1, .int .i64 a2] w fun e w' => e = .returned (.bool true) ∧ Below w.heap.size w w' := by
  obtain ⟨a, rfl, ha⟩ := nat_u64 w0
  obtain ⟨x, rfl, hx⟩ := nat_u64 w1
  have f1 := run_frombits a
  have f2 := run_frombits x
  have h1 := decay_all a x ha a2
  have h2 := rdecay_all a x ha a2
  generalize decR a x a2 = d at *
  obtain ⟨R, E⟩ := d
  have oeq : (FloatKind.f64.format.order 4611686018427387904 4611686018427387904 == some .eq) = true := by decide
  clear w0 w1 w2
  go_enter Try.func5, Try.ntmps5
  go_wp2_with fail
  refine (head_decay _).mono ?_
  rintro e u1 ⟨rfl, bel1⟩
  go_wp2_with fail
  refine (h1 _).mono ?_
  rintro e u2 ⟨r1, rfl, hr1, hv1, bel2⟩
  go_wp2_with fail
  refine (h2 _).mono ?_
  rintro e u3 ⟨r2, rfl, hr2, hv2, bel3⟩
  have hs := same_any r1 r2 hr1 hr2 (hv1.trans hv2.symm)
  have bel := bel1.trans ((bel2.mono bel1.size).trans (bel3.mono (Nat.le_trans bel1.size bel2.size)))
  clear hv1 hv2 bel1 bel2 bel3
  go_wp2_with fail
  refine (hs _).mono ?_
  rintro e w' ⟨rfl, rfl⟩
  go_wp2_with fail
  go_ret
  exact ⟨rfl, bel⟩

/-- The weight of a nice value, or that there is none. -/
def wtR (n : Int) : Nat × Int := if n < -20 ∨ 19 < n then (0, 2) else (wt n, 0)
theorem weight_all (n : Int) (w : World) :
    Calls Try.prog 24 #[.int .i64 n] w fun e w' => e = .returned (.tuple #[fl (wtR n).1, .int .i64 (wtR n).2]) ∧ w = w' := by
  by_cases h : n < -20 ∨ 19 < n
  · rw [show wtR n = (0, 2) by simp only [wtR, if_pos h]]
    exact weight_no n h w
  · rw [show wtR n = (wt n, 0) by simp only [wtR, if_neg h]]
    unfold wt
    split
    · obtain ⟨k, rfl⟩ : ∃ k : Nat, n = k := ⟨n.toNat, by omega⟩
      exact weight_dn k (by omega) w
    · exact weight_up (-n).toNat (by omega) n (by omega) w
theorem rweight_all (n : Int) (w : World) :
    Calls Try.prog 25 #[.int .i64 n] w fun e w' => e = .returned (.tuple #[fl (wtR n).1, .int .i64 (wtR n).2]) ∧ w = w' := by
  by_cases h : n < -20 ∨ 19 < n
  · rw [show wtR n = (0, 2) by simp only [wtR, if_pos h]]
    exact rweight_no n h w
  · rw [show wtR n = (wt n, 0) by simp only [wtR, if_neg h]]
    unfold wt
    split
    · obtain ⟨k, rfl⟩ : ∃ k : Nat, n = k := ⟨n.toNat, by omega⟩
      exact rweight_dn k (by omega) w
    · exact rweight_up (-n).toNat (by omega) n (by omega) w
theorem wdn_lt : ∀ k, k < 20 → wdn k < 18446744073709551616 := by decide +kernel
theorem wup_lt : ∀ k, k < 21 → wup k < 18446744073709551616 := by decide +kernel
theorem wtR_lt (n : Int) : (wtR n).1 < 18446744073709551616 := by
  unfold wtR
  split
  · decide
  · unfold wt
    split
    · exact wdn_lt _ (by omega)
    · exact wup_lt _ (by omega)

set_option maxHeartbeats 1000000 in
theorem ShareWeights_walk (a0 : Int) (w : World) (w0 : (Lit.int .i64 a0).wf = true) :
    Calls Try.prog 6 #[.int .i64 a0] w fun e w' => e = .returned (.bool true) ∧ Below w.heap.size w w' := by
  have h0 := weight_all 0
  rw [show wtR 0 = (4652218415073722368, 0) by decide] at h0
  have h1 := weight_all a0
  have h2 := rweight_all a0
  have hl := wtR_lt a0
  generalize wtR a0 = c at *
  obtain ⟨c, e⟩ := c
  have h3 := same_any c c hl hl rfl
  have oeq : (FloatKind.f64.format.order 4652218415073722368 4652218415073722368 == some .eq) = true := by decide
  clear w0
  go_enter Try.func6, Try.ntmps6
  go_wp2_with fail
  refine (h0 _).mono ?_
  rintro e w' ⟨rfl, rfl⟩
  go_wp2_with fail
  refine (h1 _).mono ?_
  rintro e w' ⟨rfl, rfl⟩
  go_wp2_with fail
  refine (h2 _).mono ?_
  rintro e w' ⟨rfl, rfl⟩
  go_wp2_with fail
  refine (h3 _).mono ?_
  rintro e w' ⟨rfl, rfl⟩
  go_wp2_with fail
  go_ret
  exact ⟨rfl, Below.refl _ _⟩

set_option maxHeartbeats 1000000 in
theorem ShareAgain_walk (a0 a1 a2 a3 : Int) (w : World) (w0 : (Lit.int .u64 a0).wf = true) (w1 : (Lit.int .u64 a1).wf = true) (w2 : (Lit.int .i64 a2).wf = true) (w3 : (Lit.int .i64 a3).wf = true) :
    Calls Try.prog 11 #[.int .u64 a0, .int .u64 a1, .int .i64 a2, .int .i64 a3] w fun e w' => e = .returned (.bool true) ∧ Below w.heap.size w w' := by
  obtain ⟨a, rfl, ha⟩ := nat_u64 w0
  obtain ⟨x, rfl, hx⟩ := nat_u64 w1
  have f1 := run_frombits a
  have f2 := run_frombits x
  have oeq : (FloatKind.f64.format.order 4611686018427387904 4611686018427387904 == some .eq) = true := by decide
  clear w0 w1 w2 w3
  rcases (by omega : a2 < 0 ∨ (0 ≤ a2 ∧ a3 < 0) ∨ (0 ≤ a2 ∧ 0 ≤ a3 ∧ 64 < a2) ∨ (0 ≤ a2 ∧ 0 ≤ a3 ∧ a2 ≤ 64 ∧ 64 < a3) ∨ (0 ≤ a2 ∧ 0 ≤ a3 ∧ a2 ≤ 64 ∧ a3 ≤ 64 ∧ 64 < a2 + a3) ∨ (0 ≤ a2 ∧ 0 ≤ a3 ∧ a2 ≤ 64 ∧ a3 ≤ 64 ∧ a2 + a3 ≤ 64)) with h | ⟨h1, h2⟩ | ⟨h1, h2, h3⟩ | ⟨h1, h2, h3, h4⟩ | ⟨h1, h2, h3, h4, h5⟩ | ⟨h1, h2, h3, h4, h5⟩
  iterate 5
    · go_enter Try.func11, Try.ntmps11
      go_wp2_with fail
      refine (head_decay _).mono ?_
      rintro e u1 ⟨rfl, bel1⟩
      go_wp2_with fail
      go_ret
      exact ⟨rfl, bel1⟩
  · obtain ⟨n, rfl⟩ : ∃ n : Nat, a2 = n := ⟨a2.toNat, by omega⟩
    obtain ⟨m, rfl⟩ : ∃ m : Nat, a3 = m := ⟨a3.toNat, by omega⟩
    have d1 := decay_yes a x n (by omega) ha
    have d3 := decay_yes a x (n + m) (by omega) ha
    rw [show ((n + m : Nat) : Int) = (n : Int) + (m : Int) by omega] at d3
    clear h1 h2
    go_enter Try.func11, Try.ntmps11
    go_wp2_with fail
    refine (head_decay _).mono ?_
    rintro e u1 ⟨rfl, bel1⟩
    go_wp2_with fail
    refine (d1 _).mono ?_
    rintro e u2 ⟨r1, rfl, hr1, hv1, bel2⟩
    have hv1 := W_hid hv1
    have d2 := decay_yes r1 x m (by omega) hr1
    have bel := bel1.trans (bel2.mono bel1.size)
    clear bel1 bel2
    go_wp2_with fail
    refine (d2 _).mono ?_
    rintro e u3 ⟨r2, rfl, hr2, hv2, bel3⟩
    have hv2 := W_hid hv2
    have bel' := bel.trans (bel3.mono bel.size)
    clear bel bel3
    go_wp2_with fail
    refine (d3 _).mono ?_
    rintro e u4 ⟨r3, rfl, hr3, hv3, bel4⟩
    have hs := same_any r2 r3 hr2 hr3 (by rw [hv2.out, hv1.out, hv3, dec_add])
    have bel'' := bel'.trans (bel4.mono bel'.size)
    clear bel' bel4 hv1 hv2 hv3
    go_wp2_with fail
    refine (hs _).mono ?_
    rintro e w' ⟨rfl, rfl⟩
    go_wp2_with fail
    go_ret
    exact ⟨rfl, bel''⟩

set_option maxRecDepth 100000 in
theorem ShareDecays_lifted (os : Os) (started : os.Started) (H : Type) (enc : TypeId × Value → H) :
    ReturnsInHanded {} Try.checked os 5 .any (Rows.shareDecaysSpec.pre6 enc Try.prog Try.f5 Rows.shareDecaysRow.domain false) (Rows.shareDecaysSpec.post enc Try.prog Try.f5 false true false false) := by
  refine returnsInHanded_of_change (C := Try.checked) (by kernel_rfl) started (by kernel_rfl) Try.func5
    (ChangeSpec.witness6 (enc := enc) (C := Try.checked) false ⟨#[], #[.int .u64 0, .int .u64 0, .int .i64 0], []⟩ 8 (by kernel_rfl) (by kernel_rfl) (by kernel_rfl) (by kernel_rfl)) ?_
  intro W base args ds gs before hval0 hW hcnd _
  have hval : ∀ (j : Nat) t v, Try.f5.params[j]? = some t → args[j]? = some v → Value.okWide Try.prog W .any base t v := hval0
  have hW' := hW
  obtain ⟨p, q, hA0, hV, rfl, hfz, hnd⟩ := hW
  have hA : DataW.TrodAll enc Try.prog W 0 (fun _ => true) true Try.f5.params.toList args.toList ds p := hA0
  rw [Try.params5] at hA hval
  obtain ⟨v0, vs0, d0, ds0, p0, q0, hargs, rfl, rfl, h0, r0⟩ := trodAll_cons hA
  obtain ⟨v1, vs1, d1, ds1, p1, q1, rfl, rfl, rfl, h1, r1⟩ := trodAll_cons r0
  obtain ⟨v2, vs2, d2, ds2, p2, q2, rfl, rfl, rfl, h2, r2⟩ := trodAll_cons r1
  obtain ⟨rfl, rfl, rfl⟩ := trodAll_nil r2
  obtain rfl : args = #[v0, v1, v2] := by cases args; simp_all
  obtain ⟨rfl, rfl⟩ := trodVars_none hV
  obtain ⟨a0, rfl, rfl, rfl, w0⟩ := open_int Try.underlying22 (hval 0 22 v0 rfl rfl) h0
  obtain ⟨a1, rfl, rfl, rfl, w1⟩ := open_int Try.underlying22 (hval 1 22 v1 rfl rfl) h1
  obtain ⟨a2, rfl, rfl, rfl, w2⟩ := open_int Try.underlying3 (hval 2 3 v2 rfl rfl) h2
  clear hA0 hval0
  refine (ShareDecays_walk a0 a1 a2 W w0 w1 w2).mono fun e W' ⟨he, bel⟩ => ?_
  subst he
  exact ⟨_, rfl, _, _, _, [], _, [], hW', trodAll_mk1 (shut_bool Try.underlying4 _), (trodAll_cons_mk (shut_int Try.underlying22 w0) (trodAll_cons_mk (shut_int Try.underlying22 w1) (trodAll_cons_mk (shut_int Try.underlying3 w2) trodAll_mk0))), rfl, bel.frame _, fun h => by cases h⟩

/-- The given statement of ShareDecays. -/
theorem ShareDecays_holds : Rows.ShareDecaysSaid :=
  OpenClaim.holds_of_wide 5 Try.f5 rfl rfl rfl rfl rfl rfl rfl ⟨rfl, rfl, rfl, rfl, rfl⟩ rfl rfl rfl rfl rfl (by kernel_rfl) Try.func5 (by kernel_rfl)
    (of_decide_eq_true (by kernel_rfl)) (by unfold Func.isWrapper; first | (rw [if_pos (by decide +kernel)]; kernel_rfl) | (rw [if_neg (by decide +kernel)]; exact ⟨rfl, rfl⟩))
    (fun os started H enc _ => ShareDecays_lifted os started H enc)

set_option maxRecDepth 100000 in
theorem ShareWeights_lifted (os : Os) (started : os.Started) (H : Type) (enc : TypeId × Value → H) :
    ReturnsInHanded {} Try.checked os 6 .any (Rows.shareWeightsSpec.pre6 enc Try.prog Try.f6 Rows.shareWeightsRow.domain false) (Rows.shareWeightsSpec.post enc Try.prog Try.f6 false true false false) := by
  refine returnsInHanded_of_change (C := Try.checked) (by kernel_rfl) started (by kernel_rfl) Try.func6
    (ChangeSpec.witness6 (enc := enc) (C := Try.checked) false ⟨#[], #[.int .i64 0], []⟩ 8 (by kernel_rfl) (by kernel_rfl) (by kernel_rfl) (by kernel_rfl)) ?_
  intro W base args ds gs before hval0 hW hcnd _
  have hval : ∀ (j : Nat) t v, Try.f6.params[j]? = some t → args[j]? = some v → Value.okWide Try.prog W .any base t v := hval0
  have hW' := hW
  obtain ⟨p, q, hA0, hV, rfl, hfz, hnd⟩ := hW
  have hA : DataW.TrodAll enc Try.prog W 0 (fun _ => true) true Try.f6.params.toList args.toList ds p := hA0
  rw [Try.params6] at hA hval
  obtain ⟨v0, vs0, d0, ds0, p0, q0, hargs, rfl, rfl, h0, r0⟩ := trodAll_cons hA
  obtain ⟨rfl, rfl, rfl⟩ := trodAll_nil r0
  obtain rfl : args = #[v0] := by cases args; simp_all
  obtain ⟨rfl, rfl⟩ := trodVars_none hV
  obtain ⟨a0, rfl, rfl, rfl, w0⟩ := open_int Try.underlying3 (hval 0 3 v0 rfl rfl) h0
  clear hA0 hval0
  refine (ShareWeights_walk a0 W w0).mono fun e W' ⟨he, bel⟩ => ?_
  subst he
  exact ⟨_, rfl, _, _, _, [], _, [], hW', trodAll_mk1 (shut_bool Try.underlying4 _), (trodAll_cons_mk (shut_int Try.underlying3 w0) trodAll_mk0), rfl, bel.frame _, fun h => by cases h⟩

/-- The given statement of ShareWeights. -/
theorem ShareWeights_holds : Rows.ShareWeightsSaid :=
  OpenClaim.holds_of_wide 6 Try.f6 rfl rfl rfl rfl rfl rfl rfl ⟨rfl, rfl, rfl, rfl, rfl⟩ rfl rfl rfl rfl rfl (by kernel_rfl) Try.func6 (by kernel_rfl)
    (of_decide_eq_true (by kernel_rfl)) (by unfold Func.isWrapper; first | (rw [if_pos (by decide +kernel)]; kernel_rfl) | (rw [if_neg (by decide +kernel)]; exact ⟨rfl, rfl⟩))
    (fun os started H enc _ => ShareWeights_lifted os started H enc)

set_option maxRecDepth 100000 in
theorem ShareAgain_lifted (os : Os) (started : os.Started) (H : Type) (enc : TypeId × Value → H) :
    ReturnsInHanded {} Try.checked os 11 .any (Rows.shareAgainSpec.pre6 enc Try.prog Try.f11 Rows.shareAgainRow.domain false) (Rows.shareAgainSpec.post enc Try.prog Try.f11 false true false false) := by
  refine returnsInHanded_of_change (C := Try.checked) (by kernel_rfl) started (by kernel_rfl) Try.func11
    (ChangeSpec.witness6 (enc := enc) (C := Try.checked) false ⟨#[], #[.int .u64 0, .int .u64 0, .int .i64 0, .int .i64 0], []⟩ 8 (by kernel_rfl) (by kernel_rfl) (by kernel_rfl) (by kernel_rfl)) ?_
  intro W base args ds gs before hval0 hW hcnd _
  have hval : ∀ (j : Nat) t v, Try.f11.params[j]? = some t → args[j]? = some v → Value.okWide Try.prog W .any base t v := hval0
  have hW' := hW
  obtain ⟨p, q, hA0, hV, rfl, hfz, hnd⟩ := hW
  have hA : DataW.TrodAll enc Try.prog W 0 (fun _ => true) true Try.f11.params.toList args.toList ds p := hA0
  rw [Try.params11] at hA hval
  obtain ⟨v0, vs0, d0, ds0, p0, q0, hargs, rfl, rfl, h0, r0⟩ := trodAll_cons hA
  obtain ⟨v1, vs1, d1, ds1, p1, q1, rfl, rfl, rfl, h1, r1⟩ := trodAll_cons r0
  obtain ⟨v2, vs2, d2, ds2, p2, q2, rfl, rfl, rfl, h2, r2⟩ := trodAll_cons r1
  obtain ⟨v3, vs3, d3, ds3, p3, q3, rfl, rfl, rfl, h3, r3⟩ := trodAll_cons r2
  obtain ⟨rfl, rfl, rfl⟩ := trodAll_nil r3
  obtain rfl : args = #[v0, v1, v2, v3] := by cases args; simp_all
  obtain ⟨rfl, rfl⟩ := trodVars_none hV
  obtain ⟨a0, rfl, rfl, rfl, w0⟩ := open_int Try.underlying22 (hval 0 22 v0 rfl rfl) h0
  obtain ⟨a1, rfl, rfl, rfl, w1⟩ := open_int Try.underlying22 (hval 1 22 v1 rfl rfl) h1
  obtain ⟨a2, rfl, rfl, rfl, w2⟩ := open_int Try.underlying3 (hval 2 3 v2 rfl rfl) h2
  obtain ⟨a3, rfl, rfl, rfl, w3⟩ := open_int Try.underlying3 (hval 3 3 v3 rfl rfl) h3
  clear hA0 hval0
  refine (ShareAgain_walk a0 a1 a2 a3 W w0 w1 w2 w3).mono fun e W' ⟨he, bel⟩ => ?_
  subst he
  exact ⟨_, rfl, _, _, _, [], _, [], hW', trodAll_mk1 (shut_bool Try.underlying4 _), (trodAll_cons_mk (shut_int Try.underlying22 w0) (trodAll_cons_mk (shut_int Try.underlying22 w1) (trodAll_cons_mk (shut_int Try.underlying3 w2) (trodAll_cons_mk (shut_int Try.underlying3 w3) trodAll_mk0)))), rfl, bel.frame _, fun h => by cases h⟩

/-- The given statement of ShareAgain. -/
theorem ShareAgain_holds : Rows.ShareAgainSaid :=
  OpenClaim.holds_of_wide 11 Try.f11 rfl rfl rfl rfl rfl rfl rfl ⟨rfl, rfl, rfl, rfl, rfl⟩ rfl rfl rfl rfl rfl (by kernel_rfl) Try.func11 (by kernel_rfl)
    (of_decide_eq_true (by kernel_rfl)) (by unfold Func.isWrapper; first | (rw [if_pos (by decide +kernel)]; kernel_rfl) | (rw [if_neg (by decide +kernel)]; exact ⟨rfl, rfl⟩))
    (fun os started H enc _ => ShareAgain_lifted os started H enc)

end Go.Proofs.Ytpeidcjpkgcajaa

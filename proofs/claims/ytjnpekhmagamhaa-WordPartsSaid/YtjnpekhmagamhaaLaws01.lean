/- The laws of layer 1 (package haywardlaw01): for every input each returns true, and its arguments read as before. No further condition. -/
import Derived.Test.YtjnpekhmagamhaaRefWord
import Derived.ShutString
import Derived.ChangeOld
namespace Go.Proofs.Ytjnpekhmagamhaa
open Go.ChangeShapes Go.WideShapes Go.ChangeAt Go.RowKit
open Go.ChangeMaps (open_string shut_string)
set_option linter.unusedVariables false

theorem nat_u64 {a : Int} (h : (Lit.int .u64 a).wf = true) : ∃ x : Nat, a = x ∧ x < 18446744073709551616 := by
  have := bounds_u64 h
  exact ⟨a.toNat, by omega, by omega⟩

theorem head_take (w : World) : Calls Try.prog 11 #[.int .u64 43981, .int .i64 4, .int .i64 8] w fun e w' => e = .returned (.tuple #[.int .u64 188, .int .i64 0]) ∧ Below w.heap.size w w' := by
  have h := take_yes 43981 4 8 (by decide) (by decide) w
  rw [show WM.take 43981 4 8 = 188 from by decide] at h
  exact h
theorem head_put (w : World) : Calls Try.prog 13 #[.int .u64 65535, .int .i64 4, .int .i64 8, .int .u64 0] w fun e w' => e = .returned (.tuple #[.int .u64 61455, .int .i64 0]) ∧ Below w.heap.size w w' := by
  have h := put_yes 65535 4 8 0 (by decide) (by decide) (by decide) w
  rw [show WM.put 65535 4 8 0 = 61455 from by decide] at h
  exact h
theorem head_put2 (w : World) : Calls Try.prog 13 #[.int .u64 0, .int .i64 4, .int .i64 4, .int .u64 9] w fun e w' => e = .returned (.tuple #[.int .u64 144, .int .i64 0]) ∧ Below w.heap.size w w' := by
  have h := put_yes 0 4 4 9 (by decide) (by decide) (by decide) w
  rw [show WM.put 0 4 4 9 = 144 from by decide] at h
  exact h
theorem head_down (w : World) : Calls Try.prog 15 #[.int .u64 4097, .int .u64 4096] w fun e w' => e = .returned (.tuple #[.int .u64 4096, .int .i64 0]) ∧ w = w' := by
  have h := down_yes 4097 4096 (by decide) (by decide) (by decide) w
  rw [show WM.down 4097 4096 = 4096 from by decide] at h
  exact h
theorem head_up (w : World) : Calls Try.prog 17 #[.int .u64 4097, .int .u64 4096] w fun e w' => e = .returned (.tuple #[.int .u64 8192, .int .i64 0]) ∧ w = w' := by
  have h := up_next 4097 4096 (by decide) (by decide) (by decide) (by decide) (by decide) w
  rw [show WM.down 4097 4096 + 4096 = 8192 from by decide] at h
  exact h
theorem head_ones (w : World) : Calls Try.prog 19 #[.int .u64 7] w fun e w' => e = .returned (.int .i64 3) ∧ w = w' := by
  have h := ones_any 7 (by decide) w
  rw [show WM.ones 7 64 = 3 from by decide] at h
  exact h
theorem head_first (w : World) : Calls Try.prog 20 #[.int .u64 7] w fun e w' => e = .returned (.int .i64 3) ∧ w = w' := by
  have h := first_any 7 (by decide) w
  rw [show WM.first 7 = 3 from by decide] at h
  exact h

set_option maxHeartbeats 400000 in
theorem WordCounts_walk (a0 : Int) (w : World) (w0 : (Lit.int .u64 a0).wf = true) :
    Calls Try.prog 7 #[.int .u64 a0] w fun e w' => e = .returned (.bool true) ∧ Below w.heap.size w w' := by
  obtain ⟨x, rfl, hx⟩ := nat_u64 w0
  clear w0
  go_enter Try.func7, Try.ntmps7
  go_wp2_with fail
  refine (head_ones _).mono ?_
  rintro e w' ⟨rfl, rfl⟩
  go_wp2_with fail
  refine (head_first _).mono ?_
  rintro e w' ⟨rfl, rfl⟩
  go_wp2_with (first | (go_at_call 19; refine (ones_any x hx _).mono ?_; rintro e w' ⟨rfl, rfl⟩) | (go_at_call 21; refine (rones_any x hx _).mono ?_; rintro e w' ⟨rfl, rfl⟩) | (go_at_call 20; refine (first_any x hx _).mono ?_; rintro e w' ⟨rfl, rfl⟩) | (go_at_call 22; refine (rfirst_any x hx _).mono ?_; rintro e w' ⟨rfl, rfl⟩))
  go_ret
  exact ⟨rfl, Below.refl _ _⟩

set_option maxHeartbeats 400000 in
theorem WordTakes_walk (a0 a1 a2 : Int) (w : World) (w0 : (Lit.int .u64 a0).wf = true) (w1 : (Lit.int .i64 a1).wf = true) (w2 : (Lit.int .i64 a2).wf = true) :
    Calls Try.prog 3 #[.int .u64 a0, .int .i64 a1, .int .i64 a2] w fun e w' => e = .returned (.bool true) ∧ Below w.heap.size w w' := by
  obtain ⟨x, rfl, hx⟩ := nat_u64 w0
  have b1 := bounds_i64 w1
  clear w0 w1 w2
  by_cases h : 0 ≤ a1 ∧ 0 ≤ a2 ∧ a2 ≤ 64 - a1
  · obtain ⟨lo, rfl⟩ : ∃ n : Nat, a1 = n := ⟨a1.toNat, by omega⟩
    obtain ⟨n, rfl⟩ : ∃ n : Nat, a2 = n := ⟨a2.toNat, by omega⟩
    have h' : lo + n ≤ 64 := by omega
    clear h b1
    go_enter Try.func3, Try.ntmps3
    go_wp2_with fail
    refine (head_take _).mono ?_
    rintro e u1 ⟨rfl, hb1⟩
    go_wp2_with fail
    refine (take_yes x lo n hx h' _).mono ?_
    rintro e u2 ⟨rfl, hb2⟩
    go_wp2_with fail
    refine (rtake_yes x lo n hx h' _).mono ?_
    rintro e u3 ⟨rfl, rfl⟩
    go_wp2_with fail
    go_ret
    exact ⟨rfl, hb1.trans (hb2.mono hb1.size)⟩
  · have H := W_hid h
    clear h
    go_enter Try.func3, Try.ntmps3
    go_wp2_with fail
    refine (head_take _).mono ?_
    rintro e u1 ⟨rfl, hb1⟩
    go_wp2_with fail
    refine (take_no x a1 a2 b1 H.out _).mono ?_
    rintro e u2 ⟨rfl, hb2⟩
    go_wp2_with fail
    refine (rtake_no x a1 a2 H.out _).mono ?_
    rintro e u3 ⟨rfl, rfl⟩
    go_wp2_with fail
    go_ret
    exact ⟨rfl, hb1.trans (hb2.mono hb1.size)⟩

set_option maxRecDepth 100000 in
theorem WordCounts_lifted (os : Os) (started : os.Started) (H : Type) (enc : TypeId × Value → H) :
    ReturnsInHanded {} Try.checked os 7 .any (Rows.wordCountsSpec.pre6 enc Try.prog Try.f7 Rows.wordCountsRow.domain false) (Rows.wordCountsSpec.post enc Try.prog Try.f7 false true false false) := by
  refine returnsInHanded_of_change (C := Try.checked) (by kernel_rfl) started (by kernel_rfl) Try.func7
    (ChangeSpec.witness6 (enc := enc) (C := Try.checked) false ⟨#[], #[.int .u64 0], []⟩ 8 (by kernel_rfl) (by kernel_rfl) (by kernel_rfl) (by kernel_rfl)) ?_
  intro W base args ds gs before hval0 hW hcnd _
  have hval : ∀ (j : Nat) t v, Try.f7.params[j]? = some t → args[j]? = some v → Value.okWide Try.prog W .any base t v := hval0
  have hW' := hW
  obtain ⟨p, q, hA0, hV, rfl, hfz, hnd⟩ := hW
  have hA : DataW.TrodAll enc Try.prog W 0 (fun _ => true) true Try.f7.params.toList args.toList ds p := hA0
  rw [Try.params7] at hA hval
  obtain ⟨v0, vs0, d0, ds0, p0, q0, hargs, rfl, rfl, h0, r0⟩ := trodAll_cons hA
  obtain ⟨rfl, rfl, rfl⟩ := trodAll_nil r0
  obtain rfl : args = #[v0] := by cases args; simp_all
  obtain ⟨rfl, rfl⟩ := trodVars_none hV
  obtain ⟨a0, rfl, rfl, rfl, w0⟩ := open_int Try.underlying22 (hval 0 22 v0 rfl rfl) h0
  clear hA0 hval0
  refine (WordCounts_walk a0 W w0).mono fun e W' ⟨he, bel⟩ => ?_
  subst he
  exact ⟨_, rfl, _, _, _, [], _, [], hW', trodAll_mk1 (shut_bool Try.underlying4 _), (trodAll_cons_mk (shut_int Try.underlying22 w0) trodAll_mk0), rfl, bel.frame _, fun h => by cases h⟩

/-- The given statement of WordCounts. -/
theorem WordCounts_holds : Rows.WordCountsSaid :=
  OpenClaim.holds_of_wide 7 Try.f7 rfl rfl rfl rfl rfl rfl rfl ⟨rfl, rfl, rfl, rfl, rfl⟩ rfl rfl rfl rfl rfl (by kernel_rfl) Try.func7 (by kernel_rfl)
    (of_decide_eq_true (by kernel_rfl)) (by unfold Func.isWrapper; first | (rw [if_pos (by decide +kernel)]; kernel_rfl) | (rw [if_neg (by decide +kernel)]; exact ⟨rfl, rfl⟩))
    (fun os started H enc _ => WordCounts_lifted os started H enc)

set_option maxRecDepth 100000 in
theorem WordTakes_lifted (os : Os) (started : os.Started) (H : Type) (enc : TypeId × Value → H) :
    ReturnsInHanded {} Try.checked os 3 .any (Rows.wordTakesSpec.pre6 enc Try.prog Try.f3 Rows.wordTakesRow.domain false) (Rows.wordTakesSpec.post enc Try.prog Try.f3 false true false false) := by
  refine returnsInHanded_of_change (C := Try.checked) (by kernel_rfl) started (by kernel_rfl) Try.func3
    (ChangeSpec.witness6 (enc := enc) (C := Try.checked) false ⟨#[], #[.int .u64 0, .int .i64 0, .int .i64 0], []⟩ 8 (by kernel_rfl) (by kernel_rfl) (by kernel_rfl) (by kernel_rfl)) ?_
  intro W base args ds gs before hval0 hW hcnd _
  have hval : ∀ (j : Nat) t v, Try.f3.params[j]? = some t → args[j]? = some v → Value.okWide Try.prog W .any base t v := hval0
  have hW' := hW
  obtain ⟨p, q, hA0, hV, rfl, hfz, hnd⟩ := hW
  have hA : DataW.TrodAll enc Try.prog W 0 (fun _ => true) true Try.f3.params.toList args.toList ds p := hA0
  rw [Try.params3] at hA hval
  obtain ⟨v0, vs0, d0, ds0, p0, q0, hargs, rfl, rfl, h0, r0⟩ := trodAll_cons hA
  obtain ⟨v1, vs1, d1, ds1, p1, q1, rfl, rfl, rfl, h1, r1⟩ := trodAll_cons r0
  obtain ⟨v2, vs2, d2, ds2, p2, q2, rfl, rfl, rfl, h2, r2⟩ := trodAll_cons r1
  obtain ⟨rfl, rfl, rfl⟩ := trodAll_nil r2
  obtain rfl : args = #[v0, v1, v2] := by cases args; simp_all
  obtain ⟨rfl, rfl⟩ := trodVars_none hV
  obtain ⟨a0, rfl, rfl, rfl, w0⟩ := open_int Try.underlying22 (hval 0 22 v0 rfl rfl) h0
  obtain ⟨a1, rfl, rfl, rfl, w1⟩ := open_int Try.underlying3 (hval 1 3 v1 rfl rfl) h1
  obtain ⟨a2, rfl, rfl, rfl, w2⟩ := open_int Try.underlying3 (hval 2 3 v2 rfl rfl) h2
  clear hA0 hval0
  refine (WordTakes_walk a0 a1 a2 W w0 w1 w2).mono fun e W' ⟨he, bel⟩ => ?_
  subst he
  exact ⟨_, rfl, _, _, _, [], _, [], hW', trodAll_mk1 (shut_bool Try.underlying4 _), (trodAll_cons_mk (shut_int Try.underlying22 w0) (trodAll_cons_mk (shut_int Try.underlying3 w1) (trodAll_cons_mk (shut_int Try.underlying3 w2) trodAll_mk0))), rfl, bel.frame _, fun h => by cases h⟩

/-- The given statement of WordTakes. -/
theorem WordTakes_holds : Rows.WordTakesSaid :=
  OpenClaim.holds_of_wide 3 Try.f3 rfl rfl rfl rfl rfl rfl rfl ⟨rfl, rfl, rfl, rfl, rfl⟩ rfl rfl rfl rfl rfl (by kernel_rfl) Try.func3 (by kernel_rfl)
    (of_decide_eq_true (by kernel_rfl)) (by unfold Func.isWrapper; first | (rw [if_pos (by decide +kernel)]; kernel_rfl) | (rw [if_neg (by decide +kernel)]; exact ⟨rfl, rfl⟩))
    (fun os started H enc _ => WordTakes_lifted os started H enc)

end Go.Proofs.Ytjnpekhmagamhaa

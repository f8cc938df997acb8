/- The laws of layer 1 (package haywardlaw01), third part: for every input each returns true, and its arguments read as before. No further condition. -/
import Derived.Test.YtjnpekhmagamhaaLaws01b
import Derived.Test.YtjnpekhmagamhaaWordMath2
namespace Go.Proofs.Ytjnpekhmagamhaa
open Go.ChangeShapes Go.WideShapes Go.ChangeAt Go.RowKit
open Go.ChangeMaps (open_string shut_string)
set_option linter.unusedVariables false

/-- Taking a field that is none, or one: in one word. -/
def TakeEnds (x : Nat) (o m : Int) (a e : Int) : Prop :=
  (0 ≤ o ∧ 0 ≤ m ∧ m ≤ 64 - o ∧ a = ((WM.take x o.toNat m.toNat : Nat) : Int) ∧ e = 0) ∨ (¬ (0 ≤ o ∧ 0 ≤ m ∧ m ≤ 64 - o) ∧ a = 0 ∧ e = 2)

/-- The two ways in which Put fails. -/
theorem put_fails (x : Nat) (a1 a2 : Int) (v : Nat) (b1 : -9223372036854775808 ≤ a1 ∧ a1 ≤ 9223372036854775807) (h : ¬ ((0 ≤ a1 ∧ 0 ≤ a2 ∧ a2 ≤ 64 - a1) ∧ v < 2 ^ a2.toNat)) (w : World) :
    Calls Try.prog 13 #[.int .u64 x, .int .i64 a1, .int .i64 a2, .int .u64 v] w fun e w' => e = .returned (.tuple #[.int .u64 0, .int .i64 2]) ∧ Below w.heap.size w w' := by
  by_cases hh : 0 ≤ a1 ∧ 0 ≤ a2 ∧ a2 ≤ 64 - a1
  · obtain ⟨lo, rfl⟩ : ∃ n : Nat, a1 = n := ⟨a1.toNat, by omega⟩
    obtain ⟨n, rfl⟩ : ∃ n : Nat, a2 = n := ⟨a2.toNat, by omega⟩
    exact put_high x lo n v (by omega) (by have : ¬ v < 2 ^ n := fun c => h ⟨hh, by simpa using c⟩; omega) w
  · exact put_no x a1 a2 v b1 hh w

set_option maxHeartbeats 1000000 in
theorem WordBack_walk (a0 a1 a2 a3 a4 a5 : Int) (w : World) (w0 : (Lit.int .u64 a0).wf = true) (w1 : (Lit.int .i64 a1).wf = true) (w2 : (Lit.int .i64 a2).wf = true) (w3 : (Lit.int .u64 a3).wf = true) (w4 : (Lit.int .i64 a4).wf = true) (w5 : (Lit.int .i64 a5).wf = true) :
    Calls Try.prog 8 #[.int .u64 a0, .int .i64 a1, .int .i64 a2, .int .u64 a3, .int .i64 a4, .int .i64 a5] w fun e w' => e = .returned (.bool true) ∧ Below w.heap.size w w' := by
  obtain ⟨x, rfl, hx⟩ := nat_u64 w0
  obtain ⟨v, rfl, hv⟩ := nat_u64 w3
  have b1 := bounds_i64 w1
  have b4 := bounds_i64 w4
  have b5 := bounds_i64 w5
  clear w0 w1 w2 w3 w4 w5
  by_cases h : (0 ≤ a1 ∧ 0 ≤ a2 ∧ a2 ≤ 64 - a1) ∧ v < 2 ^ a2.toNat
  · obtain ⟨lo, rfl⟩ : ∃ n : Nat, a1 = n := ⟨a1.toNat, by omega⟩
    obtain ⟨n, rfl⟩ : ∃ n : Nat, a2 = n := ⟨a2.toNat, by omega⟩
    have h' : lo + n ≤ 64 := by omega
    have H : Hid (v < 2 ^ n) := W_hid (by have := h.2; simpa using this)
    have hp := WM.put_lt x lo n v hx h' H.out
    have c1 : ∀ w, Calls Try.prog 11 #[.int .u64 ((WM.put x lo n v : Nat) : Int), .int .i64 lo, .int .i64 n] w fun e w' => e = .returned (.tuple #[.int .u64 v, .int .i64 0]) ∧ Below w.heap.size w w' := fun w => by
      have := take_yes (WM.put x lo n v) lo n hp h' w
      rw [WM.take_put_self x lo n v hx h' H.out] at this
      exact this
    have C1 := W_hid c1
    clear c1 h b1
    by_cases hq : 0 ≤ a4 ∧ 0 ≤ a5 ∧ a5 ≤ 64 - a4
    · obtain ⟨o, rfl⟩ : ∃ n : Nat, a4 = n := ⟨a4.toNat, by omega⟩
      obtain ⟨m, rfl⟩ : ∃ n : Nat, a5 = n := ⟨a5.toNat, by omega⟩
      have hq' : o + m ≤ 64 := by omega
      clear hq b4 b5
      by_cases ha : lo + n ≤ o ∨ o + m ≤ lo
      · have c2 : ∀ w, Calls Try.prog 11 #[.int .u64 ((WM.put x lo n v : Nat) : Int), .int .i64 o, .int .i64 m] w fun e w' => e = .returned (.tuple #[.int .u64 ((WM.take x o m : Nat) : Int), .int .i64 0]) ∧ Below w.heap.size w w' := fun w => by
          have := take_yes (WM.put x lo n v) o m hp hq' w
          rw [WM.take_put_apart x lo n v o m hx h' H.out ha] at this
          exact this
        have C2 := W_hid c2
        clear c2
        rcases ha with ha | ha
        · have d1 : (lo : Int) + (n : Int) ≤ (o : Int) := by omega
          clear ha
          go_enter Try.func8, Try.ntmps8
          go_wp2_with fail
          refine (head_put2 _).mono ?_
          rintro e u1 ⟨rfl, hb1⟩
          go_wp2_with fail
          refine (put_yes x lo n v hx h' H.out _).mono ?_
          rintro e u2 ⟨rfl, hb2⟩
          go_wp2_with fail
          refine (C1.out _).mono ?_
          rintro e u3 ⟨rfl, hb3⟩
          go_wp2_with fail
          refine (C2.out _).mono ?_
          rintro e u4 ⟨rfl, hb4⟩
          go_wp2_with fail
          refine (take_yes x o m hx hq' _).mono ?_
          rintro e u5 ⟨rfl, hb5⟩
          go_wp2_with fail
          go_ret
          exact ⟨rfl, (((hb1.trans (hb2.mono hb1.size)).trans (hb3.mono (Nat.le_trans hb1.size hb2.size))).trans (hb4.mono (Nat.le_trans hb1.size (Nat.le_trans hb2.size hb3.size)))).trans (hb5.mono (Nat.le_trans hb1.size (Nat.le_trans hb2.size (Nat.le_trans hb3.size hb4.size))))⟩
        · by_cases d1 : (lo : Int) + (n : Int) ≤ (o : Int)
          all_goals
            have d2 : (o : Int) + (m : Int) ≤ (lo : Int) := by omega
            clear ha
            go_enter Try.func8, Try.ntmps8
            go_wp2_with fail
            refine (head_put2 _).mono ?_
            rintro e u1 ⟨rfl, hb1⟩
            go_wp2_with fail
            refine (put_yes x lo n v hx h' H.out _).mono ?_
            rintro e u2 ⟨rfl, hb2⟩
            go_wp2_with fail
            refine (C1.out _).mono ?_
            rintro e u3 ⟨rfl, hb3⟩
            go_wp2_with fail
            refine (C2.out _).mono ?_
            rintro e u4 ⟨rfl, hb4⟩
            go_wp2_with fail
            refine (take_yes x o m hx hq' _).mono ?_
            rintro e u5 ⟨rfl, hb5⟩
            go_wp2_with fail
            go_ret
            exact ⟨rfl, (((hb1.trans (hb2.mono hb1.size)).trans (hb3.mono (Nat.le_trans hb1.size hb2.size))).trans (hb4.mono (Nat.le_trans hb1.size (Nat.le_trans hb2.size hb3.size)))).trans (hb5.mono (Nat.le_trans hb1.size (Nat.le_trans hb2.size (Nat.le_trans hb3.size hb4.size))))⟩
      · have d1 : decide ((lo : Int) + (n : Int) ≤ (o : Int)) = false := by simp; omega
        have d2 : decide ((o : Int) + (m : Int) ≤ (lo : Int)) = false := by simp; omega
        clear ha
        go_enter Try.func8, Try.ntmps8
        go_wp2_with fail
        refine (head_put2 _).mono ?_
        rintro e u1 ⟨rfl, hb1⟩
        go_wp2_with fail
        refine (put_yes x lo n v hx h' H.out _).mono ?_
        rintro e u2 ⟨rfl, hb2⟩
        go_wp2_with fail
        refine (C1.out _).mono ?_
        rintro e u3 ⟨rfl, hb3⟩
        go_wp2_with fail
        refine (take_yes _ o m hp hq' _).mono ?_
        rintro e u4 ⟨rfl, hb4⟩
        go_wp2_with fail
        refine (take_yes x o m hx hq' _).mono ?_
        rintro e u5 ⟨rfl, hb5⟩
        go_wp2_with fail
        go_ret
        exact ⟨rfl, (((hb1.trans (hb2.mono hb1.size)).trans (hb3.mono (Nat.le_trans hb1.size hb2.size))).trans (hb4.mono (Nat.le_trans hb1.size (Nat.le_trans hb2.size hb3.size)))).trans (hb5.mono (Nat.le_trans hb1.size (Nat.le_trans hb2.size (Nat.le_trans hb3.size hb4.size))))⟩
    · have HQ := W_hid hq
      clear hq
      by_cases d1 : (lo : Int) + (n : Int) ≤ a4
      all_goals
        have d3 : decide ((lo : Int) + (n : Int) ≤ a4) = decide ((lo : Int) + (n : Int) ≤ a4) := rfl
        go_enter Try.func8, Try.ntmps8
        go_wp2_with fail
        refine (head_put2 _).mono ?_
        rintro e u1 ⟨rfl, hb1⟩
        go_wp2_with fail
        refine (put_yes x lo n v hx h' H.out _).mono ?_
        rintro e u2 ⟨rfl, hb2⟩
        go_wp2_with fail
        refine (C1.out _).mono ?_
        rintro e u3 ⟨rfl, hb3⟩
        go_wp2_with fail
        refine (take_no _ a4 a5 b4 HQ.out _).mono ?_
        rintro e u4 ⟨rfl, hb4⟩
        go_wp2_with fail
        refine (take_no _ a4 a5 b4 HQ.out _).mono ?_
        rintro e u5 ⟨rfl, hb5⟩
        go_wp2_with fail
        go_ret
        exact ⟨rfl, (((hb1.trans (hb2.mono hb1.size)).trans (hb3.mono (Nat.le_trans hb1.size hb2.size))).trans (hb4.mono (Nat.le_trans hb1.size (Nat.le_trans hb2.size hb3.size)))).trans (hb5.mono (Nat.le_trans hb1.size (Nat.le_trans hb2.size (Nat.le_trans hb3.size hb4.size))))⟩
  · have H := W_hid h
    clear h
    go_enter Try.func8, Try.ntmps8
    go_wp2_with fail
    refine (head_put2 _).mono ?_
    rintro e u1 ⟨rfl, hb1⟩
    go_wp2_with fail
    refine (put_fails x a1 a2 v b1 H.out _).mono ?_
    rintro e u2 ⟨rfl, hb2⟩
    go_wp2_with fail
    go_ret
    exact ⟨rfl, hb1.trans (hb2.mono hb1.size)⟩

set_option maxRecDepth 100000 in
theorem WordBack_lifted (os : Os) (started : os.Started) (H : Type) (enc : TypeId × Value → H) :
    ReturnsInHanded {} Try.checked os 8 .any (Rows.wordBackSpec.pre6 enc Try.prog Try.f8 Rows.wordBackRow.domain false) (Rows.wordBackSpec.post enc Try.prog Try.f8 false true false false) := by
  refine returnsInHanded_of_change (C := Try.checked) (by kernel_rfl) started (by kernel_rfl) Try.func8
    (ChangeSpec.witness6 (enc := enc) (C := Try.checked) false ⟨#[], #[.int .u64 0, .int .i64 0, .int .i64 0, .int .u64 0, .int .i64 0, .int .i64 0], []⟩ 8 (by kernel_rfl) (by kernel_rfl) (by kernel_rfl) (by kernel_rfl)) ?_
  intro W base args ds gs before hval0 hW hcnd _
  have hval : ∀ (j : Nat) t v, Try.f8.params[j]? = some t → args[j]? = some v → Value.okWide Try.prog W .any base t v := hval0
  have hW' := hW
  obtain ⟨p, q, hA0, hV, rfl, hfz, hnd⟩ := hW
  have hA : DataW.TrodAll enc Try.prog W 0 (fun _ => true) true Try.f8.params.toList args.toList ds p := hA0
  rw [Try.params8] at hA hval
  obtain ⟨v0, vs0, d0, ds0, p0, q0, hargs, rfl, rfl, h0, r0⟩ := trodAll_cons hA
  obtain ⟨v1, vs1, d1, ds1, p1, q1, rfl, rfl, rfl, h1, r1⟩ := trodAll_cons r0
  obtain ⟨v2, vs2, d2, ds2, p2, q2, rfl, rfl, rfl, h2, r2⟩ := trodAll_cons r1
  obtain ⟨v3, vs3, d3, ds3, p3, q3, rfl, rfl, rfl, h3, r3⟩ := trodAll_cons r2
  obtain ⟨v4, vs4, d4, ds4, p4, q4, rfl, rfl, rfl, h4, r4⟩ := trodAll_cons r3
  obtain ⟨v5, vs5, d5, ds5, p5, q5, rfl, rfl, rfl, h5, r5⟩ := trodAll_cons r4
  obtain ⟨rfl, rfl, rfl⟩ := trodAll_nil r5
  obtain rfl : args = #[v0, v1, v2, v3, v4, v5] := by cases args; simp_all
  obtain ⟨rfl, rfl⟩ := trodVars_none hV
  obtain ⟨a0, rfl, rfl, rfl, w0⟩ := open_int Try.underlying22 (hval 0 22 v0 rfl rfl) h0
  obtain ⟨a1, rfl, rfl, rfl, w1⟩ := open_int Try.underlying3 (hval 1 3 v1 rfl rfl) h1
  obtain ⟨a2, rfl, rfl, rfl, w2⟩ := open_int Try.underlying3 (hval 2 3 v2 rfl rfl) h2
  obtain ⟨a3, rfl, rfl, rfl, w3⟩ := open_int Try.underlying22 (hval 3 22 v3 rfl rfl) h3
  obtain ⟨a4, rfl, rfl, rfl, w4⟩ := open_int Try.underlying3 (hval 4 3 v4 rfl rfl) h4
  obtain ⟨a5, rfl, rfl, rfl, w5⟩ := open_int Try.underlying3 (hval 5 3 v5 rfl rfl) h5
  clear hA0 hval0
  refine (WordBack_walk a0 a1 a2 a3 a4 a5 W w0 w1 w2 w3 w4 w5).mono fun e W' ⟨he, bel⟩ => ?_
  subst he
  exact ⟨_, rfl, _, _, _, [], _, [], hW', trodAll_mk1 (shut_bool Try.underlying4 _), (trodAll_cons_mk (shut_int Try.underlying22 w0) (trodAll_cons_mk (shut_int Try.underlying3 w1) (trodAll_cons_mk (shut_int Try.underlying3 w2) (trodAll_cons_mk (shut_int Try.underlying22 w3) (trodAll_cons_mk (shut_int Try.underlying3 w4) (trodAll_cons_mk (shut_int Try.underlying3 w5) trodAll_mk0)))))), rfl, bel.frame _, fun h => by cases h⟩

/-- The given statement of WordBack. -/
theorem WordBack_holds : Rows.WordBackSaid :=
  OpenClaim.holds_of_wide 8 Try.f8 rfl rfl rfl rfl rfl rfl rfl ⟨rfl, rfl, rfl, rfl, rfl⟩ rfl rfl rfl rfl rfl (by kernel_rfl) Try.func8 (by kernel_rfl)
    (of_decide_eq_true (by kernel_rfl)) (by unfold Func.isWrapper; first | (rw [if_pos (by decide +kernel)]; kernel_rfl) | (rw [if_neg (by decide +kernel)]; exact ⟨rfl, rfl⟩))
    (fun os started H enc _ => WordBack_lifted os started H enc)

end Go.Proofs.Ytjnpekhmagamhaa

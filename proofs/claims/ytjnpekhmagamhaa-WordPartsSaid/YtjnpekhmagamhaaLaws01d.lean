/- The laws of layer 1 (package haywardlaw01), fourth part: for every input each returns true, and its arguments read as before. No further condition. -/
import Derived.Test.YtjnpekhmagamhaaLaws01b
import Derived.Test.YtjnpekhmagamhaaWordMath2
namespace Go.Proofs.Ytjnpekhmagamhaa
open Go.ChangeShapes Go.WideShapes Go.ChangeAt Go.RowKit
open Go.ChangeMaps (open_string shut_string)
set_option linter.unusedVariables false

set_option maxHeartbeats 1000000 in
theorem WordParts_out (x a1 a2 a3 : Int) (w : World) (h : ¬ (0 ≤ a1 ∧ 0 ≤ a2 ∧ 0 ≤ a3 ∧ a1 ≤ 64 ∧ a2 ≤ 64 ∧ a3 ≤ 64)) :
    Calls Try.prog 9 #[.int .u64 x, .int .i64 a1, .int .i64 a2, .int .i64 a3] w fun e w' => e = .returned (.bool true) ∧ Below w.heap.size w w' := by
  by_cases c1 : a1 < 0
  · have e1 : decide (a1 < 0) = true := by simpa using c1
    clear h
    go_enter Try.func9, Try.ntmps9
    go_wp2_with fail
    refine (head_take _).mono ?_
    rintro e u1 ⟨rfl, hb1⟩
    go_wp2_with fail
    go_ret
    exact ⟨rfl, hb1⟩
  · have e1 : decide (a1 < 0) = false := by simpa using c1
    by_cases c2 : a2 < 0
    · clear h c1
      go_enter Try.func9, Try.ntmps9
      go_wp2_with fail
      refine (head_take _).mono ?_
      rintro e u1 ⟨rfl, hb1⟩
      go_wp2_with fail
      go_ret
      exact ⟨rfl, hb1⟩
    · have e2 : decide (a2 < 0) = false := by simpa using c2
      by_cases c3 : a3 < 0
      · clear h c1 c2
        go_enter Try.func9, Try.ntmps9
        go_wp2_with fail
        refine (head_take _).mono ?_
        rintro e u1 ⟨rfl, hb1⟩
        go_wp2_with fail
        go_ret
        exact ⟨rfl, hb1⟩
      · have e3 : decide (a3 < 0) = false := by simpa using c3
        by_cases c4 : 64 < a1
        · clear h c1 c2 c3
          go_enter Try.func9, Try.ntmps9
          go_wp2_with fail
          refine (head_take _).mono ?_
          rintro e u1 ⟨rfl, hb1⟩
          go_wp2_with fail
          go_ret
          exact ⟨rfl, hb1⟩
        · have e4 : decide (64 < a1) = false := by simpa using c4
          by_cases c5 : 64 < a2
          · clear h c1 c2 c3 c4
            go_enter Try.func9, Try.ntmps9
            go_wp2_with fail
            refine (head_take _).mono ?_
            rintro e u1 ⟨rfl, hb1⟩
            go_wp2_with fail
            go_ret
            exact ⟨rfl, hb1⟩
          · have e5 : decide (64 < a2) = false := by simpa using c5
            have c6 : 64 < a3 := by omega
            clear h c1 c2 c3 c4 c5
            go_enter Try.func9, Try.ntmps9
            go_wp2_with fail
            refine (head_take _).mono ?_
            rintro e u1 ⟨rfl, hb1⟩
            go_wp2_with fail
            go_ret
            exact ⟨rfl, hb1⟩

theorem take_small (x lo n : Nat) (h : n ≤ 64) : WM.take x lo n < 18446744073709551616 :=
  Nat.lt_of_lt_of_le (WM.take_lt x lo n) (by have := Nat.pow_le_pow_right (show 0 < 2 by decide) h; simpa using this)

set_option maxHeartbeats 1000000 in
theorem WordParts_in (x lo n m : Nat) (hx : x < 18446744073709551616) (w : World) (h : lo + n + m ≤ 64) :
    Calls Try.prog 9 #[.int .u64 x, .int .i64 lo, .int .i64 n, .int .i64 m] w fun e w' => e = .returned (.bool true) ∧ Below w.heap.size w w' := by
  have c2 : ∀ w, Calls Try.prog 11 #[.int .u64 (x : Int), .int .i64 ((lo : Int) + (n : Int)), .int .i64 m] w fun e w' => e = .returned (.tuple #[.int .u64 ((WM.take x (lo + n) m : Nat) : Int), .int .i64 0]) ∧ Below w.heap.size w w' := fun w => by
    have := take_yes x (lo + n) m hx (by omega) w
    rw [Int.natCast_add] at this
    exact this
  have c3 : ∀ w, Calls Try.prog 11 #[.int .u64 (x : Int), .int .i64 lo, .int .i64 ((n : Int) + (m : Int))] w fun e w' => e = .returned (.tuple #[.int .u64 ((WM.take x lo (n + m) : Nat) : Int), .int .i64 0]) ∧ Below w.heap.size w w' := fun w => by
    have := take_yes x lo (n + m) hx (by omega) w
    rw [Int.natCast_add] at this
    exact this
  have c4 : ∀ w, Calls Try.prog 13 #[.int .u64 ((WM.take x lo n : Nat) : Int), .int .i64 n, .int .i64 m, .int .u64 ((WM.take x (lo + n) m : Nat) : Int)] w fun e w' => e = .returned (.tuple #[.int .u64 ((WM.take x lo (n + m) : Nat) : Int), .int .i64 0]) ∧ Below w.heap.size w w' := fun w => by
    have := put_yes (WM.take x lo n) n m (WM.take x (lo + n) m) (take_small x lo n (by omega)) (by omega) (WM.take_lt _ _ _) w
    rw [WM.put_take x lo n m h] at this
    exact this
  have C2 := W_hid c2
  have C3 := W_hid c3
  have C4 := W_hid c4
  have e1 : decide ((lo : Int) < 0) = false := decide_eq_false (by omega)
  have e2 : decide ((n : Int) < 0) = false := decide_eq_false (by omega)
  have e3 : decide ((m : Int) < 0) = false := decide_eq_false (by omega)
  have e4 : decide (64 < (lo : Int)) = false := by simp; omega
  have e5 : decide (64 < (n : Int)) = false := by simp; omega
  have e6 : decide (64 < (m : Int)) = false := by simp; omega
  clear c2 c3 c4
  go_enter Try.func9, Try.ntmps9
  go_wp2_with fail
  refine (head_take _).mono ?_
  rintro e u1 ⟨rfl, hb1⟩
  go_wp2_with fail
  refine (take_yes x lo n hx (by omega) _).mono ?_
  rintro e u2 ⟨rfl, hb2⟩
  go_wp2_with fail
  refine (C2.out _).mono ?_
  rintro e u3 ⟨rfl, hb3⟩
  go_wp2_with fail
  refine (C3.out _).mono ?_
  rintro e u4 ⟨rfl, hb4⟩
  go_wp2_with fail
  refine (C4.out _).mono ?_
  rintro e u5 ⟨rfl, hb5⟩
  go_wp2_with fail
  go_ret
  exact ⟨rfl, (((hb1.trans (hb2.mono hb1.size)).trans (hb3.mono (Nat.le_trans hb1.size hb2.size))).trans (hb4.mono (Nat.le_trans hb1.size (Nat.le_trans hb2.size hb3.size)))).trans (hb5.mono (Nat.le_trans hb1.size (Nat.le_trans hb2.size (Nat.le_trans hb3.size hb4.size))))⟩

set_option maxHeartbeats 1000000 in
theorem WordParts_over (x lo n m : Nat) (hx : x < 18446744073709551616) (w : World) (hl : lo ≤ 64 ∧ n ≤ 64 ∧ m ≤ 64) (h : ¬ lo + n + m ≤ 64) :
    Calls Try.prog 9 #[.int .u64 x, .int .i64 lo, .int .i64 n, .int .i64 m] w fun e w' => e = .returned (.bool true) ∧ Below w.heap.size w w' := by
  obtain ⟨hl1, hl2, hl3⟩ := hl
  have e1 : decide ((lo : Int) < 0) = false := decide_eq_false (by omega)
  have e2 : decide ((n : Int) < 0) = false := decide_eq_false (by omega)
  have e3 : decide ((m : Int) < 0) = false := decide_eq_false (by omega)
  have e4 : decide (64 < (lo : Int)) = false := by simp; omega
  have e5 : decide (64 < (n : Int)) = false := by simp; omega
  have e6 : decide (64 < (m : Int)) = false := by simp; omega
  have H : Hid (64 < lo + n + m) := W_hid (by omega)
  clear h
  by_cases hh : lo + n ≤ 64
  · go_enter Try.func9, Try.ntmps9
    go_wp2_with fail
    refine (head_take _).mono ?_
    rintro e u1 ⟨rfl, hb1⟩
    go_wp2_with fail
    refine (take_yes x lo n hx hh _).mono ?_
    rintro e u2 ⟨rfl, hb2⟩
    go_wp2_with fail
    refine (take_no _ _ _ (by omega) (by have := H.out; omega) _).mono ?_
    rintro e u3 ⟨rfl, hb3⟩
    go_wp2_with fail
    refine (take_no _ _ _ (by omega) (by have := H.out; omega) _).mono ?_
    rintro e u4 ⟨rfl, hb4⟩
    go_wp2_with fail
    go_ret
    exact ⟨rfl, ((hb1.trans (hb2.mono hb1.size)).trans (hb3.mono (Nat.le_trans hb1.size hb2.size))).trans (hb4.mono (Nat.le_trans hb1.size (Nat.le_trans hb2.size hb3.size)))⟩
  · have HH := W_hid hh
    clear hh
    go_enter Try.func9, Try.ntmps9
    go_wp2_with fail
    refine (head_take _).mono ?_
    rintro e u1 ⟨rfl, hb1⟩
    go_wp2_with fail
    refine (take_no _ _ _ (by omega) (by have := HH.out; omega) _).mono ?_
    rintro e u2 ⟨rfl, hb2⟩
    go_wp2_with fail
    refine (take_no _ _ _ (by omega) (by have := H.out; omega) _).mono ?_
    rintro e u3 ⟨rfl, hb3⟩
    go_wp2_with fail
    refine (take_no _ _ _ (by omega) (by have := H.out; omega) _).mono ?_
    rintro e u4 ⟨rfl, hb4⟩
    go_wp2_with fail
    go_ret
    exact ⟨rfl, ((hb1.trans (hb2.mono hb1.size)).trans (hb3.mono (Nat.le_trans hb1.size hb2.size))).trans (hb4.mono (Nat.le_trans hb1.size (Nat.le_trans hb2.size hb3.size)))⟩

theorem WordParts_walk (a0 a1 a2 a3 : Int) (w : World) (w0 : (Lit.int .u64 a0).wf = true) (w1 : (Lit.int .i64 a1).wf = true) (w2 : (Lit.int .i64 a2).wf = true) (w3 : (Lit.int .i64 a3).wf = true) :
    Calls Try.prog 9 #[.int .u64 a0, .int .i64 a1, .int .i64 a2, .int .i64 a3] w fun e w' => e = .returned (.bool true) ∧ Below w.heap.size w w' := by
  by_cases h : 0 ≤ a1 ∧ 0 ≤ a2 ∧ 0 ≤ a3 ∧ a1 ≤ 64 ∧ a2 ≤ 64 ∧ a3 ≤ 64
  · obtain ⟨x, rfl, hx⟩ := nat_u64 w0
    obtain ⟨lo, rfl⟩ : ∃ n : Nat, a1 = n := ⟨a1.toNat, by omega⟩
    obtain ⟨n, rfl⟩ : ∃ n : Nat, a2 = n := ⟨a2.toNat, by omega⟩
    obtain ⟨m, rfl⟩ : ∃ n : Nat, a3 = n := ⟨a3.toNat, by omega⟩
    by_cases hs : lo + n + m ≤ 64
    · exact WordParts_in x lo n m hx w hs
    · exact WordParts_over x lo n m hx w (by omega) hs
  · exact WordParts_out a0 a1 a2 a3 w h

set_option maxHeartbeats 1000000 in
theorem WordBetween_walk (a0 a1 : Int) (w : World) (w0 : (Lit.int .u64 a0).wf = true) (w1 : (Lit.int .u64 a1).wf = true) :
    Calls Try.prog 10 #[.int .u64 a0, .int .u64 a1] w fun e w' => e = .returned (.bool true) ∧ Below w.heap.size w w' := by
  obtain ⟨x, rfl, hx⟩ := nat_u64 w0
  obtain ⟨to, rfl, ht⟩ := nat_u64 w1
  clear w0 w1
  by_cases h : WM.ones to 64 = 1
  · have H := W_hid h
    have hp := WM.pos to ht h
    have hle := WM.down_le x to
    have hnear := WM.down_near x to hp
    have hd : WM.down x to < 18446744073709551616 := by omega
    have c3 : ∀ w, Calls Try.prog 15 #[.int .u64 ((WM.down x to : Nat) : Int), .int .u64 to] w fun e w' => e = .returned (.tuple #[.int .u64 ((WM.down x to : Nat) : Int), .int .i64 0]) ∧ w = w' := fun w => by
      have := down_yes (WM.down x to) to hd ht H.out w
      rw [WM.down_down] at this
      exact this
    have C3 := W_hid c3
    have k1 : decide ((x : Int) < ((WM.down x to : Nat) : Int)) = false := by simp; omega
    have k1' : decide (x < WM.down x to) = false := by simp; omega
    clear c3 h
    generalize hD : WM.down x to = d at *
    by_cases h0 : x % to = 0
    · have H0 := W_hid h0
      have HS : d = x := by rw [← hD]; exact WM.down_self x to h0
      subst HS
      have HD := W_hid hD
      clear h0 hD
      go_enter Try.func10, Try.ntmps10
      go_wp2_with fail
      refine (head_up _).mono ?_
      rintro e u1 ⟨rfl, rfl⟩
      go_wp2_with fail
      refine (down_yes d to hx ht H.out _).mono ?_
      rw [HD.out]
      rintro e u2 ⟨rfl, rfl⟩
      go_wp2_with fail
      refine (up_same d to hx ht H.out H0.out _).mono ?_
      rintro e u3 ⟨rfl, rfl⟩
      go_wp2_with fail
      refine (C3.out _).mono ?_
      rintro e u4 ⟨rfl, rfl⟩
      go_wp2_with fail
      go_ret
      exact ⟨rfl, Below.refl _ _⟩
    · have H0 := W_hid h0
      have hne : d ≠ x := by rw [← hD]; exact WM.down_ne x to h0
      have hlt : d < x := by omega
      have HD := W_hid hD
      have q1 : (((d : Nat) : Int) == (x : Int)) = false := by simp; omega
      have q1' : (d == x) = false := by simp; omega
      have q2 : decide ((to : Int) ≤ (x : Int) - (d : Int)) = false := by simp; omega
      by_cases hm : d + to < 18446744073709551616
      · have HM := W_hid hm
        have c4 : ∀ w, Calls Try.prog 17 #[.int .u64 (x : Int), .int .u64 to] w fun e w' => e = .returned (.tuple #[.int .u64 ((d : Int) + (to : Int)), .int .i64 0]) ∧ w = w' := fun w => by
          have := up_next x to hx ht H.out H0.out (by rw [hD]; exact hm) w
          rw [hD, Int.natCast_add] at this
          exact this
        have C4 := W_hid c4
        have m1 : (d : Int) + (to : Int) ≤ 18446744073709551615 := by omega
        have m2 : (x : Int) ≤ (d : Int) + (to : Int) := by omega
        have m3 : (d : Int) + (to : Int) - (x : Int) < (to : Int) := by omega
        have m4 : ((d : Int) + (to : Int) == (x : Int)) = false := by simp; omega
        have m5 : ((d : Int) == (d : Int) + (to : Int)) = false := by simp; omega
        have m6 : ((d : Int) + (to : Int) - (d : Int) == (to : Int)) = true := by simp; omega
        clear c4 hm h0 hne hD hnear
        go_enter Try.func10, Try.ntmps10
        go_wp2_with fail
        refine (head_up _).mono ?_
        rintro e u1 ⟨rfl, rfl⟩
        go_wp2_with fail
        refine (down_yes x to hx ht H.out _).mono ?_
        rw [HD.out]
        rintro e u2 ⟨rfl, rfl⟩
        go_wp2_with fail
        refine (C4.out _).mono ?_
        rintro e u3 ⟨rfl, rfl⟩
        go_wp2_with fail
        refine (C3.out _).mono ?_
        rintro e u4 ⟨rfl, rfl⟩
        go_wp2_with fail
        go_ret
        exact ⟨rfl, Below.refl _ _⟩
      · have HM := W_hid hm
        have hn := WM.down_next x to ht H.out hx
        rw [hD] at hn
        have c4 : ∀ w, Calls Try.prog 17 #[.int .u64 (x : Int), .int .u64 to] w fun e w' => e = .returned (.tuple #[.int .u64 0, .int .i64 2]) ∧ w = w' := fun w =>
          up_over x to hx ht H.out H0.out (by rw [hD]; exact hm) w
        have C4 := W_hid c4
        have m6 : (IntKind.u64.wrap ((d : Int) + (to : Int)) == 0) = true := by
          have e : (d : Int) + (to : Int) = 18446744073709551616 := by omega
          rw [e]; rfl
        have q3 : (((d : Nat) : Int) != (x : Int)) = true := by simp; omega
        clear c4 hm h0 hne hD hnear hn
        go_enter Try.func10, Try.ntmps10
        go_wp2_with fail
        refine (head_up _).mono ?_
        rintro e u1 ⟨rfl, rfl⟩
        go_wp2_with fail
        refine (down_yes x to hx ht H.out _).mono ?_
        rw [HD.out]
        rintro e u2 ⟨rfl, rfl⟩
        go_wp2_with fail
        refine (C4.out _).mono ?_
        rintro e u3 ⟨rfl, rfl⟩
        go_wp2_with fail
        refine (C3.out _).mono ?_
        rintro e u4 ⟨rfl, rfl⟩
        go_wp2_with fail
        go_ret
        exact ⟨rfl, Below.refl _ _⟩
  · have H := W_hid h
    clear h
    go_enter Try.func10, Try.ntmps10
    go_wp2_with fail
    refine (head_up _).mono ?_
    rintro e u1 ⟨rfl, rfl⟩
    go_wp2_with fail
    refine (down_no x to ht H.out _).mono ?_
    rintro e u2 ⟨rfl, rfl⟩
    go_wp2_with fail
    refine (up_no x to ht H.out _).mono ?_
    rintro e u3 ⟨rfl, rfl⟩
    go_wp2_with fail
    go_ret
    exact ⟨rfl, Below.refl _ _⟩

set_option maxRecDepth 100000 in
theorem WordParts_lifted (os : Os) (started : os.Started) (H : Type) (enc : TypeId × Value → H) :
    ReturnsInHanded {} Try.checked os 9 .any (Rows.wordPartsSpec.pre6 enc Try.prog Try.f9 Rows.wordPartsRow.domain false) (Rows.wordPartsSpec.post enc Try.prog Try.f9 false true false false) := by
  refine returnsInHanded_of_change (C := Try.checked) (by kernel_rfl) started (by kernel_rfl) Try.func9
    (ChangeSpec.witness6 (enc := enc) (C := Try.checked) false ⟨#[], #[.int .u64 0, .int .i64 0, .int .i64 0, .int .i64 0], []⟩ 8 (by kernel_rfl) (by kernel_rfl) (by kernel_rfl) (by kernel_rfl)) ?_
  intro W base args ds gs before hval0 hW hcnd _
  have hval : ∀ (j : Nat) t v, Try.f9.params[j]? = some t → args[j]? = some v → Value.okWide Try.prog W .any base t v := hval0
  have hW' := hW
  obtain ⟨p, q, hA0, hV, rfl, hfz, hnd⟩ := hW
  have hA : DataW.TrodAll enc Try.prog W 0 (fun _ => true) true Try.f9.params.toList args.toList ds p := hA0
  rw [Try.params9] at hA hval
  obtain ⟨v0, vs0, d0, ds0, p0, q0, hargs, rfl, rfl, h0, r0⟩ := trodAll_cons hA
  obtain ⟨v1, vs1, d1, ds1, p1, q1, rfl, rfl, rfl, h1, r1⟩ := trodAll_cons r0
  obtain ⟨v2, vs2, d2, ds2, p2, q2, rfl, rfl, rfl, h2, r2⟩ := trodAll_cons r1
  obtain ⟨v3, vs3, d3, ds3, p3, q3, rfl, rfl, rfl, h3, r3⟩ := trodAll_cons r2
  obtain ⟨rfl, rfl, rfl⟩ := trodAll_nil r3
  obtain rfl : args = #[v0, v1, v2, v3] := by cases args; simp_all
  obtain ⟨rfl, rfl⟩ := trodVars_none hV
  obtain ⟨a0, rfl, rfl, rfl, w0⟩ := open_int Try.underlying22 (hval 0 22 v0 rfl rfl) h0
  obtain ⟨a1, rfl, rfl, rfl, w1⟩ := open_int Try.underlying3 (hval 1 3 v1 rfl rfl) h1
  obtain ⟨a2, rfl, rfl, rfl, w2⟩ := open_int Try.underlying3 (hval 2 3 v2 rfl rfl) h2
  obtain ⟨a3, rfl, rfl, rfl, w3⟩ := open_int Try.underlying3 (hval 3 3 v3 rfl rfl) h3
  clear hA0 hval0
  refine (WordParts_walk a0 a1 a2 a3 W w0 w1 w2 w3).mono fun e W' ⟨he, bel⟩ => ?_
  subst he
  exact ⟨_, rfl, _, _, _, [], _, [], hW', trodAll_mk1 (shut_bool Try.underlying4 _), (trodAll_cons_mk (shut_int Try.underlying22 w0) (trodAll_cons_mk (shut_int Try.underlying3 w1) (trodAll_cons_mk (shut_int Try.underlying3 w2) (trodAll_cons_mk (shut_int Try.underlying3 w3) trodAll_mk0)))), rfl, bel.frame _, fun h => by cases h⟩

/-- The given statement of WordParts. -/
theorem WordParts_holds : Rows.WordPartsSaid :=
  OpenClaim.holds_of_wide 9 Try.f9 rfl rfl rfl rfl rfl rfl rfl ⟨rfl, rfl, rfl, rfl, rfl⟩ rfl rfl rfl rfl rfl (by kernel_rfl) Try.func9 (by kernel_rfl)
    (of_decide_eq_true (by kernel_rfl)) (by unfold Func.isWrapper; first | (rw [if_pos (by decide +kernel)]; kernel_rfl) | (rw [if_neg (by decide +kernel)]; exact ⟨rfl, rfl⟩))
    (fun os started H enc _ => WordParts_lifted os started H enc)

set_option maxRecDepth 100000 in
theorem WordBetween_lifted (os : Os) (started : os.Started) (H : Type) (enc : TypeId × Value → H) :
    ReturnsInHanded {} Try.checked os 10 .any (Rows.wordBetweenSpec.pre6 enc Try.prog Try.f10 Rows.wordBetweenRow.domain false) (Rows.wordBetweenSpec.post enc Try.prog Try.f10 false true false false) := by
  refine returnsInHanded_of_change (C := Try.checked) (by kernel_rfl) started (by kernel_rfl) Try.func10
    (ChangeSpec.witness6 (enc := enc) (C := Try.checked) false ⟨#[], #[.int .u64 0, .int .u64 0], []⟩ 8 (by kernel_rfl) (by kernel_rfl) (by kernel_rfl) (by kernel_rfl)) ?_
  intro W base args ds gs before hval0 hW hcnd _
  have hval : ∀ (j : Nat) t v, Try.f10.params[j]? = some t → args[j]? = some v → Value.okWide Try.prog W .any base t v := hval0
  have hW' := hW
  obtain ⟨p, q, hA0, hV, rfl, hfz, hnd⟩ := hW
  have hA : DataW.TrodAll enc Try.prog W 0 (fun _ => true) true Try.f10.params.toList args.toList ds p := hA0
  rw [Try.params10] at hA hval
  obtain ⟨v0, vs0, d0, ds0, p0, q0, hargs, rfl, rfl, h0, r0⟩ := trodAll_cons hA
  obtain ⟨v1, vs1, d1, ds1, p1, q1, rfl, rfl, rfl, h1, r1⟩ := trodAll_cons r0
  obtain ⟨rfl, rfl, rfl⟩ := trodAll_nil r1
  obtain rfl : args = #[v0, v1] := by cases args; simp_all
  obtain ⟨rfl, rfl⟩ := trodVars_none hV
  obtain ⟨a0, rfl, rfl, rfl, w0⟩ := open_int Try.underlying22 (hval 0 22 v0 rfl rfl) h0
  obtain ⟨a1, rfl, rfl, rfl, w1⟩ := open_int Try.underlying22 (hval 1 22 v1 rfl rfl) h1
  clear hA0 hval0
  refine (WordBetween_walk a0 a1 W w0 w1).mono fun e W' ⟨he, bel⟩ => ?_
  subst he
  exact ⟨_, rfl, _, _, _, [], _, [], hW', trodAll_mk1 (shut_bool Try.underlying4 _), (trodAll_cons_mk (shut_int Try.underlying22 w0) (trodAll_cons_mk (shut_int Try.underlying22 w1) trodAll_mk0)), rfl, bel.frame _, fun h => by cases h⟩

/-- The given statement of WordBetween. -/
theorem WordBetween_holds : Rows.WordBetweenSaid :=
  OpenClaim.holds_of_wide 10 Try.f10 rfl rfl rfl rfl rfl rfl rfl ⟨rfl, rfl, rfl, rfl, rfl⟩ rfl rfl rfl rfl rfl (by kernel_rfl) Try.func10 (by kernel_rfl)
    (of_decide_eq_true (by kernel_rfl)) (by unfold Func.isWrapper; first | (rw [if_pos (by decide +kernel)]; kernel_rfl) | (rw [if_neg (by decide +kernel)]; exact ⟨rfl, rfl⟩))
    (fun os started H enc _ => WordBetween_lifted os started H enc)

end Go.Proofs.Ytjnpekhmagamhaa

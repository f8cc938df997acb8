/- The laws of layer 9 (package haywardlaw09), RegionAdds and RegionCuts: for every input they return true, and their arguments read as before. No further condition. -/
import Derived.Test.YtfbhcnamkojboaaLaws09b
import Derived.Test.YtfbhcnamkojboaaRegRef5
namespace Go.Proofs.Ytfbhcnamkojboaa
open Go.ChangeShapes Go.WideShapes Go.ChangeAt Go.RowKit
open SQ
set_option linter.unusedVariables false
set_option linter.unusedSimpArgs false
open RG (Rg)


set_option maxRecDepth 100000 in
set_option maxHeartbeats 4000000 in
theorem RegionAdds_walk (o0 : Option Addr) (n0 c0 : Nat) (l0 : List Rg) (f t : Nat) (p s : Int) (w : World) (w0 : RI w o0 n0 c0 l0) (w1 : RFit1 ⟨f, t, p, s⟩) :
    Calls Try.prog 3 #[.slice o0 n0 c0, .agg #[.int .u64 (f : Int), .int .u64 (t : Int), .int .i64 p, .int .i64 s]] w fun e w' => e = .returned (.bool true) ∧ Below w.heap.size w w' := by
  have bb : Below w.heap.size w (w.alloc (.cells #[.int .u64 (f : Int), .int .u64 (t : Int), .int .i64 p, .int .i64 s] 25)) := (Below.refl _ _).alloc (Nat.le_refl _) _
  have hB0 : RB (w.alloc (.cells #[.int .u64 (f : Int), .int .u64 (t : Int), .int .i64 p, .int .i64 s] 25)) w.heap.size ⟨f, t, p, s⟩ := Blk.new _ _ _ rfl
  have hA := W_hid (fun w h => Add_any o0 n0 c0 l0 f t p s w h)
  have hR := W_hid (fun w h => rAdd_any o0 n0 c0 l0 f t p s w h)
  have hL := W_hid w0.1
  have hS : Hid (∀ w x1 n1 c1 x2 n2 c2, RS w x1 n1 c1 (adL l0 ⟨f, t, p, s⟩) → RS w x2 n2 c2 (adL l0 ⟨f, t, p, s⟩) → Gv 10 #[.slice x1 n1 c1, .slice x2 n2 c2] (.bool true) w) := by
    intro w x1 n1 c1 x2 n2 c2 h1 h2
    have := RSame_any x1 x2 n1 c1 n2 c2 _ _ w h1 h2
    rw [decide_eq_true rfl] at this
    exact this
  generalize adL l0 ⟨f, t, p, s⟩ = LL at *
  generalize adE l0 ⟨f, t, p, s⟩ = E at *
  clear w0 w1
  go_enter Try.func3, Try.ntmps3
  go_wp2_with fail
  refine (shown_any _).mono ?_
  rintro e w1 ⟨rfl, bel1⟩
  have hB1 : RB w1 w.heap.size ⟨f, t, p, s⟩ := hB0.keep bel1
  obtain ⟨u0, u1, u2, u3⟩ := RB.re hB1
  replace bb := bb.trans (bel1.mono bb.size)
  have h01 := Nat.lt_of_lt_of_le hB0.lt bel1.size
  have hge := bb.size
  clear bel1 hB0
  go_wp2_with fail
  refine (hA.out _ (hL.out.keep bb)).mono ?_
  rintro e w2 ⟨a2, c2, rfl, hown2, bel2⟩
  have hB2 : RB w2 w.heap.size ⟨f, t, p, s⟩ := hB1.keep bel2
  obtain ⟨u0, u1, u2, u3⟩ := RB.re hB2
  replace bb := bb.trans (bel2.mono bb.size)
  have hlies := W_hid (fun h => own_lies hown2 h)
  clear bel2 hB1
  go_wp2_with fail
  refine (hR.out _ (hL.out.keep bb)).mono ?_
  rintro e w3 ⟨a3, c3, rfl, hown3, bel3⟩
  have hB3 : RB w3 w.heap.size ⟨f, t, p, s⟩ := hB2.keep bel3
  obtain ⟨u0, u1, u2, u3⟩ := RB.re hB3
  replace bb := bb.trans (bel3.mono bb.size)
  replace hown2 := Own.below hown2 bel3
  clear bel3 hB2
  go_wp2_with fail
  refine (hS.out _ _ _ _ _ _ _ (RS_own hown2) (RS_own hown3)).mono ?_
  rintro e w4 ⟨rfl, bel4⟩
  have hB4 : RB w4 w.heap.size ⟨f, t, p, s⟩ := hB3.keep bel4
  replace bb := bb.trans (bel4.mono bb.size)
  replace hown2 := Own.below hown2 bel4
  replace hown3 := Own.below hown3 bel4
  obtain ⟨N, hN⟩ : ∃ N, LL.length = N := ⟨_, rfl⟩
  have hN63 : N ≤ maxLen := by
    rw [← hN]
    have h1 := RS_own hown2
    exact Nat.le_trans h1.2.1 h1.2.2.1
  unfold maxLen at hN63
  rw [hN] at hown2 hown3 hlies ⊢
  replace hN := W_hid hN
  clear bel4 hB3
  go_wp2_with fail
  go_loopw [11] (fun i wr => ∃ (k : Nat) (xs : List Value), k ≤ N ∧ i = .int .i64 k ∧ wr.ownsRow w1.heap.size 25 4 (.slice a2 N c2) N xs ∧ wr.ownsRow w2.heap.size 25 4 (.slice a3 N c3) N (rcl LL) ∧ RB wr w.heap.size ⟨f, t, p, s⟩ ∧ Below w.heap.size w wr) (fun i _ => N - (intOf i).toNat)
  case atStart => exact ⟨0, _, Nat.zero_le _, rfl, hown2, hown3, hB4, bb⟩
  case round =>
    clear hown2 hown3 bb hB4 u0 u1 u2 u3
    obtain ⟨k, xs, hk, rfl, hown2, hown3, hB, bel⟩ := hrel
    by_cases hlt : k < N
    · obtain ⟨g, rfl, hg1, hg2⟩ := hlies.out (by omega)
      have hxl : xs.length = N * 4 := hown2.1
      have e1 : wr.cell? ⟨g, k * 4, none⟩ = some (xs[k * 4]'(by omega)) := by rw [hown2.cellAt (k * 4) (by omega), List.getElem?_eq_getElem (by omega)]
      have e2 : wr.cell? ⟨g, k * 4 + 1, none⟩ = some (xs[k * 4 + 1]'(by omega)) := by rw [hown2.cellAt (k * 4 + 1) (by omega), List.getElem?_eq_getElem (by omega)]
      have e3 : wr.cell? ⟨g, k * 4 + 2, none⟩ = some (xs[k * 4 + 2]'(by omega)) := by rw [hown2.cellAt (k * 4 + 2) (by omega), List.getElem?_eq_getElem (by omega)]
      have e4 : wr.cell? ⟨g, k * 4 + 3, none⟩ = some (xs[k * 4 + 3]'(by omega)) := by rw [hown2.cellAt (k * 4 + 3) (by omega), List.getElem?_eq_getElem (by omega)]
      have ff := hown2.frozenAt
      have q2 := ((((hown2.stored (k * 4) (.int .u64 0)).1.stored (k * 4 + 1) (.int .u64 0)).1.stored (k * 4 + 2) (.int .i64 0)).1.stored (k * 4 + 3) (.int .i64 0)).1
      have q3 := Own.set (Own.set (Own.set (Own.set hown3 (p := ⟨g, k * 4, none⟩) hg2 (.int .u64 0)) (p := ⟨g, k * 4 + 1, none⟩) hg2 (.int .u64 0)) (p := ⟨g, k * 4 + 2, none⟩) hg2 (.int .i64 0)) (p := ⟨g, k * 4 + 3, none⟩) hg2 (.int .i64 0)
      have q4 := (((bel.setCell (p := ⟨g, k * 4, none⟩) (Nat.le_trans hge hg1) (.int .u64 0)).setCell (p := ⟨g, k * 4 + 1, none⟩) (Nat.le_trans hge hg1) (.int .u64 0)).setCell (p := ⟨g, k * 4 + 2, none⟩) (Nat.le_trans hge hg1) (.int .i64 0)).setCell (p := ⟨g, k * 4 + 3, none⟩) (Nat.le_trans hge hg1) (.int .i64 0)
      have hgn : w.heap.size ≠ g := by omega
      have q5 := (((hB.far (p := ⟨g, k * 4, none⟩) hgn (.int .u64 0)).far (p := ⟨g, k * 4 + 1, none⟩) hgn (.int .u64 0)).far (p := ⟨g, k * 4 + 2, none⟩) hgn (.int .i64 0)).far (p := ⟨g, k * 4 + 3, none⟩) hgn (.int .i64 0)
      obtain ⟨u1, hu1⟩ : ∃ u, xs[k * 4]'(by omega) = u := ⟨_, rfl⟩
      obtain ⟨u2, hu2⟩ : ∃ u, xs[k * 4 + 1]'(by omega) = u := ⟨_, rfl⟩
      obtain ⟨u3, hu3⟩ : ∃ u, xs[k * 4 + 2]'(by omega) = u := ⟨_, rfl⟩
      obtain ⟨u4, hu4⟩ : ∃ u, xs[k * 4 + 3]'(by omega) = u := ⟨_, rfl⟩
      rw [hu1] at e1
      rw [hu2] at e2
      rw [hu3] at e3
      rw [hu4] at e4
      clear hown2 hown3 bel hu1 hu2 hu3 hu4 hB
      go_wp2_with fail
      go_roundw
      case rel => exact ⟨k + 1, _, by omega, by go_num, q2, q3, q5, q4⟩
      case measure => simp [intOf]; omega
    · obtain rfl : k = N := by omega
      obtain ⟨u0, u1, u2, u3⟩ := RB.re hB
      go_wp2_with fail
      refine (hA.out _ (hL.out.keep bel)).mono ?_
      rintro e w5 ⟨a5, c5, rfl, hown5, bel5⟩
      replace hown3 := Own.below hown3 bel5
      have hSS := W_hid (hS.out w5 _ _ _ _ _ _ (RS_own hown5) (RS_own hown3))
      replace bel := bel.trans (bel5.mono bel.size)
      clear hown2 hown3 hown5 bel5 hB u0 u1 u2 u3
      go_wp2_with fail
      refine hSS.out.mono ?_
      rintro e w6 ⟨rfl, bel6⟩
      go_wp2
      go_ret
      exact ⟨rfl, bel.trans (bel6.mono bel.size)⟩

set_option maxRecDepth 100000 in
theorem RegionAdds_lifted (os : Os) (started : os.Started) (H : Type) (enc : TypeId × Value → H) :
    ReturnsInHanded {} Try.checked os 3 .any (Rows.regionAddsSpec.pre6 enc Try.prog Try.f3 Rows.regionAddsRow.domain false) (Rows.regionAddsSpec.post enc Try.prog Try.f3 false true false false) := by
  refine returnsInHanded_of_change (C := Try.checked) (by kernel_rfl) started (by kernel_rfl) Try.func3
    (ChangeSpec.witness6 (enc := enc) (C := Try.checked) false ⟨#[], #[.slice none 0 0, .agg #[.int .u64 0, .int .u64 0, .int .i64 0, .int .i64 0]], []⟩ 8 (by kernel_rfl) (by kernel_rfl) (by kernel_rfl) (by kernel_rfl)) ?_
  intro W base args ds gs before hval0 hW hcnd _
  have hval : ∀ (j : Nat) t v, Try.f3.params[j]? = some t → args[j]? = some v → Value.okWide Try.prog W .any base t v := hval0
  have hW' := hW
  obtain ⟨p, q, hA0, hV, rfl, hfz, hnd⟩ := hW
  have hA : DataW.TrodAll enc Try.prog W 0 (fun _ => true) true Try.f3.params.toList args.toList ds p := hA0
  rw [Try.params3] at hA hval
  obtain ⟨v0, vs0, d0, ds0, p0, q0, hargs, rfl, rfl, h0, r0⟩ := trodAll_cons hA
  obtain ⟨v1, vs1, d1, ds1, p1, q1, rfl, rfl, rfl, h1, r1⟩ := trodAll_cons r0
  obtain ⟨rfl, rfl, rfl⟩ := trodAll_nil r1
  obtain rfl : args = #[v0, v1] := by cases args; simp_all
  obtain ⟨rfl, rfl⟩ := trodVars_none hV
  have k0 := h0
  have lt0 : ∀ x ∈ p0, x.block < W.heap.size := by obtain ⟨m, hm⟩ := k0; exact DataW.trod_lt m _ _ _ hm
  obtain ⟨o0, n0, c0, l0, rfl, w0⟩ := open_regions (hval 0 22 v0 rfl rfl) h0
  have k1 := h1
  have lt1 : ∀ x ∈ p1, x.block < W.heap.size := by obtain ⟨m, hm⟩ := k1; exact DataW.trod_lt m _ _ _ hm
  obtain ⟨a1, b1, c1, d1, rfl, w1⟩ := open_region (hval 1 25 v1 rfl rfl) h1
  clear hA0 hval0
  refine (RegionAdds_walk o0 n0 c0 l0 a1 b1 c1 d1 W w0 w1).mono fun e W' ⟨he, bel⟩ => ?_
  subst he
  exact ⟨_, rfl, _, _, _, [], _, [], hW', trodAll_mk1 (shut_bool Try.underlying4 _), (trodAll_cons_mk (Below.trod laidOut (by kernel_rfl) (of_decide_eq_true (by kernel_rfl)) k0 bel lt0) (trodAll_cons_mk (Below.trod laidOut (by kernel_rfl) (of_decide_eq_true (by kernel_rfl)) k1 bel lt1) trodAll_mk0)), rfl, bel.frame _, fun h => by cases h⟩

/-- The given statement of RegionAdds. -/
theorem RegionAdds_holds : Rows.RegionAddsSaid :=
  OpenClaim.holds_of_wide 3 Try.f3 rfl rfl rfl rfl rfl rfl rfl ⟨rfl, rfl, rfl, rfl, rfl⟩ rfl rfl rfl rfl rfl (by kernel_rfl) Try.func3 (by kernel_rfl)
    (of_decide_eq_true (by kernel_rfl)) (by unfold Func.isWrapper; first | (rw [if_pos (by decide +kernel)]; kernel_rfl) | (rw [if_neg (by decide +kernel)]; exact ⟨rfl, rfl⟩))
    (fun os started H enc _ => RegionAdds_lifted os started H enc)

set_option maxRecDepth 100000 in
set_option maxHeartbeats 4000000 in
theorem RegionCuts_walk (o0 : Option Addr) (n0 c0 : Nat) (l0 : List Rg) (a1 a2 : Int) (w : World) (w0 : RI w o0 n0 c0 l0) (w1 : (Lit.int .u64 a1).wf = true) (w2 : (Lit.int .u64 a2).wf = true) :
    Calls Try.prog 4 #[.slice o0 n0 c0, .int .u64 a1, .int .u64 a2] w fun e w' => e = .returned (.bool true) ∧ Below w.heap.size w w' := by
  obtain ⟨lo, hlo⟩ : ∃ x : Nat, a1 = x := ⟨a1.toNat, by have := bounds_u64 w1; omega⟩
  obtain ⟨hi, hhi⟩ : ∃ x : Nat, a2 = x := ⟨a2.toNat, by have := bounds_u64 w2; omega⟩
  have hA : Hid (∀ w, GL w o0 n0 c0 l0 → GvEE 11 #[.slice o0 n0 c0, .int .u64 a1, .int .u64 a2] (ctL l0 lo hi) (ctO l0 lo hi) (ctE l0 lo hi) w) := by
    intro w h
    rw [hlo, hhi]
    exact Cut_any o0 n0 c0 l0 lo hi w h
  have hR : Hid (∀ w, GL w o0 n0 c0 l0 → GvEE 12 #[.slice o0 n0 c0, .int .u64 a1, .int .u64 a2] (ctL l0 lo hi) (ctO l0 lo hi) (ctE l0 lo hi) w) := by
    intro w h
    rw [hlo, hhi]
    exact rCut_any o0 n0 c0 l0 lo hi w h
  have hL := W_hid w0.1
  have hS : Hid (∀ w x1 n1 c1 x2 n2 c2 l, RS w x1 n1 c1 l → RS w x2 n2 c2 l → Gv 10 #[.slice x1 n1 c1, .slice x2 n2 c2] (.bool true) w) := by
    intro w x1 n1 c1 x2 n2 c2 l h1 h2
    have := RSame_any x1 x2 n1 c1 n2 c2 _ _ w h1 h2
    rw [decide_eq_true rfl] at this
    exact this
  generalize ctL l0 lo hi = LL at *
  generalize ctO l0 lo hi = OO at *
  generalize ctE l0 lo hi = E at *
  clear w0 w1 w2 hlo hhi
  go_enter Try.func4, Try.ntmps4
  go_wp2_with fail
  refine (shown_any _).mono ?_
  rintro e w1 ⟨rfl, bb⟩
  have hge := bb.size
  go_wp2_with fail
  refine (hA.out _ (hL.out.keep bb)).mono ?_
  rintro e w2 ⟨x2, c2, y2, d2, B2, rfl, hown2, hlt2, hB2, hown2', bel2⟩
  have hGL := W_hid (GL_own hown2)
  have hlow := W_hid (fun g hg => hlt2 g hg)
  replace bb := bb.trans (bel2.mono bb.size)
  have hlies := W_hid (fun h => own_lies hown2' h)
  clear bel2 hlt2
  go_wp2_with fail
  refine (hR.out _ (hL.out.keep bb)).mono ?_
  rintro e w3 ⟨x3, c3, y3, d3, B3, rfl, hown3, hlt3, hB3, hown3', bel3⟩
  replace bb := bb.trans (bel3.mono bb.size)
  replace hown2 := Own.below hown2 bel3
  replace hown2' := Own.below hown2' bel3
  have hS1 := W_hid (hS.out w3 _ _ _ _ _ _ _ (RS_own hown2) (RS_own hown3))
  have hS2 := W_hid (fun w4 (hb : Below w3.heap.size w3 w4) => hS.out w4 _ _ _ _ _ _ _ (RS_own (Own.below hown2' hb)) (RS_own (Own.below hown3' hb)))
  clear bel3 hlt3
  go_wp2_with fail
  refine hS1.out.mono ?_
  rintro e w4 ⟨rfl, bel4⟩
  replace hS2 := W_hid (hS2.out w4 bel4)
  replace bb := bb.trans (bel4.mono bb.size)
  replace hown2 := Own.below hown2 bel4
  replace hown2' := Own.below hown2' bel4
  replace hown3 := Own.below hown3 bel4
  clear bel4 hS1 hown3'
  go_wp2_with fail
  refine hS2.out.mono ?_
  rintro e w5 ⟨rfl, bel5⟩
  replace bb := bb.trans (bel5.mono bb.size)
  replace hown2 := Own.below hown2 bel5
  replace hown2' := Own.below hown2' bel5
  replace hown3 := Own.below hown3 bel5
  clear bel5 hS2
  obtain ⟨N, hN⟩ : ∃ N, OO.length = N := ⟨_, rfl⟩
  have hN63 : N ≤ maxLen := by
    rw [← hN]
    have h1 := RS_own hown2'
    exact Nat.le_trans h1.2.1 h1.2.2.1
  unfold maxLen at hN63
  rw [hN] at hown2' hlies ⊢
  replace hN := W_hid hN
  go_wp2_with fail
  go_loopw [15] (fun i wr => ∃ (k : Nat) (xs : List Value), k ≤ N ∧ i = .int .i64 k ∧ wr.ownsRow B2 25 4 (.slice y2 N d2) N xs ∧ Hid (RS wr x2 LL.length c2 LL) ∧ wr.ownsRow w2.heap.size 25 4 (.slice x3 LL.length c3) LL.length (rcl LL) ∧ Below w.heap.size w wr) (fun i _ => N - (intOf i).toNat)
  case atStart => exact ⟨0, _, Nat.zero_le _, rfl, hown2', RS_own hown2, hown3, bb⟩
  case round =>
    have hlow2 : Hid (∀ a, x2 = some a → 0 < LL.length → a.block < B2) := by
      intro a ha hn
      obtain ⟨g, hg, _⟩ := own_lies hown2 hn
      have := hlow.out g (by rw [hg]; rfl)
      rw [hg] at ha
      cases ha
      exact this
    clear hown2 hown3 hown2' bb
    obtain ⟨k, xs, hk, rfl, hown2, hGA, hown3, bel⟩ := hrel
    by_cases hlt : k < N
    · obtain ⟨g, rfl, hg1, hg2⟩ := hlies.out (by omega)
      have hxl : xs.length = N * 4 := hown2.1
      have e1 : wr.cell? ⟨g, k * 4, none⟩ = some (xs[k * 4]'(by omega)) := by rw [hown2.cellAt (k * 4) (by omega), List.getElem?_eq_getElem (by omega)]
      have e2 : wr.cell? ⟨g, k * 4 + 1, none⟩ = some (xs[k * 4 + 1]'(by omega)) := by rw [hown2.cellAt (k * 4 + 1) (by omega), List.getElem?_eq_getElem (by omega)]
      have e3 : wr.cell? ⟨g, k * 4 + 2, none⟩ = some (xs[k * 4 + 2]'(by omega)) := by rw [hown2.cellAt (k * 4 + 2) (by omega), List.getElem?_eq_getElem (by omega)]
      have e4 : wr.cell? ⟨g, k * 4 + 3, none⟩ = some (xs[k * 4 + 3]'(by omega)) := by rw [hown2.cellAt (k * 4 + 3) (by omega), List.getElem?_eq_getElem (by omega)]
      have ff := hown2.frozenAt
      have q2 := ((((hown2.stored (k * 4) (.int .u64 0)).1.stored (k * 4 + 1) (.int .u64 0)).1.stored (k * 4 + 2) (.int .i64 0)).1.stored (k * 4 + 3) (.int .i64 0)).1
      have q3 := Own.set (Own.set (Own.set (Own.set hown3 (p := ⟨g, k * 4, none⟩) hg2 (.int .u64 0)) (p := ⟨g, k * 4 + 1, none⟩) hg2 (.int .u64 0)) (p := ⟨g, k * 4 + 2, none⟩) hg2 (.int .i64 0)) (p := ⟨g, k * 4 + 3, none⟩) hg2 (.int .i64 0)
      have hgw : w.heap.size ≤ g := by omega
      have q4 := (((bel.setCell (p := ⟨g, k * 4, none⟩) hgw (.int .u64 0)).setCell (p := ⟨g, k * 4 + 1, none⟩) hgw (.int .u64 0)).setCell (p := ⟨g, k * 4 + 2, none⟩) hgw (.int .i64 0)).setCell (p := ⟨g, k * 4 + 3, none⟩) hgw (.int .i64 0)
      have q5 : Hid (RS ((((wr.setCell ⟨g, k * 4, none⟩ (.int .u64 0)).setCell ⟨g, k * 4 + 1, none⟩ (.int .u64 0)).setCell ⟨g, k * 4 + 2, none⟩ (.int .i64 0)).setCell ⟨g, k * 4 + 3, none⟩ (.int .i64 0)) x2 LL.length c2 LL) := by
        refine hGA.out.of (fun a ha hn => ?_)
        have h1 := hlow2.out a ha hn
        have hne : a.block ≠ g := by omega
        rw [Below.heap_setCell _ _ _ _ hne, Below.heap_setCell _ _ _ _ hne, Below.heap_setCell _ _ _ _ hne, Below.heap_setCell _ _ _ _ hne]
      obtain ⟨u1, hu1⟩ : ∃ u, xs[k * 4]'(by omega) = u := ⟨_, rfl⟩
      obtain ⟨u2, hu2⟩ : ∃ u, xs[k * 4 + 1]'(by omega) = u := ⟨_, rfl⟩
      obtain ⟨u3, hu3⟩ : ∃ u, xs[k * 4 + 2]'(by omega) = u := ⟨_, rfl⟩
      obtain ⟨u4, hu4⟩ : ∃ u, xs[k * 4 + 3]'(by omega) = u := ⟨_, rfl⟩
      rw [hu1] at e1
      rw [hu2] at e2
      rw [hu3] at e3
      rw [hu4] at e4
      clear hown2 hown3 bel hu1 hu2 hu3 hu4 hGA hlow2
      go_wp2_with fail
      go_roundw
      case rel => exact ⟨k + 1, _, by omega, by go_num, q2, q5, q3, q4⟩
      case measure => simp [intOf]; omega
    · obtain rfl : k = N := by omega
      have hSS := W_hid (hS.out wr _ _ _ _ _ _ _ hGA.out (RS_own hown3))
      clear hown2 hown3 hGA hlow2
      go_wp2_with fail
      refine hSS.out.mono ?_
      rintro e w6 ⟨rfl, bel6⟩
      go_wp2
      go_ret
      exact ⟨rfl, bel.trans (bel6.mono bel.size)⟩

set_option maxRecDepth 100000 in
theorem RegionCuts_lifted (os : Os) (started : os.Started) (H : Type) (enc : TypeId × Value → H) :
    ReturnsInHanded {} Try.checked os 4 .any (Rows.regionCutsSpec.pre6 enc Try.prog Try.f4 Rows.regionCutsRow.domain false) (Rows.regionCutsSpec.post enc Try.prog Try.f4 false true false false) := by
  refine returnsInHanded_of_change (C := Try.checked) (by kernel_rfl) started (by kernel_rfl) Try.func4
    (ChangeSpec.witness6 (enc := enc) (C := Try.checked) false ⟨#[], #[.slice none 0 0, .int .u64 0, .int .u64 0], []⟩ 8 (by kernel_rfl) (by kernel_rfl) (by kernel_rfl) (by kernel_rfl)) ?_
  intro W base args ds gs before hval0 hW hcnd _
  have hval : ∀ (j : Nat) t v, Try.f4.params[j]? = some t → args[j]? = some v → Value.okWide Try.prog W .any base t v := hval0
  have hW' := hW
  obtain ⟨p, q, hA0, hV, rfl, hfz, hnd⟩ := hW
  have hA : DataW.TrodAll enc Try.prog W 0 (fun _ => true) true Try.f4.params.toList args.toList ds p := hA0
  rw [Try.params4] at hA hval
  obtain ⟨v0, vs0, d0, ds0, p0, q0, hargs, rfl, rfl, h0, r0⟩ := trodAll_cons hA
  obtain ⟨v1, vs1, d1, ds1, p1, q1, rfl, rfl, rfl, h1, r1⟩ := trodAll_cons r0
  obtain ⟨v2, vs2, d2, ds2, p2, q2, rfl, rfl, rfl, h2, r2⟩ := trodAll_cons r1
  obtain ⟨rfl, rfl, rfl⟩ := trodAll_nil r2
  obtain rfl : args = #[v0, v1, v2] := by cases args; simp_all
  obtain ⟨rfl, rfl⟩ := trodVars_none hV
  have k0 := h0
  have lt0 : ∀ x ∈ p0, x.block < W.heap.size := by obtain ⟨m, hm⟩ := k0; exact DataW.trod_lt m _ _ _ hm
  obtain ⟨o0, n0, c0, l0, rfl, w0⟩ := open_regions (hval 0 22 v0 rfl rfl) h0
  obtain ⟨a1, rfl, rfl, rfl, w1⟩ := open_int Try.underlying23 (hval 1 23 v1 rfl rfl) h1
  obtain ⟨a2, rfl, rfl, rfl, w2⟩ := open_int Try.underlying23 (hval 2 23 v2 rfl rfl) h2
  clear hA0 hval0
  refine (RegionCuts_walk o0 n0 c0 l0 a1 a2 W w0 w1 w2).mono fun e W' ⟨he, bel⟩ => ?_
  subst he
  exact ⟨_, rfl, _, _, _, [], _, [], hW', trodAll_mk1 (shut_bool Try.underlying4 _), (trodAll_cons_mk (Below.trod laidOut (by kernel_rfl) (of_decide_eq_true (by kernel_rfl)) k0 bel lt0) (trodAll_cons_mk (shut_int Try.underlying23 w1) (trodAll_cons_mk (shut_int Try.underlying23 w2) trodAll_mk0))), rfl, bel.frame _, fun h => by cases h⟩

/-- The given statement of RegionCuts. -/
theorem RegionCuts_holds : Rows.RegionCutsSaid :=
  OpenClaim.holds_of_wide 4 Try.f4 rfl rfl rfl rfl rfl rfl rfl ⟨rfl, rfl, rfl, rfl, rfl⟩ rfl rfl rfl rfl rfl (by kernel_rfl) Try.func4 (by kernel_rfl)
    (of_decide_eq_true (by kernel_rfl)) (by unfold Func.isWrapper; first | (rw [if_pos (by decide +kernel)]; kernel_rfl) | (rw [if_neg (by decide +kernel)]; exact ⟨rfl, rfl⟩))
    (fun os started H enc _ => RegionCuts_lifted os started H enc)
end Go.Proofs.Ytfbhcnamkojboaa

/- The law of layer 9 (package haywardlaw09), RegionProtects: for every input it returns true, and its arguments read as before. No further condition. -/
import Derived.Test.YtfbhcnamkojboaaLaws09b
import Derived.Test.YtfbhcnamkojboaaRegProt2
namespace Go.Proofs.Ytfbhcnamkojboaa
open Go.ChangeShapes Go.WideShapes Go.ChangeAt Go.RowKit
open SQ
set_option linter.unusedVariables false
set_option linter.unusedSimpArgs false
open RG (Rg)

set_option maxRecDepth 100000 in
set_option maxHeartbeats 4000000 in
theorem RegionProtects_walk (o0 : Option Addr) (n0 c0 : Nat) (l0 : List Rg) (a1 a2 a3 : Int) (w : World) (w0 : RI w o0 n0 c0 l0) (w1 : (Lit.int .u64 a1).wf = true) (w2 : (Lit.int .u64 a2).wf = true) (w3 : (Lit.int .i64 a3).wf = true) :
    Calls Try.prog 5 #[.slice o0 n0 c0, .int .u64 a1, .int .u64 a2, .int .i64 a3] w fun e w' => e = .returned (.bool true) ∧ Below w.heap.size w w' := by
  obtain ⟨lo, hlo⟩ : ∃ x : Nat, a1 = x := ⟨a1.toNat, by have := bounds_u64 w1; omega⟩
  obtain ⟨hi, hhi⟩ : ∃ x : Nat, a2 = x := ⟨a2.toNat, by have := bounds_u64 w2; omega⟩
  have hA : Hid (∀ w, GL w o0 n0 c0 l0 → GvE 13 #[.slice o0 n0 c0, .int .u64 a1, .int .u64 a2, .int .i64 a3] (prL l0 lo hi a3) (prE l0 lo hi a3) w) := by
    intro w h
    rw [hlo, hhi]
    exact Protect_any o0 n0 c0 l0 lo hi a3 w h
  have hR : Hid (∀ w, GL w o0 n0 c0 l0 → GvE 14 #[.slice o0 n0 c0, .int .u64 a1, .int .u64 a2, .int .i64 a3] (prL l0 lo hi a3) (prE l0 lo hi a3) w) := by
    intro w h
    rw [hlo, hhi]
    exact rProtect_any o0 n0 c0 l0 lo hi a3 w h
  have hL := W_hid w0.1
  have hS : Hid (∀ w x1 n1 c1 x2 n2 c2 l, RS w x1 n1 c1 l → RS w x2 n2 c2 l → Gv 10 #[.slice x1 n1 c1, .slice x2 n2 c2] (.bool true) w) := by
    intro w x1 n1 c1 x2 n2 c2 l h1 h2
    have := RSame_any x1 x2 n1 c1 n2 c2 _ _ w h1 h2
    rw [decide_eq_true rfl] at this
    exact this
  generalize prL l0 lo hi a3 = LL at *
  generalize prE l0 lo hi a3 = E at *
  clear w0 w1 w2 w3 hlo hhi
  go_enter Try.func5, Try.ntmps5
  go_wp2_with fail
  refine (shown_any _).mono ?_
  rintro e w1 ⟨rfl, bb⟩
  go_wp2_with fail
  refine (hA.out _ (hL.out.keep bb)).mono ?_
  rintro e w2 ⟨x2, c2, rfl, hown2, bel2⟩
  replace bb := bb.trans (bel2.mono bb.size)
  have hG2 := W_hid (GL_own hown2)
  clear bel2 hown2
  go_wp2_with fail
  refine (hR.out _ (hL.out.keep bb)).mono ?_
  rintro e w3 ⟨x3, c3, rfl, hown3, bel3⟩
  replace bb := bb.trans (bel3.mono bb.size)
  have hSS := W_hid (hS.out w3 _ _ _ _ _ _ _ (hG2.out.keep bel3).1 (RS_own hown3))
  clear bel3 hown3 hG2 hA hR hS hL
  go_wp2_with fail
  refine hSS.out.mono ?_
  rintro e w4 ⟨rfl, bel4⟩
  go_wp2
  go_ret
  exact ⟨rfl, bb.trans (bel4.mono bb.size)⟩

set_option maxRecDepth 100000 in
theorem RegionProtects_lifted (os : Os) (started : os.Started) (H : Type) (enc : TypeId × Value → H) :
    ReturnsInHanded {} Try.checked os 5 .any (Rows.regionProtectsSpec.pre6 enc Try.prog Try.f5 Rows.regionProtectsRow.domain false) (Rows.regionProtectsSpec.post enc Try.prog Try.f5 false true false false) := by
  refine returnsInHanded_of_change (C := Try.checked) (by kernel_rfl) started (by kernel_rfl) Try.func5
    (ChangeSpec.witness6 (enc := enc) (C := Try.checked) false ⟨#[], #[.slice none 0 0, .int .u64 0, .int .u64 0, .int .i64 0], []⟩ 8 (by kernel_rfl) (by kernel_rfl) (by kernel_rfl) (by kernel_rfl)) ?_
  intro W base args ds gs before hval0 hW hcnd _
  have hval : ∀ (j : Nat) t v, Try.f5.params[j]? = some t → args[j]? = some v → Value.okWide Try.prog W .any base t v := hval0
  have hW' := hW
  obtain ⟨p, q, hA0, hV, rfl, hfz, hnd⟩ := hW
  have hA : DataW.TrodAll enc Try.prog W 0 (fun _ => true) true Try.f5.params.toList args.toList ds p := hA0
  rw [Try.params5] at hA hval
  obtain ⟨v0, vs0, d0, ds0, p0, q0, hargs, rfl, rfl, h0, r0⟩ := trodAll_cons hA
  obtain ⟨v1, vs1, d1, ds1, p1, q1, rfl, rfl, rfl, h1, r1⟩ := trodAll_cons r0
  obtain ⟨v2, vs2, d2, ds2, p2, q2, rfl, rfl, rfl, h2, r2⟩ := trodAll_cons r1
  obtain ⟨v3, vs3, d3, ds3, p3, q3, rfl, rfl, rfl, h3, r3⟩ := trodAll_cons r2
  obtain ⟨rfl, rfl, rfl⟩ := trodAll_nil r3
  obtain rfl : args = #[v0, v1, v2, v3] := by cases args; simp_all
  obtain ⟨rfl, rfl⟩ := trodVars_none hV
  have k0 := h0
  have lt0 : ∀ x ∈ p0, x.block < W.heap.size := by obtain ⟨m, hm⟩ := k0; exact DataW.trod_lt m _ _ _ hm
  obtain ⟨o0, n0, c0, l0, rfl, w0⟩ := open_regions (hval 0 22 v0 rfl rfl) h0
  obtain ⟨a1, rfl, rfl, rfl, w1⟩ := open_int Try.underlying23 (hval 1 23 v1 rfl rfl) h1
  obtain ⟨a2, rfl, rfl, rfl, w2⟩ := open_int Try.underlying23 (hval 2 23 v2 rfl rfl) h2
  obtain ⟨a3, rfl, rfl, rfl, w3⟩ := open_int Try.underlying3 (hval 3 3 v3 rfl rfl) h3
  clear hA0 hval0
  refine (RegionProtects_walk o0 n0 c0 l0 a1 a2 a3 W w0 w1 w2 w3).mono fun e W' ⟨he, bel⟩ => ?_
  subst he
  exact ⟨_, rfl, _, _, _, [], _, [], hW', trodAll_mk1 (shut_bool Try.underlying4 _), (trodAll_cons_mk (Below.trod laidOut (by kernel_rfl) (of_decide_eq_true (by kernel_rfl)) k0 bel lt0) (trodAll_cons_mk (shut_int Try.underlying23 w1) (trodAll_cons_mk (shut_int Try.underlying23 w2) (trodAll_cons_mk (shut_int Try.underlying3 w3) trodAll_mk0)))), rfl, bel.frame _, fun h => by cases h⟩

/-- The given statement of RegionProtects. -/
theorem RegionProtects_holds : Rows.RegionProtectsSaid :=
  OpenClaim.holds_of_wide 5 Try.f5 rfl rfl rfl rfl rfl rfl rfl ⟨rfl, rfl, rfl, rfl, rfl⟩ rfl rfl rfl rfl rfl (by kernel_rfl) Try.func5 (by kernel_rfl)
    (of_decide_eq_true (by kernel_rfl)) (by unfold Func.isWrapper; first | (rw [if_pos (by decide +kernel)]; kernel_rfl) | (rw [if_neg (by decide +kernel)]; exact ⟨rfl, rfl⟩))
    (fun os started H enc _ => RegionProtects_lifted os started H enc)
end Go.Proofs.Ytfbhcnamkojboaa

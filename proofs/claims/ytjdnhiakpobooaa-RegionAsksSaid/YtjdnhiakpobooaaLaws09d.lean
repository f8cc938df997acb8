/- The laws of layer 9 (package haywardlaw09), RegionFree: for every input it returns true, and its arguments read as before. No further condition. -/
import Derived.Test.YtjdnhiakpobooaaLaws09c
import Derived.Test.YtjdnhiakpobooaaRegThm2
namespace Go.Proofs.Ytjdnhiakpobooaa
open Go.ChangeShapes Go.WideShapes Go.ChangeAt Go.RowKit
open SQ
set_option linter.unusedVariables false
set_option linter.unusedSimpArgs false
open RG (Rg)

set_option maxRecDepth 100000 in
set_option maxHeartbeats 4000000 in
theorem RegionFree_walk (o0 : Option Addr) (n0 c0 : Nat) (l0 : List Rg) (a1 a2 a3 : Int) (w : World) (w0 : RI w o0 n0 c0 l0) (w1 : (Lit.int .u64 a1).wf = true) (w2 : (Lit.int .u64 a2).wf = true) (w3 : (Lit.int .u64 a3).wf = true) :
    Calls Try.prog 11 #[.slice o0 n0 c0, .int .u64 a1, .int .u64 a2, .int .u64 a3] w fun e w' => e = .returned (.bool true) ∧ Below w.heap.size w w' := by
  obtain ⟨lo, hlo⟩ : ∃ x : Nat, a1 = x := ⟨a1.toNat, by have := bounds_u64 w1; omega⟩
  obtain ⟨hi, hhi⟩ : ∃ x : Nat, a2 = x := ⟨a2.toNat, by have := bounds_u64 w2; omega⟩
  obtain ⟨sz, hsz⟩ : ∃ x : Nat, a3 = x := ⟨a3.toNat, by have := bounds_u64 w3; omega⟩
  have hL := W_hid w0.1
  have hG : Hid (∀ w, RL w o0 n0 c0 l0 → Gv 20 #[.slice o0 n0 c0, .int .u64 a1, .int .u64 a2, .int .u64 a3, .int .u64 4096] (.tuple #[.int .u64 ((gpV l0 lo hi sz 4096 : Nat) : Int), .int .i64 (gpE l0 lo hi sz 4096)]) w) := by
    intro w h
    rw [hlo, hhi, hsz]
    exact Gap_any o0 n0 c0 l0 lo hi sz 4096 w h (by have := bounds_u64 w1; omega) (by have := bounds_u64 w2; omega)
  have b1 := bounds_u64 w1
  have b2 := bounds_u64 w2
  have b3 := bounds_u64 w3
  clear w0 w1 w2 w3
  by_cases hE : gpE l0 lo hi sz 4096 = 0
  · obtain ⟨g, e1, e2, e3, e4, e5, e6⟩ := reg_free hE
    rw [e1, hE] at hG
    obtain ⟨G, hGG⟩ : ∃ G : Int, G = g := ⟨_, rfl⟩
    obtain ⟨T, hT⟩ : ∃ T, G + a3 = T := ⟨_, rfl⟩
    have hT' : T = ((g + sz : Nat) : Int) := by omega
    have hA : Hid (∀ w, RL w o0 n0 c0 l0 → GvE 13 #[.slice o0 n0 c0, .agg #[.int .u64 G, .int .u64 T, .int .i64 1, .int .i64 0]] (adL l0 ⟨g, g + sz, 1, 0⟩) 0 w) := by
      intro w h
      have := Add_any o0 n0 c0 l0 g (g + sz) 1 0 w h
      rw [e5] at this
      rw [hGG, hT']
      exact this
    rw [← hGG] at hG
    have q1 : ¬ G < a1 := by omega
    have q2 : ¬ a2 < T := by omega
    have q3 : 0 ≤ T ∧ T ≤ 18446744073709551615 := by omega
    generalize adL l0 ⟨g, g + sz, 1, 0⟩ = L2 at *
    by_cases hl : g = lo
    · have q4 : (G == a1) = true := by have : G = a1 := by omega
                                       simpa using this
      clear e1 e2 e3 e4 e5 e6 hE hl hGG hT' hlo hhi hsz
      go_enter Try.func11, Try.ntmps11
      go_wp2_with fail
      refine (shown_any _).mono ?_
      rintro e w1 ⟨rfl, bb⟩
      replace hL := W_hid (hL.out.keep bb)
      go_wp2_with fail
      refine (hG.out _ hL.out).mono ?_
      rintro e w2 ⟨rfl, bel2⟩
      replace hL := W_hid (hL.out.keep bel2)
      replace bb := bb.trans (bel2.mono bb.size)
      go_wp2_with fail
      refine (hA.out _ hL.out).mono ?_
      rintro e w3 ⟨a4, c4, rfl, hown, bel3⟩
      replace bb := bb.trans (bel3.mono bb.size)
      go_wp2_with fail
      go_ret
      exact ⟨rfl, bb⟩
    · obtain ⟨e7, e8, e9⟩ := e6.resolve_left hl
      have q4 : (G == a1) = false := by have : ¬ G = a1 := by omega
                                        simpa using this
      obtain ⟨G2, hG2⟩ : ∃ x, G - 4096 = x := ⟨_, rfl⟩
      obtain ⟨T2, hT2⟩ : ∃ x, T - 4096 = x := ⟨_, rfl⟩
      have hB : Hid (∀ w, RL w o0 n0 c0 l0 → GvE 13 #[.slice o0 n0 c0, .agg #[.int .u64 G2, .int .u64 T2, .int .i64 1, .int .i64 0]] (adL l0 ⟨g - 4096, g + sz - 4096, 1, 0⟩) 102 w) := by
        intro w h
        have := Add_any o0 n0 c0 l0 (g - 4096) (g + sz - 4096) 1 0 w h
        rw [e9] at this
        rw [show G2 = ((g - 4096 : Nat) : Int) by omega, show T2 = ((g + sz - 4096 : Nat) : Int) by omega]
        exact this
      generalize adL l0 ⟨g - 4096, g + sz - 4096, 1, 0⟩ = L3 at *
      have q5 : 0 ≤ G2 ∧ G2 ≤ 18446744073709551615 := by omega
      have q6 : 0 ≤ T2 ∧ T2 ≤ 18446744073709551615 := by omega
      clear e1 e2 e3 e4 e5 e6 e7 e8 e9 hE hl hGG hT' hlo hhi hsz
      go_enter Try.func11, Try.ntmps11
      go_wp2_with fail
      refine (shown_any _).mono ?_
      rintro e w1 ⟨rfl, bb⟩
      replace hL := W_hid (hL.out.keep bb)
      go_wp2_with fail
      refine (hG.out _ hL.out).mono ?_
      rintro e w2 ⟨rfl, bel2⟩
      replace hL := W_hid (hL.out.keep bel2)
      replace bb := bb.trans (bel2.mono bb.size)
      go_wp2_with fail
      refine (hA.out _ hL.out).mono ?_
      rintro e w3 ⟨a4, c4, rfl, hown, bel3⟩
      replace hL := W_hid (hL.out.keep bel3)
      replace bb := bb.trans (bel3.mono bb.size)
      go_wp2_with fail
      refine (hB.out _ hL.out).mono ?_
      rintro e w4 ⟨a5, c5, rfl, hown4, bel4⟩
      replace bb := bb.trans (bel4.mono bb.size)
      go_wp2_with fail
      go_ret
      exact ⟨rfl, bb⟩
  · rw [gp_no hE] at hG
    obtain ⟨E, hEE⟩ : ∃ E, gpE l0 lo hi sz 4096 = E := ⟨_, rfl⟩
    rw [hEE] at hG hE
    have q1 : (E == 0) = false := by simpa using hE
    have q2 : (E != 0) = true := by simpa using hE
    clear hEE hE hlo hhi hsz
    go_enter Try.func11, Try.ntmps11
    go_wp2_with fail
    refine (shown_any _).mono ?_
    rintro e w1 ⟨rfl, bb⟩
    replace hL := W_hid (hL.out.keep bb)
    go_wp2_with fail
    refine (hG.out _ hL.out).mono ?_
    rintro e w2 ⟨rfl, bel2⟩
    replace bb := bb.trans (bel2.mono bb.size)
    go_wp2_with fail
    go_ret
    exact ⟨rfl, bb⟩

set_option maxRecDepth 100000 in
theorem RegionFree_lifted (os : Os) (started : os.Started) (H : Type) (enc : TypeId × Value → H) :
    ReturnsInHanded {} Try.checked os 11 .any (Rows.regionFreeSpec.pre6 enc Try.prog Try.f11 Rows.regionFreeRow.domain false) (Rows.regionFreeSpec.post enc Try.prog Try.f11 false true false false) := by
  refine returnsInHanded_of_change (C := Try.checked) (by kernel_rfl) started (by kernel_rfl) Try.func11
    (ChangeSpec.witness6 (enc := enc) (C := Try.checked) false ⟨#[], #[.slice none 0 0, .int .u64 0, .int .u64 0, .int .u64 0], []⟩ 8 (by kernel_rfl) (by kernel_rfl) (by kernel_rfl) (by kernel_rfl)) ?_
  intro W base args ds gs before hval0 hW hcnd _
  have hval : ∀ (j : Nat) t v, Try.f11.params[j]? = some t → args[j]? = some v → Value.okWide Try.prog W .any base t v := hval0
  have hW' := hW
  obtain ⟨p, q, hA0, hV, rfl, hfz, hnd⟩ := hW
  have hA : DataW.TrodAll enc Try.prog W 0 (fun _ => true) true Try.f11.params.toList args.toList ds p := hA0
  rw [Try.params11] at hA hval
  obtain ⟨v0, vs0, d0, ds0, p0, q0, hargs, rfl, rfl, h0, r0⟩ := trodAll_cons hA
  obtain ⟨v1, vs1, d1, ds1, p1, q1, rfl, rfl, rfl, h1, r1⟩ := trodAll_cons r0
  obtain ⟨v2, vs2, d2, ds2, p2, q2, rfl, rfl, rfl, h2, r2⟩ := trodAll_cons r1
  obtain ⟨v3, vs3, d3, ds3, p3, q3, rfl, rfl, rfl, h3, r3⟩ := trodAll_cons r2
  obtain ⟨rfl, rfl, rfl⟩ := trodAll_nil r3
  obtain rfl : args = #[v0, v1, v2, v3] := by cases args; simp_all
  obtain ⟨rfl, rfl⟩ := trodVars_none hV
  have k0 := h0
  have lt0 : ∀ x ∈ p0, x.block < W.heap.size := by obtain ⟨m, hm⟩ := k0; exact DataW.trod_lt m _ _ _ hm
  obtain ⟨o0, n0, c0, l0, rfl, w0⟩ := open_regions (hval 0 22 v0 rfl rfl) h0
  obtain ⟨a1, rfl, rfl, rfl, w1⟩ := open_int Try.underlying23 (hval 1 23 v1 rfl rfl) h1
  obtain ⟨a2, rfl, rfl, rfl, w2⟩ := open_int Try.underlying23 (hval 2 23 v2 rfl rfl) h2
  obtain ⟨a3, rfl, rfl, rfl, w3⟩ := open_int Try.underlying23 (hval 3 23 v3 rfl rfl) h3
  clear hA0 hval0
  refine (RegionFree_walk o0 n0 c0 l0 a1 a2 a3 W w0 w1 w2 w3).mono fun e W' ⟨he, bel⟩ => ?_
  subst he
  exact ⟨_, rfl, _, _, _, [], _, [], hW', trodAll_mk1 (shut_bool Try.underlying4 _), (trodAll_cons_mk (Below.trod laidOut (by kernel_rfl) (of_decide_eq_true (by kernel_rfl)) k0 bel lt0) (trodAll_cons_mk (shut_int Try.underlying23 w1) (trodAll_cons_mk (shut_int Try.underlying23 w2) (trodAll_cons_mk (shut_int Try.underlying23 w3) trodAll_mk0)))), rfl, bel.frame _, fun h => by cases h⟩

/-- The given statement of RegionFree. -/
theorem RegionFree_holds : Rows.RegionFreeSaid :=
  OpenClaim.holds_of_wide 11 Try.f11 rfl rfl rfl rfl rfl rfl rfl ⟨rfl, rfl, rfl, rfl, rfl⟩ rfl rfl rfl rfl rfl (by kernel_rfl) Try.func11 (by kernel_rfl)
    (of_decide_eq_true (by kernel_rfl)) (by unfold Func.isWrapper; first | (rw [if_pos (by decide +kernel)]; kernel_rfl) | (rw [if_neg (by decide +kernel)]; exact ⟨rfl, rfl⟩))
    (fun os started H enc _ => RegionFree_lifted os started H enc)

end Go.Proofs.Ytjdnhiakpobooaa

/- The law SchedReady of layer 15 (package haywardlaw15): for every input it returns true, and its arguments read as before. No further condition. -/
import Derived.Test.YtondgjgfmngadaaSchRan
import Derived.ChangeOld
import Derived.ShutString
namespace Go.Proofs.Ytondgjgfmngadaa
open Go.ChangeShapes Go.WideShapes Go.ChangeAt Go.RowKit
set_option linter.unusedVariables false
set_option linter.unusedSimpArgs false
set_option maxRecDepth 100000
open SD
open IN (Keeps lt_of_some)

set_option maxRecDepth 100000 in
set_option maxHeartbeats 8000000 in
theorem SchedReady_walk (o0 : Option Addr) (n0 c0 : Nat) (l0 : List OpT15) (p : Int) (w : World) (w0 : OS15 w o0 n0 c0 l0) (w1 : (Lit.int .i64 p).wf = true) :
    Calls Try.prog 6 #[.slice o0 n0 c0, .int .i64 p] w fun e w' => e = .returned (.bool true) ∧ Below w.heap.size w w' := by
  have cS := W_hid (shown15 w)
  clear w1
  go_enter Try.func6, Try.ntmps6
  go_wp2_with fail
  refine cS.out.mono ?_
  rintro e w1 ⟨rfl, b1⟩
  have cR := W_hid (ran15 o0 n0 c0 l0 w1 (os_keep w0 b1))
  have hb1 := W_hid b1
  clear cS w0 b1
  go_wp2_with fail
  refine cR.out.mono ?_
  rintro e w2 ⟨qb, rb, rfl, S, hJ2⟩
  have hG := W_hid hJ2.good
  have cA := W_hid (hJ2.rdy (by omega))
  clear cR hJ2
  go_wp2_with fail
  refine cA.out.mono ?_
  rintro e w3 ⟨v, rfl, ho3, -, hJ3, -⟩
  obtain ⟨av, cv, rfl⟩ := Own.form ho3
  obtain ⟨av', cv', hv', hl, hat⟩ := list_at ho3
  simp only [Value.slice.injEq, true_and] at hv'
  obtain ⟨rfl, rfl⟩ := hv'
  obtain ⟨n, hn⟩ : ∃ n, (ready S).length = n := ⟨_, rfl⟩
  have hnb : n ≤ 100 := by rw [← hn, ready_len hG.out]; exact hG.out.llen
  have ho3 := W_hid ho3
  rw [hn] at hJ3 ⊢
  have hat := W_hid hat
  have hn := W_hid hn
  have hJ3 := W_hid hJ3
  clear cA hl
  go_wp2_with fail
  go_loopw [9, 10] (fun u i wr => ∃ k : Nat, k ≤ n ∧ i = .int .i64 (k : Int) ∧ u = .bool (hasB ((ready S).take k) p) ∧ w3 = wr) (fun _ i _ => n - (intOf i).toNat)
  case atStart => exact ⟨0, Nat.zero_le _, rfl, rfl, rfl⟩
  case round =>
    obtain ⟨k, hk, rfl, rfl, hwr⟩ := hrel
    subst hwr
    by_cases hlt : k < n
    · have hkl : k < (ready S).length := by rw [hn.out]; exact hlt
      obtain ⟨g, rfl, e0, q1, q2, -⟩ := hat.out k hkl
      rw [hn.out] at q1
      have hst := W_hid (hasB_step (p := p) hkl)
      obtain ⟨a, ha⟩ : ∃ a, (ready S)[k] = a := ⟨_, rfl⟩
      rw [ha] at e0 hst
      clear ha hkl
      cases hin : hasB ((ready S).take k) p with
      | true =>
        rw [hin] at hst
        have hst2 : Hid (hasB ((ready S).take (k + 1)) p = true) := W_hid (by rw [hst.out]; rfl)
        clear hin
        go_wp2_with fail
        go_roundw
        case rel => exact ⟨k + 1, by omega, by go_num, by rw [hst2.out], by first | trivial | rfl⟩
        case measure => simp [intOf]; omega
      | false =>
        rw [hin] at hst
        have hst2 : Hid (hasB ((ready S).take (k + 1)) p = (a == p)) := W_hid (by rw [hst.out]; rfl)
        clear hin
        go_wp2_with fail
        go_roundw
        case rel => exact ⟨k + 1, by omega, by go_num, by rw [hst2.out], by first | trivial | rfl⟩
        case measure => simp [intOf]; omega
    · obtain rfl : k = n := by omega
      clear hlt
      have htk : (ready S).take k = ready S := by rw [← hn.out, List.take_length]
      rw [htk]
      have hne : Hid (hasB (ready S) p = true ↔ ∃ x, get S.P p = some x ∧ x.on = true) := W_hid (hasB_iff.trans (ready_iff hG.out))
      have cSh := W_hid (J.callP (f := 18) (args := #[ptr qb, .int .i64 p]) (r := .returned (.tuple #[.float .f64 (shrR S p).1, .int .i64 (shrR S p).2])) (S' := S) (c' := 100) (Nat.le_refl _) (fun h => h) (fun X hT hG => Share_any hT hG (by omega) p) hJ3.out)
      have cLd := W_hid (fun W (h : J w1.heap.size w1 qb rb 100 S S (fun k_1 => False ∨ (Value.slice av k cv).ownBlock = some k_1) W) => J.callP (f := 17) (args := #[ptr qb, .int .i64 p]) (r := .returned (.tuple #[.float .f64 (loadR S p).1, .int .i64 (loadR S p).2])) (S' := S) (c' := 100) (Nat.le_refl _) (fun h => h) (fun X hT hG => Load_any hT hG (by omega) p) h)
      have cBl := W_hid (fun W (h : J w1.heap.size w1 qb rb 100 S S (fun k_1 => False ∨ (Value.slice av k cv).ownBlock = some k_1) W) => J.callP (f := 19) (args := #[ptr qb, .int .i64 p]) (r := .returned (.int .i64 (blkR S p).1)) (S' := (blkR S p).2) (c' := 100) (Nat.le_refl _) (fun h => good_blkR h p) (fun X hT hG => Block_any hT hG (by omega) p) h)
      obtain ⟨f1, hf1⟩ : ∃ f, (shrR S p).1 = f := ⟨_, rfl⟩
      obtain ⟨f2, hf2⟩ : ∃ f, (loadR S p).1 = f := ⟨_, rfl⟩
      rw [hf1] at cSh
      rw [hf2] at cLd
      cases hg : get S.P p with
      | none =>
        have hin : hasB (ready S) p = false := by
          cases hh : hasB (ready S) p with
          | false => rfl
          | true =>
            obtain ⟨x, hx, -⟩ := hne.out.1 hh
            rw [hg] at hx; cases hx
        rw [show (shrR S p).2 = 19 by unfold shrR; rw [hg]] at cSh
        rw [show (loadR S p).2 = 19 by unfold loadR; rw [hg]] at cLd
        rw [show blkR S p = (19, S) by unfold blkR; rw [hg]] at cBl
        rw [hin]
        clear hf1 hf2 hg hin htk
        go_wp2_with fail
        refine cSh.out.mono ?_
        rintro e w4 ⟨rfl, hJ4, hk4⟩
        have cL4 := W_hid (cLd.out w4 hJ4)
        have hk4 := W_hid hk4
        clear hJ4
        go_wp2_with fail
        refine cL4.out.mono ?_
        rintro e w5 ⟨rfl, hJ5, hk5⟩
        have cB5 := W_hid (cBl.out w5 hJ5)
        have hk5 := W_hid hk5
        clear hJ5
        go_wp2_with fail
        refine cB5.out.mono ?_
        rintro e w6 ⟨rfl, hJ6, hk6⟩
        have cA6 := W_hid (hJ6.rdy (by omega))
        have hk6 := W_hid hk6
        clear hJ6
        go_wp2_with fail
        refine cA6.out.mono ?_
        rintro e w7 ⟨v7, rfl, ho7, -, hJ7, hk7⟩
        have ho7 := W_hid ho7
        have hJ7 := W_hid hJ7
        have hk7 := W_hid hk7
        go_wp2_with fail
        go_ret
        exact ⟨rfl, hb1.out.trans (bel_mono hJ7.out.bel hb1.out.size)⟩
      | some x =>
        cases hon : x.on with
        | false =>
          have hin : hasB (ready S) p = false := by
            cases hh : hasB (ready S) p with
            | false => rfl
            | true =>
              obtain ⟨y, hy, hy2⟩ := hne.out.1 hh
              rw [hg] at hy; cases hy
              rw [hon] at hy2; cases hy2
          rw [show (shrR S p).2 = 2 by unfold shrR; rw [hg]; simp [hon]] at cSh
          rw [show (loadR S p).2 = 0 by unfold loadR; rw [hg]] at cLd
          rw [show blkR S p = (2, S) by unfold blkR; rw [hg]; simp [hon]] at cBl
          rw [hin]
          clear hf1 hf2 hg hin htk hon
          go_wp2_with fail
          refine cSh.out.mono ?_
          rintro e w4 ⟨rfl, hJ4, hk4⟩
          have cL4 := W_hid (cLd.out w4 hJ4)
          have hk4 := W_hid hk4
          clear hJ4
          go_wp2_with fail
          refine cL4.out.mono ?_
          rintro e w5 ⟨rfl, hJ5, hk5⟩
          have cB5 := W_hid (cBl.out w5 hJ5)
          have hk5 := W_hid hk5
          clear hJ5
          go_wp2_with fail
          refine cB5.out.mono ?_
          rintro e w6 ⟨rfl, hJ6, hk6⟩
          have cA6 := W_hid (hJ6.rdy (by omega))
          have hk6 := W_hid hk6
          clear hJ6
          go_wp2_with fail
          refine cA6.out.mono ?_
          rintro e w7 ⟨v7, rfl, ho7, -, hJ7, hk7⟩
          have ho7 := W_hid ho7
          have hJ7 := W_hid hJ7
          have hk7 := W_hid hk7
          have hlr : (ready S).length ≤ 60000 := by rw [hn.out]; omega
          have hol : w7.ownsRow w3.heap.size TI 1 (.slice av k cv) (ready S).length (icl (ready S)) ∨ True := .inr trivial
          have h1 := ho3.out
          rw [hn.out] at h1
          have h4 := own_move h1 fun j hj => hk4.out j (.inr hj)
          have h5 := own_move h4 fun j hj => hk5.out j (.inr hj)
          have h6 := own_move h5 fun j hj => hk6.out j (.inr hj)
          have h7 := own_move h6 fun j hj => hk7.out j (.inr hj)
          rw [← hn.out] at h7
          have cE := W_hid (rSame_yes v7 _ _ _ (ready S) w7 hlr ho7.out h7)
          rw [hn.out] at cE
          clear h1 h4 h5 h6 h7 hol
          go_wp2_with (go_at_call 12; refine cE.out.mono ?_; rintro e w8 ⟨rfl, b8⟩; have b8 := W_hid b8)
          go_ret
          exact ⟨rfl, hb1.out.trans (bel_mono (hJ7.out.keep b8.out).1.bel hb1.out.size)⟩
        | true =>
          have hin : hasB (ready S) p = true := hne.out.2 ⟨x, hg, hon⟩
          obtain ⟨e1, e2, S1, S2, e3, e4, e5, e6, e7, e8⟩ := on_facts hG.out (by omega) hg hon
          rw [e1] at cSh
          rw [e2] at cLd
          rw [e3] at cBl
          rw [hin]
          have cWk := W_hid (fun W (h : J w1.heap.size w1 qb rb 100 S1 S (fun k_1 => False ∨ (Value.slice av k cv).ownBlock = some k_1) W) => J.callP (f := 20) (args := #[ptr qb, .int .i64 p]) (r := .returned (.int .i64 0)) (S' := S2) (c' := 101) (by omega) (fun h => e6) (fun X hT hG => by have := Wake_any hT hG (by omega) p; rw [e5] at this; exact this) h)
          have e7 := W_hid e7
          have e8 := W_hid e8
          clear hf1 hf2 hg hin htk hon e1 e2 e3 e4 e5 e6
          go_wp2_with fail
          refine cSh.out.mono ?_
          rintro e w4 ⟨rfl, hJ4, hk4⟩
          have cL4 := W_hid (cLd.out w4 hJ4)
          have hk4 := W_hid hk4
          clear hJ4
          go_wp2_with fail
          refine cL4.out.mono ?_
          rintro e w5 ⟨rfl, hJ5, hk5⟩
          have cB5 := W_hid (cBl.out w5 hJ5)
          have hk5 := W_hid hk5
          clear hJ5
          go_wp2_with fail
          refine cB5.out.mono ?_
          rintro e w6 ⟨rfl, hJ6, hk6⟩
          have cA6 := W_hid (hJ6.rdy (by omega))
          have hk6 := W_hid hk6
          clear hJ6
          go_wp2_with fail
          refine cA6.out.mono ?_
          rintro e w7 ⟨v7, rfl, ho7, -, hJ7, hk7⟩
          have ho7 := W_hid ho7
          have hJ7 := W_hid hJ7
          have hk7 := W_hid hk7
          obtain ⟨a7, c7, rfl⟩ := Own.form ho7.out
          have hl7 : (((ready S1).length : Nat) : Int) = (k : Int) - 1 := by have := e7.out; have := hn.out; omega
          have cW7 := W_hid (cWk.out w7 (hJ7.out.less fun j hj => .inl hj))
          have hl8 : (ready S2).length = k := by rw [e8.out, hn.out]
          go_wp2_with fail
          refine cW7.out.mono ?_
          rintro e w8 ⟨rfl, hJ8, -⟩
          have cA8 := W_hid (hJ8.rdy (by omega))
          rw [hl8] at cA8
          clear hJ8
          go_wp2_with fail
          refine cA8.out.mono ?_
          rintro e w9 ⟨v9, rfl, ho9, -, hJ9, -⟩
          obtain ⟨a9, c9, rfl⟩ := Own.form ho9
          have hw1 : IntKind.i64.wrap ((k : Int) - 1) = (k : Int) - 1 := IntWalk.i64_in _ (by omega)
          have hJ9 := W_hid hJ9
          have ho9 := W_hid ho9
          go_wp2_with fail
          go_ret
          exact ⟨rfl, hb1.out.trans (bel_mono hJ9.out.bel hb1.out.size)⟩
set_option maxRecDepth 100000 in
theorem SchedReady_lifted (os : Os) (started : os.Started) (H : Type) (enc : TypeId × Value → H) :
    ReturnsInHanded {} Try.checked os 6 .any (Rows.schedReadySpec.pre6 enc Try.prog Try.f6 Rows.schedReadyRow.domain false) (Rows.schedReadySpec.post enc Try.prog Try.f6 false true false false) := by
  refine returnsInHanded_of_change (C := Try.checked) (by kernel_rfl) started (by kernel_rfl) Try.func6
    (ChangeSpec.witness6 (enc := enc) (C := Try.checked) false ⟨#[], #[.slice none 0 0, .int .i64 0], []⟩ 8 (by kernel_rfl) (by kernel_rfl) (by kernel_rfl) (by kernel_rfl)) ?_
  intro W base args ds gs before hval0 hW hcnd _
  have hval : ∀ (j : Nat) t v, Try.f6.params[j]? = some t → args[j]? = some v → Value.okWide Try.prog W .any base t v := hval0
  have hW' := hW
  obtain ⟨p, q, hA0, hV, rfl, hfz, hnd⟩ := hW
  have hA : DataW.TrodAll enc Try.prog W 0 (fun _ => true) true Try.f6.params.toList args.toList ds p := hA0
  rw [Try.params6] at hA hval
  obtain ⟨v0, vs0, d0, ds0, p0, q0, hargs, rfl, rfl, h0, r0⟩ := trodAll_cons hA
  obtain ⟨v1, vs1, d1, ds1, p1, q1, rfl, rfl, rfl, h1, r1⟩ := trodAll_cons r0
  obtain ⟨rfl, rfl, rfl⟩ := trodAll_nil r1
  obtain rfl : args = #[v0, v1] := by cases args; simp_all
  obtain ⟨rfl, rfl⟩ := trodVars_none hV
  have k0 := h0
  have lt0 : ∀ x ∈ p0, x.block < W.heap.size := by obtain ⟨m, hm⟩ := k0; exact DataW.trod_lt m _ _ _ hm
  obtain ⟨o0, n0, c0, l0, rfl, w0⟩ := open_ops15 (hval 0 22 v0 rfl rfl) h0
  obtain ⟨a1, rfl, rfl, rfl, w1⟩ := open_int Try.underlying3 (hval 1 3 v1 rfl rfl) h1
  clear hA0 hval0
  refine (SchedReady_walk o0 n0 c0 l0 a1 W w0 w1).mono fun e W' ⟨he, bel⟩ => ?_
  subst he
  exact ⟨_, rfl, _, _, _, [], _, [], hW', trodAll_mk1 (shut_bool Try.underlying4 _), (trodAll_cons_mk (Below.trod laidOut (by kernel_rfl) (of_decide_eq_true (by kernel_rfl)) k0 bel lt0) (trodAll_cons_mk (shut_int Try.underlying3 w1) trodAll_mk0)), rfl, bel.frame _, fun h => by cases h⟩

/-- The given statement of SchedReady. -/
theorem SchedReady_holds : Rows.SchedReadySaid :=
  OpenClaim.holds_of_wide 6 Try.f6 rfl rfl rfl rfl rfl rfl rfl ⟨rfl, rfl, rfl, rfl, rfl⟩ rfl rfl rfl rfl rfl (by kernel_rfl) Try.func6 (by kernel_rfl)
    (of_decide_eq_true (by kernel_rfl)) (by unfold Func.isWrapper; first | (rw [if_pos (by decide +kernel)]; kernel_rfl) | (rw [if_neg (by decide +kernel)]; exact ⟨rfl, rfl⟩))
    (fun os started H enc _ => SchedReady_lifted os started H enc)

end Go.Proofs.Ytondgjgfmngadaa

/- The law SchedLots of layer 15 (package haywardlaw15): for every input it returns true, and its arguments read as before. No further condition. -/
import Derived.Test.YtondgjgfmngadaaSchRan
import Derived.ChangeOld
import Derived.ShutString
namespace Go.Proofs.Ytondgjgfmngadaa
open Go.ChangeShapes Go.WideShapes Go.ChangeAt Go.RowKit
set_option linter.unusedVariables false
set_option linter.unusedSimpArgs false
set_option maxRecDepth 100000
open SD
open IN (Keeps lt_of_some)
namespace SD
open FM
theorem half_dk {b : Nat} (hb : b ≤ one) : half ≤ dk b one := by
  have h1 : prod one half = half := by kernel_rfl
  have h2 : prod b half < 9218868437227405312 := by have := half_le hb; have h3 : half < 9218868437227405312 := (by decide); omega
  unfold dk
  rw [h1, ad_N h2 (by decide)]
  have := N_mono (Nat.le_add_left (V half) (V (prod b half)))
  rwa [N_V (by decide)] at this
theorem ge_half {x : Nat} (h1 : half ≤ x) (h2 : x ≤ one) : (FloatKind.f64.format.order x 4602678819172646912 == some .gt || FloatKind.f64.format.order x 4602678819172646912 == some .eq) = true := by
  show (D.order x 4602678819172646912 == some .gt || D.order x 4602678819172646912 == some .eq) = true
  unfold half at h1
  unfold one at h2
  have hn : isNan x = false := decide_eq_false (by omega)
  rw [gt_key x _ (by omega) (by decide) hn (by decide), eq_key x _ (by omega) (by decide) hn (by decide)]
  rw [show key 4602678819172646912 = 4602678819172646912 by decide, show key x = (x : Int) by unfold key; rw [if_pos (by omega)]]
  simp only [Bool.or_eq_true, decide_eq_true_eq]
  omega
theorem ready_run (S : Qs) (q : Int) : ready ⟨runP S.P q, S.L⟩ = ready S := by
  unfold ready
  simp only [lsts_run]
/-- What a lot answers. -/
theorem lot_facts {c : Nat} {S : Qs} (h : Good c S) (b : Nat) : (lotR S b = ((0, 2), S)) ∨ (lotR S b = ((0, 25), S) ∧ (ready S).length = 0) ∨
    ∃ q S', lotR S b = ((q, 0), S') ∧ hasB (ready S) q = true ∧ ready S' = ready S ∧ (loadR S' q).2 = 0 ∧ half ≤ (loadR S' q).1 := by
  unfold lotR
  by_cases h1 : partOK b = false
  · rw [if_pos h1]; exact .inl rfl
  rw [if_neg h1]
  by_cases h2 : (rl S.P).length = 0
  · rw [if_pos h2]
    refine .inr (.inl ⟨rfl, ?_⟩)
    cases hr : ready S with
    | nil => rfl
    | cons p t =>
      obtain ⟨x, hx, hon⟩ := (ready_iff h (q := p)).1 (by rw [hr]; simp)
      have : 0 < (rl S.P).length := List.length_pos_of_mem (show x ∈ rl S.P from List.mem_filter.2 ⟨(get_some hx).1, hon⟩)
      omega
  rw [if_neg h2]
  right; right
  have hne : wl S.P ≠ [] := by intro e; exact h2 (by rw [← wl_len, e]; rfl)
  have hI : lotI S b < (rpid S.P).length := by have := pick_lt (b := prod b (sums (wl S.P))) hne; rw [wl_len, ← rpid_len] at this; exact this
  rw [List.getElem?_eq_getElem hI]
  simp only [Option.getD_some]
  obtain ⟨q, hq⟩ : ∃ q, (rpid S.P)[lotI S b] = q := ⟨_, rfl⟩
  rw [hq]
  have hmem : q ∈ rpid S.P := by rw [← hq]; exact List.getElem_mem hI
  unfold rpid rl at hmem
  obtain ⟨x, hx, hxq⟩ := List.mem_map.1 hmem
  obtain ⟨hx1, hon⟩ := List.mem_filter.1 hx
  have hg : get S.P q = some x := by rw [← hxq]; exact asc_get h.asc hx1
  have hl : loadR ⟨runP S.P q, S.L⟩ q = (dk x.load one, 0) := by
    unfold loadR
    rw [get_run, hg]
    simp [onP, hxq]
  exact ⟨q, _, rfl, hasB_iff.2 ((ready_iff h).2 ⟨x, hg, hon⟩), ready_run S q, by rw [hl], by rw [hl]; exact half_dk (h.load x hx1)⟩
end SD

set_option maxRecDepth 100000 in
set_option maxHeartbeats 8000000 in
theorem SchedLots_walk (o0 : Option Addr) (n0 c0 : Nat) (l0 : List OpT15) (a1 : Int) (w : World) (w0 : OS15 w o0 n0 c0 l0) (w1 : (Lit.int .u64 a1).wf = true) :
    Calls Try.prog 8 #[.slice o0 n0 c0, .int .u64 a1] w fun e w' => e = .returned (.bool true) ∧ Below w.heap.size w w' := by
  obtain ⟨b, rfl, hbl⟩ : ∃ x : Nat, a1 = x ∧ x < 18446744073709551616 := by
    have := bounds_u64 w1
    exact ⟨a1.toNat, by omega, by omega⟩
  have f1 := run_frombits b
  unfold fl at f1
  have cS := W_hid (shown15 w)
  clear w1
  go_enter Try.func8, Try.ntmps8
  go_wp2_with fail
  refine cS.out.mono ?_
  rintro e w1 ⟨rfl, b1⟩
  have cR := W_hid (ran15 o0 n0 c0 l0 w1 (os_keep w0 b1))
  have hb1 := W_hid b1
  clear cS w0 b1
  go_wp2_with fail
  refine cR.out.mono ?_
  rintro e w2 ⟨qb, rb, rfl, S, hJ2⟩
  have hG := W_hid hJ2.good
  have cA := W_hid (hJ2.rdy (by omega))
  clear cR hJ2
  go_wp2_with fail
  refine cA.out.mono ?_
  rintro e w3 ⟨v, rfl, ho3, -, hJ3, -⟩
  obtain ⟨av, cv, rfl⟩ := Own.form ho3
  obtain ⟨n, hn⟩ : ∃ n, (ready S).length = n := ⟨_, rfl⟩
  have hnb : n ≤ 100 := by rw [← hn, ready_len hG.out]; exact hG.out.llen
  have ho3 := W_hid ho3
  have cL := W_hid (J.callP (f := 21) (args := #[ptr qb, .float .f64 b]) (r := .returned (.tuple #[.int .i64 (lotR S b).1.1, .int .i64 (lotR S b).1.2])) (S' := (lotR S b).2) (c' := 100) (Nat.le_refl _) (fun h => good_lotR h b) (fun X hT hG => Lot_any hT hG (by omega) b hbl) hJ3)
  have hJ3 := W_hid hJ3
  have hlf := lot_facts hG.out b
  rw [hn] at cL hlf ⊢
  have hn := W_hid hn
  clear cA
  rcases hlf with hL | ⟨hL, hz⟩ | ⟨q, S', hL, hin, hrd, hl2, hl1⟩
  · rw [hL] at cL
    clear hL
    go_wp2_with fail
    refine cL.out.mono ?_
    rintro e w4 ⟨rfl, hJ4, hk4⟩
    have hJ4 := W_hid hJ4
    have hk4 := W_hid hk4
    go_wp2_with fail
    go_ret
    exact ⟨rfl, hb1.out.trans (bel_mono hJ4.out.bel hb1.out.size)⟩
  · rw [hL] at cL
    clear hL
    subst hz
    go_wp2_with fail
    refine cL.out.mono ?_
    rintro e w4 ⟨rfl, hJ4, hk4⟩
    have hJ4 := W_hid hJ4
    have hk4 := W_hid hk4
    go_wp2_with fail
    go_ret
    exact ⟨rfl, hb1.out.trans (bel_mono hJ4.out.bel hb1.out.size)⟩
  · rw [hL] at cL
    clear hL
    go_wp2_with fail
    refine cL.out.mono ?_
    rintro e w4 ⟨rfl, hJ4, hk4⟩
    have hG4 := hJ4.good
    have hle := loadR_le hG4 q
    have hge := ge_half hl1 hle
    have ho4 := own_move ho3.out fun j hj => hk4 j (.inr (by rw [hn.out] at hj; exact hj))
    obtain ⟨av', cv', hv', -, hat⟩ := list_at ho4
    rw [hn.out] at hv'
    simp only [Value.slice.injEq, true_and] at hv'
    obtain ⟨rfl, rfl⟩ := hv'
    have hat := W_hid hat
    have cLd := J.callP (f := 17) (args := #[ptr qb, .int .i64 q]) (r := .returned (.tuple #[.float .f64 (loadR S' q).1, .int .i64 (loadR S' q).2])) (S' := S') (c' := 100) (Nat.le_refl _) (fun h => h) (fun X hT hG => Load_any hT hG (by omega) q) hJ4
    rw [hl2] at cLd
    obtain ⟨f, hf⟩ : ∃ f, (loadR S' q).1 = f := ⟨_, rfl⟩
    rw [hf] at cLd hge
    have cLd := W_hid cLd
    have ho4 := W_hid ho4
    clear hJ4 hk4 hG4 hle hl1 hl2 hf
    go_wp2_with fail
    go_loopw [11, 12] (fun u i wr => ∃ k : Nat, k ≤ n ∧ i = .int .i64 (k : Int) ∧ u = .bool (hasB ((ready S).take k) q) ∧ w4 = wr) (fun _ i _ => n - (intOf i).toNat)
    case atStart => exact ⟨0, Nat.zero_le _, rfl, rfl, rfl⟩
    case round =>
      obtain ⟨k, hk, rfl, rfl, hwr⟩ := hrel
      subst hwr
      by_cases hlt : k < n
      · have hkl : k < (ready S).length := by rw [hn.out]; exact hlt
        obtain ⟨g, rfl, e0, q1, q2, -⟩ := hat.out k hkl
        rw [hn.out] at q1
        have hst := W_hid (hasB_step (p := q) hkl)
        obtain ⟨a, ha⟩ : ∃ a, (ready S)[k] = a := ⟨_, rfl⟩
        rw [ha] at e0 hst
        clear ha hkl hin
        cases hin : hasB ((ready S).take k) q with
        | true =>
          rw [hin] at hst
          have hst2 : Hid (hasB ((ready S).take (k + 1)) q = true) := W_hid (by rw [hst.out]; rfl)
          clear hin
          go_wp2_with fail
          go_roundw
          case rel => exact ⟨k + 1, by omega, by go_num, by rw [hst2.out], by first | trivial | rfl⟩
          case measure => simp [intOf]; omega
        | false =>
          rw [hin] at hst
          have hst2 : Hid (hasB ((ready S).take (k + 1)) q = (a == q)) := W_hid (by rw [hst.out]; rfl)
          clear hin
          go_wp2_with fail
          go_roundw
          case rel => exact ⟨k + 1, by omega, by go_num, by rw [hst2.out], by first | trivial | rfl⟩
          case measure => simp [intOf]; omega
      · obtain rfl : k = n := by omega
        clear hlt
        have htk : (ready S).take k = ready S := by rw [← hn.out, List.take_length]
        rw [htk, hin]
        clear htk hin
        go_wp2_with fail
        refine cLd.out.mono ?_
        rintro e w5 ⟨rfl, hJ5, hk5⟩
        have cA5 := hJ5.rdy (by omega)
        rw [hrd] at cA5
        have cA5 := W_hid cA5
        have ho5 := W_hid (own_move ho4.out fun j hj => hk5 j (.inr (by rw [hn.out] at hj; exact hj)))
        clear hJ5 hk5
        go_wp2_with fail
        refine cA5.out.mono ?_
        rintro e w6 ⟨v6, rfl, ho6, -, hJ6, hk6⟩
        have h6 := own_move ho5.out fun j hj => hk6 j (.inr (by rw [hn.out] at hj; exact hj))
        have hlr : (ready S).length ≤ 60000 := by rw [hn.out]; omega
        have cE := rSame_yes v6 _ _ _ (ready S) w6 hlr ho6 h6
        rw [hn.out] at cE
        have cE := W_hid cE
        have hJ6 := W_hid hJ6
        clear h6 ho6 hk6 hlr
        go_wp2_with fail
        refine cE.out.mono ?_
        rintro e w7 ⟨rfl, b7⟩
        have b7 := W_hid b7
        go_wp2_with fail
        go_ret
        exact ⟨rfl, hb1.out.trans (bel_mono (hJ6.out.keep b7.out).1.bel hb1.out.size)⟩
set_option maxRecDepth 100000 in
theorem SchedLots_lifted (os : Os) (started : os.Started) (H : Type) (enc : TypeId × Value → H) :
    ReturnsInHanded {} Try.checked os 8 .any (Rows.schedLotsSpec.pre6 enc Try.prog Try.f8 Rows.schedLotsRow.domain false) (Rows.schedLotsSpec.post enc Try.prog Try.f8 false true false false) := by
  refine returnsInHanded_of_change (C := Try.checked) (by kernel_rfl) started (by kernel_rfl) Try.func8
    (ChangeSpec.witness6 (enc := enc) (C := Try.checked) false ⟨#[], #[.slice none 0 0, .int .u64 0], []⟩ 8 (by kernel_rfl) (by kernel_rfl) (by kernel_rfl) (by kernel_rfl)) ?_
  intro W base args ds gs before hval0 hW hcnd _
  have hval : ∀ (j : Nat) t v, Try.f8.params[j]? = some t → args[j]? = some v → Value.okWide Try.prog W .any base t v := hval0
  have hW' := hW
  obtain ⟨p, q, hA0, hV, rfl, hfz, hnd⟩ := hW
  have hA : DataW.TrodAll enc Try.prog W 0 (fun _ => true) true Try.f8.params.toList args.toList ds p := hA0
  rw [Try.params8] at hA hval
  obtain ⟨v0, vs0, d0, ds0, p0, q0, hargs, rfl, rfl, h0, r0⟩ := trodAll_cons hA
  obtain ⟨v1, vs1, d1, ds1, p1, q1, rfl, rfl, rfl, h1, r1⟩ := trodAll_cons r0
  obtain ⟨rfl, rfl, rfl⟩ := trodAll_nil r1
  obtain rfl : args = #[v0, v1] := by cases args; simp_all
  obtain ⟨rfl, rfl⟩ := trodVars_none hV
  have k0 := h0
  have lt0 : ∀ x ∈ p0, x.block < W.heap.size := by obtain ⟨m, hm⟩ := k0; exact DataW.trod_lt m _ _ _ hm
  obtain ⟨o0, n0, c0, l0, rfl, w0⟩ := open_ops15 (hval 0 22 v0 rfl rfl) h0
  obtain ⟨a1, rfl, rfl, rfl, w1⟩ := open_int Try.underlying32 (hval 1 32 v1 rfl rfl) h1
  clear hA0 hval0
  refine (SchedLots_walk o0 n0 c0 l0 a1 W w0 w1).mono fun e W' ⟨he, bel⟩ => ?_
  subst he
  exact ⟨_, rfl, _, _, _, [], _, [], hW', trodAll_mk1 (shut_bool Try.underlying4 _), (trodAll_cons_mk (Below.trod laidOut (by kernel_rfl) (of_decide_eq_true (by kernel_rfl)) k0 bel lt0) (trodAll_cons_mk (shut_int Try.underlying32 w1) trodAll_mk0)), rfl, bel.frame _, fun h => by cases h⟩

/-- The given statement of SchedLots. -/
theorem SchedLots_holds : Rows.SchedLotsSaid :=
  OpenClaim.holds_of_wide 8 Try.f8 rfl rfl rfl rfl rfl rfl rfl ⟨rfl, rfl, rfl, rfl, rfl⟩ rfl rfl rfl rfl rfl (by kernel_rfl) Try.func8 (by kernel_rfl)
    (of_decide_eq_true (by kernel_rfl)) (by unfold Func.isWrapper; first | (rw [if_pos (by decide +kernel)]; kernel_rfl) | (rw [if_neg (by decide +kernel)]; exact ⟨rfl, rfl⟩))
    (fun os started H enc _ => SchedLots_lifted os started H enc)

end Go.Proofs.Ytondgjgfmngadaa

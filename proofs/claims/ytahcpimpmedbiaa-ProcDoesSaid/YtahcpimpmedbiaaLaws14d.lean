/- The law ProcDoes of layer 14 (package haywardlaw14): for every input it returns true, and its arguments read as before. No further condition. -/
import Derived.Test.YtahcpimpmedbiaaLaws14b
import Derived.Test.YtahcpimpmedbiaaRefPrc5
import Derived.ChangeOld
import Derived.ShutString
namespace Go.Proofs.Ytahcpimpmedbiaa
open Go.ChangeShapes Go.WideShapes Go.ChangeAt Go.RowKit Go.Maps
set_option linter.unusedVariables false
set_option linter.unusedSimpArgs false
set_option maxRecDepth 100000
open PC
open IS (I64)
open IN (Keeps lt_of_some)

set_option maxRecDepth 100000 in
set_option maxHeartbeats 16000000 in
theorem ProcDoes_walk (a0 : Int) (o1 : Option Addr) (n1 c1 : Nat) (l1 : List OpT14) (w : World) (w0 : (Lit.int .i64 a0).wf = true) (w1 : OS14 w o1 n1 c1 l1) :
    Calls Try.prog 3 #[.int .i64 a0, .slice o1 n1 c1] w fun e w' => e = .returned (.bool true) ∧ Below w.heap.size w w' := by
  obtain ⟨hlen, hll, hops⟩ := w1
  have hlen2 : (n1 : Int) ≤ 9223372036854775807 := by unfold maxLen at hlen; omega
  have cS := W_hid (shown14 w)
  replace hops := W_hid hops
  replace hll := W_hid hll
  clear hlen w0
  by_cases hN : 1 ≤ a0 ∧ a0 ≤ 1024
  · obtain ⟨N, rfl⟩ : ∃ N : Nat, a0 = N := ⟨a0.toNat, by omega⟩
    have hN1 : 1 ≤ N := by omega
    have hN2 : N ≤ 1024 := by omega
    go_enter Try.func3, Try.ntmps3
    go_wp2_with fail
    refine cS.out.mono ?_
    rintro e w1 ⟨rfl, b1⟩
    have cN := W_hid (P1.new N hN1 hN2 w.heap.size w w1 b1 b1.size)
    clear cS b1
    go_wp2_with fail
    refine cN.out.mono ?_
    rintro e w2 ⟨tb, rfl, h2⟩
    have cD := W_hid (rpNew_yes N hN1 hN2 w2)
    replace h2 := W_hid h2
    clear cN
    go_wp2_with fail
    refine cD.out.mono ?_
    rintro e w3 ⟨rb, Y, rfl, hD, hbD, hY⟩
    have hJ := W_hid (J.make h2.out hD hbD hY (good_new N hN1 hN2))
    clear cD hD hbD hY h2
    go_wp2_with fail
    go_loopw [10, 11] (fun v u wr => ∃ (j : Nat) (L : List Pr), j ≤ n1 ∧ j ≤ 300 ∧ v = .int .i64 (j : Int) ∧ Hid (J w.heap.size w tb rb N L L (fun _ => False) wr)) (fun v _ _ => n1 - (intOf v).toNat)
    case atStart => exact ⟨0, _, by omega, by omega, rfl, hJ⟩
    case round =>
      clear hJ
      obtain ⟨j, L, hj, hj2, rfl, hJ⟩ := hrel
      have hb := W_hid hJ.out.toP.bel
      by_cases hlt : j < n1 ∧ j < 300
      · obtain ⟨hl1, hl2⟩ := hlt
        obtain ⟨blk, off, rfl, hblk, hc0, hc1, hc2, z1, z2, z3, z4, z5, z6⟩ := hops.out j (by rw [hll.out]; exact hl1)
        obtain ⟨⟨kd, a, c⟩, hx⟩ : ∃ x, l1[j]'(by rw [hll.out]; exact hl1) = x := ⟨_, rfl⟩
        rw [hx] at hc0 hc1 hc2 z1 z2 z3 z4 z5 z6
        simp only at hc0 hc1 hc2 z1 z2 z3 z4 z5 z6
        have kk : ∀ {a : Nat} {u : Value}, w.cell? ⟨blk, a, none⟩ = some u → wr.cell? ⟨blk, a, none⟩ = some u := fun {a u} hc => by rw [hb.out.cell (p := ⟨blk, a, none⟩) hblk]; exact hc
        have k0 := kk hc0
        have k1 := kk hc1
        have k2 := kk hc2
        have cD := W_hid (does14 w.heap.size w tb rb N L kd a c wr hJ.out ⟨z3, z4⟩)
        clear kk hc0 hc1 hc2 hx
        go_wp2_with fail
        refine cD.out.mono ?_
        rintro e w6 ⟨rfl, L', hJ6⟩
        have hJ6' := W_hid hJ6
        obtain ⟨X, Y, hT, ⟨v, hM, hYv⟩, -, -, hG, -, -⟩ := hJ6
        have hlen6 : L'.length ≤ 1024 := by have := hG.len; have := hG.top; omega
        have cA := W_hid (All_any (hT.keep (pdrew_keep 1)) hG)
        have d1 := hM.box.cell (j := 1) rfl
        obtain ⟨av, cv, rfl⟩ := Own.form hM.row
        have hrow6 := W_hid hM.row
        clear cD k0 k1 k2 hT hM hYv hG
        go_wp2_with fail
        refine wp_region_held_drew (S := (fun w' => w'.cell? ⟨rb, 1, none⟩ = some (.slice av L'.length cv))) (by kernel_rfl) d1 (fun hHeld => ?_)
        refine wpAnyH_take (i := 0) (v := .bool true) rfl (by kernel_rfl) (by kernel_rfl) (by kernel_rfl) (fun _ _ _ h => h) (Or.inl ⟨by rfl, fun w0 s1 => ?_⟩) hHeld ?_
        · go_simp
        try simp only [Act.put, List.setIfInBounds_toArray, List.set_cons_zero, List.set_cons_succ, List.getElem_toArray, List.getElem_cons_zero, List.getElem_cons_succ]
        refine wpAnyH_take (i := 1) (v := .bool false) rfl (by kernel_rfl) (by kernel_rfl) (by kernel_rfl) (fun _ _ _ h => h) (Or.inl ⟨by rfl, fun w0 s1 => ?_⟩) hHeld ?_
        · go_simp
        try simp only [Act.put, List.setIfInBounds_toArray, List.set_cons_zero, List.set_cons_succ, List.getElem_toArray, List.getElem_cons_zero, List.getElem_cons_succ]
        refine wpAnyH_take (i := 2) (v := .bool false) rfl (by kernel_rfl) (by kernel_rfl) (by kernel_rfl) (fun _ _ _ h => h) (Or.inl ⟨by rfl, fun w0 s1 => ?_⟩) hHeld ?_
        · go_simp
        try simp only [Act.put, List.setIfInBounds_toArray, List.set_cons_zero, List.set_cons_succ, List.getElem_toArray, List.getElem_cons_zero, List.getElem_cons_succ]
        refine wpAnyH_take (i := 3) (v := .pointer (some ⟨tb, 0, none⟩)) rfl (by kernel_rfl) (by kernel_rfl) (by kernel_rfl) (fun _ _ _ h => h) (Or.inl ⟨by rfl, fun w0 s1 => ?_⟩) hHeld ?_
        · go_simp
        try simp only [Act.put, List.setIfInBounds_toArray, List.set_cons_zero, List.set_cons_succ, List.getElem_toArray, List.getElem_cons_zero, List.getElem_cons_succ]
        refine wpAnyH_take (i := 5) (v := .pointer (some ⟨rb, 0, none⟩)) rfl (by kernel_rfl) (by kernel_rfl) (by kernel_rfl) (fun _ _ _ h => h) (Or.inl ⟨by rfl, fun w0 s1 => ?_⟩) hHeld ?_
        · go_simp
        try simp only [Act.put, List.setIfInBounds_toArray, List.set_cons_zero, List.set_cons_succ, List.getElem_toArray, List.getElem_cons_zero, List.getElem_cons_succ]
        refine wpAnyH_take (i := 6) (v := .pointer (some ⟨rb, 0, none⟩)) rfl (by kernel_rfl) (by kernel_rfl) (by kernel_rfl) (fun _ _ _ h => h) (Or.inl ⟨by rfl, fun w0 s1 => ?_⟩) hHeld ?_
        · go_simp
        try simp only [Act.put, List.setIfInBounds_toArray, List.set_cons_zero, List.set_cons_succ, List.getElem_toArray, List.getElem_cons_zero, List.getElem_cons_succ]
        refine wpAnyH_take (i := 7) (v := .pointer (some ⟨rb, 1, none⟩)) rfl (by kernel_rfl) (by kernel_rfl) (by kernel_rfl) (fun _ _ _ h => h) (Or.inl ⟨by rfl, fun w0 s1 => ?_⟩) hHeld ?_
        · go_simp
        try simp only [Act.put, List.setIfInBounds_toArray, List.set_cons_zero, List.set_cons_succ, List.getElem_toArray, List.getElem_cons_zero, List.getElem_cons_succ]
        refine wpAnyH_take (i := 8) (v := .slice av L'.length cv) rfl (by kernel_rfl) (by kernel_rfl) (by kernel_rfl) (fun _ _ _ h => h) (Or.inl ⟨by rfl, fun w0 s1 => ?_⟩) hHeld ?_
        · go_simp
        try simp only [Act.put, List.setIfInBounds_toArray, List.set_cons_zero, List.set_cons_succ, List.getElem_toArray, List.getElem_cons_zero, List.getElem_cons_succ]
        refine wpAnyH_ready (rs := [4]) (by kernel_rfl) (by simp) ?_
        refine AllReadyH.cons rfl (fun K hK => ?_) AllReadyH.nil
        go_simp
        refine cA.out.mono ?_
        rintro e w7 ⟨v7, rfl, ho7, b7⟩
        have b67 : Below w6.heap.size w6 w7 := (pdrew_keep 1).trans b7
        have d7 := pcellkept b67 d1
        have cE := W_hid (pSame_yes v7 (.slice av L'.length cv) _ _ L' w7 hlen6 ho7 (Own.below hrow6.out b67))
        obtain ⟨a7, c7, rfl⟩ := Own.form ho7
        replace b67 := W_hid b67
        clear ho7 b7
        refine hK.out _ _ d7 (fun hHeld1 => ?_)
        clear hK K
        try simp only [Act.put, List.setIfInBounds_toArray, List.set_cons_zero, List.set_cons_succ, List.getElem_toArray, List.getElem_cons_zero, List.getElem_cons_succ]
        refine wpAnyH_ready (rs := [9]) (by kernel_rfl) (by simp) ?_
        refine AllReadyH.cons rfl (fun K hK => ?_) AllReadyH.nil
        go_simp
        refine cE.out.mono ?_
        rintro e w8 ⟨rfl, b8⟩
        have b68 : Below w6.heap.size w6 w8 := b67.out.trans (bel_mono b8 b67.out.size)
        have d8 := pcellkept b68 d1
        have hJ8 := W_hid (hJ6'.out.keep b68).1
        clear b8 b68
        refine hK.out _ _ d8 (fun hHeld2 => ?_)
        clear hK K
        try simp only [Act.put, List.setIfInBounds_toArray, List.set_cons_zero, List.set_cons_succ, List.getElem_toArray, List.getElem_cons_zero, List.getElem_cons_succ]
        refine wpAnyH_take (i := 10) (v := .bool false) rfl (by kernel_rfl) (by kernel_rfl) (by kernel_rfl) (fun _ _ _ h => h) (Or.inl ⟨by rfl, fun w0 s1 => ?_⟩) hHeld2 ?_
        · go_simp
        try simp only [Act.put, List.setIfInBounds_toArray, List.set_cons_zero, List.set_cons_succ, List.getElem_toArray, List.getElem_cons_zero, List.getElem_cons_succ]
        refine wpAnyH_take (i := 11) (v := .bool false) rfl (by kernel_rfl) (by kernel_rfl) (by kernel_rfl) (fun _ _ _ h => h) (Or.inl ⟨by rfl, fun w0 s1 => ?_⟩) hHeld2 ?_
        · go_simp
        try simp only [Act.put, List.setIfInBounds_toArray, List.set_cons_zero, List.set_cons_succ, List.getElem_toArray, List.getElem_cons_zero, List.getElem_cons_succ]
        refine wpAnyH_done (by kernel_rfl) ?_ _
        go_wp2_with fail
        go_roundw
        case rel => exact ⟨j + 1, L', by omega, by omega, by go_num, W_hid hJ8.out⟩
        case measure => simp [intOf]; omega
      · have hex : (¬ j < n1) ∨ (j < n1 ∧ ¬ j < 300) := by omega
        clear hJ
        rcases hex with h1 | ⟨h1, h2⟩ <;>
        · go_wp2_with fail
          go_ret
          exact ⟨rfl, hb.out⟩
  · have hN' : a0 < 1 ∨ 1024 < a0 := by omega
    have c1 := W_hid (fun w => New_no a0 hN' w)
    have c2 := W_hid (fun w => rpNew_no a0 hN' w)
    clear hN hN'
    go_enter Try.func3, Try.ntmps3
    go_wp2_with fail
    refine cS.out.mono ?_
    rintro e w1 ⟨rfl, b1⟩
    replace b1 := W_hid b1
    go_wp2_with fail
    refine (c1.out _).mono ?_
    rintro e w2 ⟨rfl, rfl⟩
    go_wp2_with fail
    refine (c2.out _).mono ?_
    rintro e w3 ⟨rfl, rfl⟩
    go_wp2_with fail
    go_ret
    exact ⟨rfl, b1.out⟩
set_option maxRecDepth 100000 in
theorem ProcDoes_lifted (os : Os) (started : os.Started) (H : Type) (enc : TypeId × Value → H) :
    ReturnsInHanded {} Try.checked os 3 .any (Rows.procDoesSpec.pre6 enc Try.prog Try.f3 Rows.procDoesRow.domain false) (Rows.procDoesSpec.post enc Try.prog Try.f3 false true false false) := by
  refine returnsInHanded_of_change (C := Try.checked) (by kernel_rfl) started (by kernel_rfl) Try.func3
    (ChangeSpec.witness6 (enc := enc) (C := Try.checked) false ⟨#[], #[.int .i64 0, .slice none 0 0], []⟩ 8 (by kernel_rfl) (by kernel_rfl) (by kernel_rfl) (by kernel_rfl)) ?_
  intro W base args ds gs before hval0 hW hcnd _
  have hval : ∀ (j : Nat) t v, Try.f3.params[j]? = some t → args[j]? = some v → Value.okWide Try.prog W .any base t v := hval0
  have hW' := hW
  obtain ⟨p, q, hA0, hV, rfl, hfz, hnd⟩ := hW
  have hA : DataW.TrodAll enc Try.prog W 0 (fun _ => true) true Try.f3.params.toList args.toList ds p := hA0
  rw [Try.params3] at hA hval
  obtain ⟨v0, vs0, d0, ds0, p0, q0, hargs, rfl, rfl, h0, r0⟩ := trodAll_cons hA
  obtain ⟨v1, vs1, d1, ds1, p1, q1, rfl, rfl, rfl, h1, r1⟩ := trodAll_cons r0
  obtain ⟨rfl, rfl, rfl⟩ := trodAll_nil r1
  obtain rfl : args = #[v0, v1] := by cases args; simp_all
  obtain ⟨rfl, rfl⟩ := trodVars_none hV
  obtain ⟨a0, rfl, rfl, rfl, w0⟩ := open_int Try.underlying3 (hval 0 3 v0 rfl rfl) h0
  have k1 := h1
  have lt1 : ∀ x ∈ p1, x.block < W.heap.size := by obtain ⟨m, hm⟩ := k1; exact DataW.trod_lt m _ _ _ hm
  obtain ⟨o1, n1, c1, l1, rfl, w1⟩ := open_ops14 (hval 1 22 v1 rfl rfl) h1
  clear hA0 hval0
  refine (ProcDoes_walk a0 o1 n1 c1 l1 W w0 w1).mono fun e W' ⟨he, bel⟩ => ?_
  subst he
  exact ⟨_, rfl, _, _, _, [], _, [], hW', trodAll_mk1 (shut_bool Try.underlying4 _), (trodAll_cons_mk (shut_int Try.underlying3 w0) (trodAll_cons_mk (Below.trod laidOut (by kernel_rfl) (of_decide_eq_true (by kernel_rfl)) k1 bel lt1) trodAll_mk0)), rfl, bel.frame _, fun h => by cases h⟩

/-- The given statement of ProcDoes. -/
theorem ProcDoes_holds : Rows.ProcDoesSaid :=
  OpenClaim.holds_of_wide 3 Try.f3 rfl rfl rfl rfl rfl rfl rfl ⟨rfl, rfl, rfl, rfl, rfl⟩ rfl rfl rfl rfl rfl (by kernel_rfl) Try.func3 (by kernel_rfl)
    (of_decide_eq_true (by kernel_rfl)) (by unfold Func.isWrapper; first | (rw [if_pos (by decide +kernel)]; kernel_rfl) | (rw [if_neg (by decide +kernel)]; exact ⟨rfl, rfl⟩))
    (fun os started H enc _ => ProcDoes_lifted os started H enc)


end Go.Proofs.Ytahcpimpmedbiaa

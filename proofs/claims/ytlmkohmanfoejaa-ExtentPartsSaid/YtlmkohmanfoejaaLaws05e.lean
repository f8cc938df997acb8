/- ExtentParts (package haywardlaw05): for every input it returns true, and its arguments read as before. No further condition. -/
import Derived.Test.YtlmkohmanfoejaaLaws05d
namespace Go.Proofs.Ytlmkohmanfoejaa
open Go.ChangeShapes Go.WideShapes Go.ChangeAt Go.RowKit
open Go.ChangeMaps (open_string shut_string)
set_option linter.unusedVariables false
set_option linter.unusedSimpArgs false

theorem strOf_append (a b : List UInt8) : strOf (a ++ b) = strOf a ++ strOf b := by
  apply EM.ba_inj
  rw [EM.app_list, strOf_list, strOf_list, strOf_list]
/-- Read, of a list that is not valid. -/
theorem Read_bad (ao : Option Addr) (n cap : Nat) (l : List (Int × ByteArray)) (f m : Int) (w : World) (h : XS w ao n cap l) (hx : XFit l) (hv : EM.ok 0 l = false) (hf : I64 f) (hm : I64 m) :
    Calls Try.prog 10 #[.slice ao n cap, .int .i64 1048576, .int .i64 f, .int .i64 m] w fun e w' => e = .returned (.tuple #[.string (strOf []), .int .i64 2]) ∧ Below w.heap.size w w' := by
  have := Read_any ao n cap l 1048576 f m w h hx (by unfold I64; decide) hf hm
  rw [(rd_no (by rw [hv]; simp)).1, (rd_no (by rw [hv]; simp)).2] at this
  exact this

set_option maxHeartbeats 2000000 in
theorem ExtentParts_out (o0 : Option Addr) (n0 c0 : Nat) (l0 : List (Int × ByteArray)) (a1 a2 a3 : Int) (w : World) (hout : a1 < 0 ∨ a2 < 0 ∨ a3 < 0 ∨ 1000 < a1 ∨ 1000 < a2 ∨ 1000 < a3) :
    Calls Try.prog 8 #[.slice o0 n0 c0, .int .i64 a1, .int .i64 a2, .int .i64 a3] w fun e w' => e = .returned (.bool true) ∧ Below w.heap.size w w' := by
  by_cases h1 : a1 < 0
  · clear hout
    go_enter Try.func8, Try.ntmps8
    go_wp2_with fail
    refine (shown_any _).mono ?_
    rintro e w1 ⟨rfl, bel1⟩
    go_wp2
    go_ret
    exact ⟨rfl, bel1⟩
  by_cases h2 : a2 < 0
  · clear hout
    go_enter Try.func8, Try.ntmps8
    go_wp2_with fail
    refine (shown_any _).mono ?_
    rintro e w1 ⟨rfl, bel1⟩
    go_wp2
    go_ret
    exact ⟨rfl, bel1⟩
  by_cases h3 : a3 < 0
  · clear hout
    go_enter Try.func8, Try.ntmps8
    go_wp2_with fail
    refine (shown_any _).mono ?_
    rintro e w1 ⟨rfl, bel1⟩
    go_wp2
    go_ret
    exact ⟨rfl, bel1⟩
  by_cases h4 : 1000 < a1
  · clear hout
    go_enter Try.func8, Try.ntmps8
    go_wp2_with fail
    refine (shown_any _).mono ?_
    rintro e w1 ⟨rfl, bel1⟩
    go_wp2
    go_ret
    exact ⟨rfl, bel1⟩
  by_cases h5 : 1000 < a2
  · clear hout
    go_enter Try.func8, Try.ntmps8
    go_wp2_with fail
    refine (shown_any _).mono ?_
    rintro e w1 ⟨rfl, bel1⟩
    go_wp2
    go_ret
    exact ⟨rfl, bel1⟩
  · have h6 : 1000 < a3 := by omega
    clear hout
    go_enter Try.func8, Try.ntmps8
    go_wp2_with fail
    refine (shown_any _).mono ?_
    rintro e w1 ⟨rfl, bel1⟩
    go_wp2
    go_ret
    exact ⟨rfl, bel1⟩

set_option maxHeartbeats 4000000 in
theorem ExtentParts_in (o0 : Option Addr) (n0 c0 : Nat) (l0 : List (Int × ByteArray)) (a1 a2 a3 : Int) (w : World) (w0 : XS w o0 n0 c0 l0) (s0 : XFit l0) (h1 : 0 ≤ a1) (h2 : 0 ≤ a2) (h3 : 0 ≤ a3) (h4 : a1 ≤ 1000) (h5 : a2 ≤ 1000) (h6 : a3 ≤ 1000) :
    Calls Try.prog 8 #[.slice o0 n0 c0, .int .i64 a1, .int .i64 a2, .int .i64 a3] w fun e w' => e = .returned (.bool true) ∧ Below w.heap.size w w' := by
  have H := W_hid w0
  have d1 : decide (a1 < 0) = false := by simp; omega
  have d2 : decide (a2 < 0) = false := by simp; omega
  have d3 : decide (a3 < 0) = false := by simp; omega
  have d4 : decide (1000 < a1) = false := by simp; omega
  have d5 : decide (1000 < a2) = false := by simp; omega
  have d6 : decide (1000 < a3) = false := by simp; omega
  cases hv : EM.ok 0 l0 with
  | false =>
    have q1 := W_hid (fun w h => Read_bad o0 n0 c0 l0 a1 a2 w h s0 hv (by unfold I64; omega) (by unfold I64; omega))
    have q2 := W_hid (fun w h => Read_bad o0 n0 c0 l0 (a1 + a2) a3 w h s0 hv (by unfold I64; omega) (by unfold I64; omega))
    have q3 := W_hid (fun w h => Read_bad o0 n0 c0 l0 a1 (a2 + a3) w h s0 hv (by unfold I64; omega) (by unfold I64; omega))
    generalize strOf [] = T at q1 q2 q3
    clear hv w0
    go_enter Try.func8, Try.ntmps8
    go_wp2_with fail
    refine (shown_any _).mono ?_
    rintro e w1 ⟨rfl, bel1⟩
    go_wp2_with fail
    refine (q1.out _ (H.out.below bel1 (Nat.le_refl _))).mono ?_
    rintro e w2 ⟨rfl, bel2⟩
    replace bel2 := below_tr bel1 bel2
    go_wp2_with fail
    refine (q2.out _ (H.out.below bel2 (Nat.le_refl _))).mono ?_
    rintro e w3 ⟨rfl, bel3⟩
    replace bel3 := below_tr bel2 bel3
    go_wp2_with fail
    refine (q3.out _ (H.out.below bel3 (Nat.le_refl _))).mono ?_
    rintro e w4 ⟨rfl, bel4⟩
    go_wp2
    go_ret
    exact ⟨rfl, below_tr bel3 bel4⟩
  | true =>
    obtain ⟨N, hN⟩ : ∃ N : Nat, a2.toNat = N := ⟨_, rfl⟩
    obtain ⟨M, hM⟩ : ∃ M : Nat, a3.toNat = M := ⟨_, rfl⟩
    obtain ⟨A, hA⟩ : ∃ A, EM.rd l0 a1 N = A := ⟨_, rfl⟩
    obtain ⟨B, hB⟩ : ∃ B, EM.rd l0 (a1 + a2) M = B := ⟨_, rfl⟩
    have hAl : A.length = N := by rw [← hA, EM.rd_length]
    have hBl : B.length = M := by rw [← hB, EM.rd_length]
    have hC : EM.rd l0 a1 (N + M) = A ++ B := by
      rw [EM.rd_two, hA, show a1 + (N : Int) = a1 + a2 by omega, hB]
    have q1 := W_hid (fun w h => Read_max o0 n0 c0 l0 a1 a2 N A w h hv (by omega) (by omega) (by omega) (by omega) (by omega) hA)
    have q2 := W_hid (fun w h => Read_max o0 n0 c0 l0 (a1 + a2) a3 M B w h hv (by omega) (by omega) (by omega) (by omega) (by omega) hB)
    have q3 := W_hid (fun w h => Read_max o0 n0 c0 l0 a1 (a2 + a3) (N + M) (A ++ B) w h hv (by omega) (by omega) (by omega) (by omega) (by omega) hC)
    rw [strOf_append] at q3
    have hcv : EM.ok 0 (EM.part 0 a1 l0) = true := EM.ok_part hv 0 a1 (Int.le_refl _)
    have q4 : Hid (∀ w, XS w o0 n0 c0 l0 → Calls Try.prog 15 #[.slice o0 n0 c0, .int .i64 a1] w (Gave (EM.part 0 a1 l0) 0 w)) := by
      intro w h
      have := Cut_any o0 n0 c0 l0 a1 w h s0 (by unfold I64; omega)
      have e1 : ctL l0 a1 = EM.part 0 a1 l0 := if_pos ⟨hv, h1⟩
      have e2 : ctE l0 a1 = 0 := if_pos ⟨hv, h1⟩
      rwa [e1, e2] at this
    obtain ⟨L, hL⟩ : ∃ L, EM.part 0 a1 l0 = L := ⟨_, rfl⟩
    have hz : EM.rd L a1 N = List.replicate N 0 := by rw [← hL]; exact EM.rd_cut _ _ _
    rw [hL] at q4 hcv
    have q5 := W_hid (fun w ao n c h => Read_max ao n c L a1 a2 N _ w h hcv (by omega) (by omega) (by omega) (by omega) (by omega) hz)
    obtain ⟨S, hS⟩ : ∃ S, strOf A = S := ⟨_, rfl⟩
    obtain ⟨T, hT⟩ : ∃ T, strOf B = T := ⟨_, rfl⟩
    obtain ⟨Z, hZ⟩ : ∃ Z, strOf (List.replicate N 0) = Z := ⟨_, rfl⟩
    rw [hS] at q1 q3
    rw [hT] at q2 q3
    rw [hZ] at q5
    have hSs : S.size = N := by rw [← hS, strOf_size, hAl]
    have hTs : T.size = M := by rw [← hT, strOf_size, hBl]
    have hZs : Z.size = N := by rw [← hZ, strOf_size, List.length_replicate]
    have hN2 : N ≤ 1000 := by omega
    have hM2 : M ≤ 1000 := by omega
    have hZb : Hid (∀ k (h : k < Z.size), ((Z[k].toNat : Int) != 0) = false) := by
      intro k h
      have e : Z[k] = Z.data.toList[k]'(by rw [EM.list_size]; exact h) := rfl
      have : Z.data.toList[k]'(by rw [EM.list_size]; exact h) = 0 := by
        have hl : Z.data.toList = List.replicate N 0 := by rw [← hZ, strOf_list]
        have hm : Z.data.toList[k]'(by rw [EM.list_size]; exact h) ∈ List.replicate N (0 : UInt8) := by rw [← hl]; exact List.getElem_mem _
        exact (List.mem_replicate.1 hm).2
      rw [e, this]; rfl
    clear hv w0 hA hB hC hL hz hcv hS hT hZ hAl hBl hN hM
    go_enter Try.func8, Try.ntmps8
    go_wp2_with fail
    refine (shown_any _).mono ?_
    rintro e w1 ⟨rfl, bel1⟩
    go_wp2_with fail
    refine (q1.out _ (H.out.below bel1 (Nat.le_refl _))).mono ?_
    rintro e w2 ⟨rfl, bel2⟩
    replace bel2 := below_tr bel1 bel2
    go_wp2_with fail
    refine (q2.out _ (H.out.below bel2 (Nat.le_refl _))).mono ?_
    rintro e w3 ⟨rfl, bel3⟩
    replace bel3 := below_tr bel2 bel3
    go_wp2_with fail
    refine (q3.out _ (H.out.below bel3 (Nat.le_refl _))).mono ?_
    rintro e w4 ⟨rfl, bel4⟩
    replace bel4 := below_tr bel3 bel4
    go_wp2_with fail
    refine (q4.out _ (H.out.below bel4 (Nat.le_refl _))).mono ?_
    intro e w5 hg5
    obtain ⟨x5, c5, rfl, hown5, bel5⟩ := gave_form hg5
    have s5 := XS_own hown5
    replace bel5 := below_tr bel4 bel5
    clear hown5 hg5
    go_wp2_with fail
    refine (q5.out _ _ _ _ s5).mono ?_
    rintro e w6 ⟨rfl, bel6⟩
    replace bel6 := below_tr bel5 bel6
    clear d1 d2 d3 d4 d5 d6
    go_wp2_with fail
    go_loop [21] (fun i => ∃ k : Nat, k ≤ N ∧ i = .int .i64 k) (fun i => N - (intOf i).toNat)
    case atStart => exact ⟨0, Nat.zero_le _, rfl⟩
    case round =>
      obtain ⟨k, hk, rfl⟩ := hrel
      by_cases hlt : k < Z.size
      · have hb := hZb.out k hlt
        go_wp2_with fail
        go_round
        case rel => exact ⟨k + 1, by omega, by go_num⟩
        case measure => simp [intOf]; omega
      · obtain rfl : k = N := by omega
        go_wp2
        go_ret
        exact ⟨rfl, bel6⟩

theorem ExtentParts_walk (o0 : Option Addr) (n0 c0 : Nat) (l0 : List (Int × ByteArray)) (a1 a2 a3 : Int) (w : World) (w0 : XS w o0 n0 c0 l0) (s0 : XFit l0) (w1 : (Lit.int .i64 a1).wf = true) (w2 : (Lit.int .i64 a2).wf = true) (w3 : (Lit.int .i64 a3).wf = true) :
    Calls Try.prog 8 #[.slice o0 n0 c0, .int .i64 a1, .int .i64 a2, .int .i64 a3] w fun e w' => e = .returned (.bool true) ∧ Below w.heap.size w w' := by
  by_cases h : a1 < 0 ∨ a2 < 0 ∨ a3 < 0 ∨ 1000 < a1 ∨ 1000 < a2 ∨ 1000 < a3
  · exact ExtentParts_out o0 n0 c0 l0 a1 a2 a3 w h
  · exact ExtentParts_in o0 n0 c0 l0 a1 a2 a3 w w0 s0 (by omega) (by omega) (by omega) (by omega) (by omega) (by omega)

set_option maxRecDepth 100000 in
theorem ExtentParts_lifted (os : Os) (started : os.Started) (H : Type) (enc : TypeId × Value → H) :
    ReturnsInHanded {} Try.checked os 8 .any (Rows.extentPartsSpec.pre6 enc Try.prog Try.f8 Rows.extentPartsRow.domain false) (Rows.extentPartsSpec.post enc Try.prog Try.f8 false true false false) := by
  refine returnsInHanded_of_change (C := Try.checked) (by kernel_rfl) started (by kernel_rfl) Try.func8
    (ChangeSpec.witness6 (enc := enc) (C := Try.checked) false ⟨#[], #[.slice none 0 0, .int .i64 0, .int .i64 0, .int .i64 0], []⟩ 8 (by kernel_rfl) (by kernel_rfl) (by kernel_rfl) (by kernel_rfl)) ?_
  intro W base args ds gs before hval0 hW hcnd _
  have hval : ∀ (j : Nat) t v, Try.f8.params[j]? = some t → args[j]? = some v → Value.okWide Try.prog W .any base t v := hval0
  have hW' := hW
  obtain ⟨p, q, hA0, hV, rfl, hfz, hnd⟩ := hW
  have hA : DataW.TrodAll enc Try.prog W 0 (fun _ => true) true Try.f8.params.toList args.toList ds p := hA0
  rw [Try.params8] at hA hval
  obtain ⟨v0, vs0, d0, ds0, p0, q0, hargs, rfl, rfl, h0, r0⟩ := trodAll_cons hA
  obtain ⟨v1, vs1, d1, ds1, p1, q1, rfl, rfl, rfl, h1, r1⟩ := trodAll_cons r0
  obtain ⟨v2, vs2, d2, ds2, p2, q2, rfl, rfl, rfl, h2, r2⟩ := trodAll_cons r1
  obtain ⟨v3, vs3, d3, ds3, p3, q3, rfl, rfl, rfl, h3, r3⟩ := trodAll_cons r2
  obtain ⟨rfl, rfl, rfl⟩ := trodAll_nil r3
  obtain rfl : args = #[v0, v1, v2, v3] := by cases args; simp_all
  obtain ⟨rfl, rfl⟩ := trodVars_none hV
  have k0 := h0
  have lt0 : ∀ x ∈ p0, x.block < W.heap.size := by obtain ⟨m, hm⟩ := k0; exact DataW.trod_lt m _ _ _ hm
  obtain ⟨o0, n0, c0, l0, rfl, w0, s0⟩ := open_extents (hval 0 22 v0 rfl rfl) h0
  obtain ⟨a1, rfl, rfl, rfl, w1⟩ := open_int Try.underlying2 (hval 1 2 v1 rfl rfl) h1
  obtain ⟨a2, rfl, rfl, rfl, w2⟩ := open_int Try.underlying2 (hval 2 2 v2 rfl rfl) h2
  obtain ⟨a3, rfl, rfl, rfl, w3⟩ := open_int Try.underlying2 (hval 3 2 v3 rfl rfl) h3
  clear hA0 hval0
  refine (ExtentParts_walk o0 n0 c0 l0 a1 a2 a3 W w0 s0 w1 w2 w3).mono fun e W' ⟨he, bel⟩ => ?_
  subst he
  exact ⟨_, rfl, _, _, _, [], _, [], hW', trodAll_mk1 (shut_bool Try.underlying4 _), (trodAll_cons_mk (Below.trod laidOut (by kernel_rfl) (of_decide_eq_true (by kernel_rfl)) k0 bel lt0) (trodAll_cons_mk (shut_int Try.underlying2 w1) (trodAll_cons_mk (shut_int Try.underlying2 w2) (trodAll_cons_mk (shut_int Try.underlying2 w3) trodAll_mk0)))), rfl, bel.frame _, fun h => by cases h⟩

/-- The given statement of ExtentParts. -/
theorem ExtentParts_holds : Rows.ExtentPartsSaid :=
  OpenClaim.holds_of_wide 8 Try.f8 rfl rfl rfl rfl rfl rfl rfl ⟨rfl, rfl, rfl, rfl, rfl⟩ rfl rfl rfl rfl rfl (by kernel_rfl) Try.func8 (by kernel_rfl)
    (of_decide_eq_true (by kernel_rfl)) (by unfold Func.isWrapper; first | (rw [if_pos (by decide +kernel)]; kernel_rfl) | (rw [if_neg (by decide +kernel)]; exact ⟨rfl, rfl⟩))
    (fun os started H enc _ => ExtentParts_lifted os started H enc)

end Go.Proofs.Ytlmkohmanfoejaa

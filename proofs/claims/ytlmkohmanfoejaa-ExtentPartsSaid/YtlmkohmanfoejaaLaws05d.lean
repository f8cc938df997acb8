/- ExtentPieces (package haywardlaw05): for every input it returns true, and its arguments read as before. No further condition. -/
import Derived.Test.YtlmkohmanfoejaaLaws05c
namespace Go.Proofs.Ytlmkohmanfoejaa
open Go.ChangeShapes Go.WideShapes Go.ChangeAt Go.RowKit
open Go.ChangeMaps (open_string shut_string)
set_option linter.unusedVariables false
set_option linter.unusedSimpArgs false

/-- Write, that gives no error. -/
theorem Write_yes (ao : Option Addr) (n cap : Nat) (l L : List (Int × ByteArray)) (f : Int) (d : ByteArray) (w : World) (h : XS w ao n cap l) (hv : EM.ok 0 l = true) (h0 : 0 ≤ f) (h1 : f + d.size ≤ 1048576) (hL : EM.wr l f d = L) :
    Calls Try.prog 12 #[.slice ao n cap, .int .i64 f, .string d] w (Gave L 0 w) := by
  have hE : wrE l f d = 0 := by unfold wrE; rw [if_pos ⟨hv, h0⟩, if_pos h1]
  have hLL : wrL l f d = L := by unfold wrL; rw [if_pos hE, hL]
  have := Write_any ao n cap l f d w h (ok_fit hv) (by unfold I64; omega) (by unfold maxLen; omega)
  rw [hE, hLL] at this
  exact this

set_option maxHeartbeats 2000000 in
theorem ExtentPieces_walk (o0 : Option Addr) (n0 c0 : Nat) (l0 : List (Int × ByteArray)) (a1 : Int) (a2 : ByteArray) (a3 : Int) (w : World) (w0 : XS w o0 n0 c0 l0) (s0 : XFit l0) (w1 : (Lit.int .i64 a1).wf = true) (w2 : a2.size ≤ maxLen) (w3 : (Lit.int .i64 a3).wf = true) :
    Calls Try.prog 7 #[.slice o0 n0 c0, .int .i64 a1, .string a2, .int .i64 a3] w fun e w' => e = .returned (.bool true) ∧ Below w.heap.size w w' := by
  have hP := W_hid (fun w h => Write_any o0 n0 c0 l0 a1 a2 w h s0 (bounds_i64 w1) w2)
  have H := W_hid w0
  have hmx : a2.size ≤ 9223372036854775807 := w2
  obtain ⟨k0, hk0⟩ : ∃ k0, (if (a2.size : Int) < a3 then (a2.size : Int) else a3) = k0 := ⟨_, rfl⟩
  have K0 : k0 ≤ a2.size := by rw [← hk0]; split <;> omega
  obtain ⟨k, hk⟩ : ∃ k : Nat, (if 0 < k0 then k0 else 0) = (k : Int) := ⟨k0.toNat, by split <;> omega⟩
  have K1 : k ≤ a2.size := by split at hk <;> omega
  by_cases hE : wrE l0 a1 a2 = 0
  · obtain ⟨hv, h0, h1⟩ := wrE_zero hE
    have hLL : wrL l0 a1 a2 = EM.wr l0 a1 a2 := by unfold wrL; rw [if_pos hE]
    rw [hE, hLL] at hP
    have z1 : (a2.extract 0 k).size = k := by rw [EM.cut_size _ _ _ K1]; omega
    have z2 : (a2.extract k a2.size).size = a2.size - k := EM.cut_size _ _ _ (Nat.le_refl _)
    obtain ⟨t1, t2⟩ := EM.wr_two hv h0 h1 K1
    obtain ⟨p, hp⟩ : ∃ p, a2.extract 0 k = p := ⟨_, rfl⟩
    obtain ⟨s, hs⟩ : ∃ s, a2.extract k a2.size = s := ⟨_, rfl⟩
    rw [hp] at t1 t2 z1
    rw [hs] at t1 t2 z2
    obtain ⟨L, hL⟩ : ∃ L, EM.wr l0 a1 a2 = L := ⟨_, rfl⟩
    obtain ⟨L1, hL1⟩ : ∃ L, EM.wr l0 a1 p = L := ⟨_, rfl⟩
    obtain ⟨L2, hL2⟩ : ∃ L, EM.wr l0 (a1 + k) s = L := ⟨_, rfl⟩
    have v1 : EM.ok 0 L1 = true := by rw [← hL1]; exact EM.wr_ok hv h0 (by omega)
    have v2 : EM.ok 0 L2 = true := by rw [← hL2]; exact EM.wr_ok hv (by omega) (by omega)
    rw [hL] at hP t1 t2
    rw [hL1] at t1
    rw [hL2] at t2
    have q1 : Hid (∀ w, XS w o0 n0 c0 l0 → Calls Try.prog 12 #[.slice o0 n0 c0, .int .i64 a1, .string p] w (Gave L1 0 w)) := fun w h => Write_yes o0 n0 c0 l0 L1 a1 p w h hv h0 (by omega) hL1
    have q2 : Hid (∀ w ao n c, XS w ao n c L1 → Calls Try.prog 12 #[.slice ao n c, .int .i64 (a1 + (k : Int)), .string s] w (Gave L 0 w)) := fun w ao n c h => Write_yes ao n c L1 L (a1 + k) s w h v1 (by omega) (by omega) t1
    have q3 : Hid (∀ w, XS w o0 n0 c0 l0 → Calls Try.prog 12 #[.slice o0 n0 c0, .int .i64 (a1 + (k : Int)), .string s] w (Gave L2 0 w)) := fun w h => Write_yes o0 n0 c0 l0 L2 (a1 + k) s w h hv (by omega) (by omega) hL2
    have q4 : Hid (∀ w ao n c, XS w ao n c L2 → Calls Try.prog 12 #[.slice ao n c, .int .i64 a1, .string p] w (Gave L 0 w)) := fun w ao n c h => Write_yes ao n c L2 L a1 p w h v2 (by omega) (by omega) t2
    have sl1 : ∀ w, (Instr.slice 9 (.string a2) none (some (.int .i64 (k : Int))) none).run Try.prog w = .ok (.string p) w := fun w => by
      rw [run_slice_string_h _ _ _ Try.underlying9 _ _ (by omega) (by omega), show (k : Int).toNat = k by omega, hp]
    have sl2 : ∀ w, (Instr.slice 9 (.string a2) (some (.int .i64 (k : Int))) none none).run Try.prog w = .ok (.string s) w := fun w => by
      rw [run_slice_string_l _ _ _ Try.underlying9 _ _ (by omega) (by omega), show (k : Int).toNat = k by omega, hs]
    clear hE hv hLL t1 t2 hp hs hL hL1 hL2 v1 v2 w0 w1 w2 w3 z1 z2
    go_enter Try.func7, Try.ntmps7
    go_wp2_with fail
    refine (shown_any _).mono ?_
    rintro e w1 ⟨rfl, bel1⟩
    go_wp2_with fail
    refine (hP.out _ (H.out.below bel1 (Nat.le_refl _))).mono ?_
    intro e w2 hg2
    obtain ⟨x2, c2, rfl, hown2, bel2⟩ := gave_form hg2
    have s2 := XS_own hown2
    replace bel2 := below_tr bel1 bel2
    clear hown2 hg2 bel1
    go_wp2_with fail
    refine (q1.out _ (H.out.below bel2 (Nat.le_refl _))).mono ?_
    intro e w3 hg3
    obtain ⟨x3, c3, rfl, hown3, bel3⟩ := gave_form hg3
    have s3 := XS_own hown3
    replace s2 := s2.below bel3 (Nat.le_refl _)
    replace bel3 := below_tr bel2 bel3
    clear hown3 hg3
    go_wp2_with fail
    refine (q2.out _ _ _ _ s3).mono ?_
    intro e w4 hg4
    obtain ⟨x4, c4, rfl, hown4, bel4⟩ := gave_form hg4
    have s4 := XS_own hown4
    replace s2 := s2.below bel4 (Nat.le_refl _)
    replace bel4 := below_tr bel3 bel4
    clear hown4 hg4
    go_wp2_with fail
    refine (q3.out _ (H.out.below bel4 (Nat.le_refl _))).mono ?_
    intro e w5 hg5
    obtain ⟨x5, c5, rfl, hown5, bel5⟩ := gave_form hg5
    have s5 := XS_own hown5
    replace s2 := s2.below bel5 (Nat.le_refl _)
    replace s4 := s4.below bel5 (Nat.le_refl _)
    replace bel5 := below_tr bel4 bel5
    clear hown5 hg5
    go_wp2_with fail
    refine (q4.out _ _ _ _ s5).mono ?_
    intro e w6 hg6
    obtain ⟨x6, c6, rfl, hown6, bel6⟩ := gave_form hg6
    have s6 := XS_own hown6
    replace s2 := s2.below bel6 (Nat.le_refl _)
    replace s4 := s4.below bel6 (Nat.le_refl _)
    replace bel6 := below_tr bel5 bel6
    have hS1 := Same_any _ _ _ _ _ _ _ _ w6 s2 s4
    rw [decide_eq_true rfl] at hS1
    have hS1 := W_hid hS1
    clear hown6 hg6
    go_wp2_with fail
    refine hS1.out.mono ?_
    rintro e w7 ⟨rfl, bel7⟩
    replace s2 := s2.below bel7 (Nat.le_refl _)
    replace s6 := s6.below bel7 (Nat.le_refl _)
    replace bel7 := below_tr bel6 bel7
    have hS2 := Same_any _ _ _ _ _ _ _ _ w7 s2 s6
    rw [decide_eq_true rfl] at hS2
    have hS2 := W_hid hS2
    go_wp2_with fail
    refine hS2.out.mono ?_
    rintro e w8 ⟨rfl, bel8⟩
    go_wp2
    go_ret
    exact ⟨rfl, below_tr bel7 bel8⟩
  · have hLL : wrL l0 a1 a2 = [] := by unfold wrL; rw [if_neg hE]
    rw [hLL] at hP
    obtain ⟨E, hE2⟩ : ∃ E, wrE l0 a1 a2 = E := ⟨_, rfl⟩
    rw [hE2] at hP hE
    have e1 : (E != 0) = true := by simpa using hE
    clear hE hE2 hLL w0 w1 w2 w3
    go_enter Try.func7, Try.ntmps7
    go_wp2_with fail
    refine (shown_any _).mono ?_
    rintro e w1 ⟨rfl, bel1⟩
    go_wp2_with fail
    refine (hP.out _ (H.out.below bel1 (Nat.le_refl _))).mono ?_
    intro e w2 hg2
    obtain ⟨x2, c2, rfl, hown2, bel2⟩ := gave_len (N := 0) rfl hg2
    go_wp2
    go_ret
    exact ⟨rfl, below_tr bel1 bel2⟩

set_option maxRecDepth 100000 in
theorem ExtentPieces_lifted (os : Os) (started : os.Started) (H : Type) (enc : TypeId × Value → H) :
    ReturnsInHanded {} Try.checked os 7 .any (Rows.extentPiecesSpec.pre6 enc Try.prog Try.f7 Rows.extentPiecesRow.domain false) (Rows.extentPiecesSpec.post enc Try.prog Try.f7 false true false false) := by
  refine returnsInHanded_of_change (C := Try.checked) (by kernel_rfl) started (by kernel_rfl) Try.func7
    (ChangeSpec.witness6 (enc := enc) (C := Try.checked) false ⟨#[], #[.slice none 0 0, .int .i64 0, .string ByteArray.empty, .int .i64 0], []⟩ 8 (by kernel_rfl) (by kernel_rfl) (by kernel_rfl) (by kernel_rfl)) ?_
  intro W base args ds gs before hval0 hW hcnd _
  have hval : ∀ (j : Nat) t v, Try.f7.params[j]? = some t → args[j]? = some v → Value.okWide Try.prog W .any base t v := hval0
  have hW' := hW
  obtain ⟨p, q, hA0, hV, rfl, hfz, hnd⟩ := hW
  have hA : DataW.TrodAll enc Try.prog W 0 (fun _ => true) true Try.f7.params.toList args.toList ds p := hA0
  rw [Try.params7] at hA hval
  obtain ⟨v0, vs0, d0, ds0, p0, q0, hargs, rfl, rfl, h0, r0⟩ := trodAll_cons hA
  obtain ⟨v1, vs1, d1, ds1, p1, q1, rfl, rfl, rfl, h1, r1⟩ := trodAll_cons r0
  obtain ⟨v2, vs2, d2, ds2, p2, q2, rfl, rfl, rfl, h2, r2⟩ := trodAll_cons r1
  obtain ⟨v3, vs3, d3, ds3, p3, q3, rfl, rfl, rfl, h3, r3⟩ := trodAll_cons r2
  obtain ⟨rfl, rfl, rfl⟩ := trodAll_nil r3
  obtain rfl : args = #[v0, v1, v2, v3] := by cases args; simp_all
  obtain ⟨rfl, rfl⟩ := trodVars_none hV
  have k0 := h0
  have lt0 : ∀ x ∈ p0, x.block < W.heap.size := by obtain ⟨m, hm⟩ := k0; exact DataW.trod_lt m _ _ _ hm
  obtain ⟨o0, n0, c0, l0, rfl, w0, s0⟩ := open_extents (hval 0 22 v0 rfl rfl) h0
  obtain ⟨a1, rfl, rfl, rfl, w1⟩ := open_int Try.underlying2 (hval 1 2 v1 rfl rfl) h1
  obtain ⟨a2, rfl, rfl, rfl, w2⟩ := open_string Try.underlying9 (hval 2 9 v2 rfl rfl) h2
  obtain ⟨a3, rfl, rfl, rfl, w3⟩ := open_int Try.underlying3 (hval 3 3 v3 rfl rfl) h3
  clear hA0 hval0
  refine (ExtentPieces_walk o0 n0 c0 l0 a1 a2 a3 W w0 s0 w1 w2 w3).mono fun e W' ⟨he, bel⟩ => ?_
  subst he
  exact ⟨_, rfl, _, _, _, [], _, [], hW', trodAll_mk1 (shut_bool Try.underlying4 _), (trodAll_cons_mk (Below.trod laidOut (by kernel_rfl) (of_decide_eq_true (by kernel_rfl)) k0 bel lt0) (trodAll_cons_mk (shut_int Try.underlying2 w1) (trodAll_cons_mk (shut_string Try.underlying9 w2) (trodAll_cons_mk (shut_int Try.underlying3 w3) trodAll_mk0)))), rfl, bel.frame _, fun h => by cases h⟩

/-- The given statement of ExtentPieces. -/
theorem ExtentPieces_holds : Rows.ExtentPiecesSaid :=
  OpenClaim.holds_of_wide 7 Try.f7 rfl rfl rfl rfl rfl rfl rfl ⟨rfl, rfl, rfl, rfl, rfl⟩ rfl rfl rfl rfl rfl (by kernel_rfl) Try.func7 (by kernel_rfl)
    (of_decide_eq_true (by kernel_rfl)) (by unfold Func.isWrapper; first | (rw [if_pos (by decide +kernel)]; kernel_rfl) | (rw [if_neg (by decide +kernel)]; exact ⟨rfl, rfl⟩))
    (fun os started H enc _ => ExtentPieces_lifted os started H enc)

end Go.Proofs.Ytlmkohmanfoejaa

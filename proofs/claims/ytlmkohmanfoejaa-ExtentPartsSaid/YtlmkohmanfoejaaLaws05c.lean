/- ExtentBack (package haywardlaw05): for every input it returns true, and its arguments read as before. No further condition. -/
import Derived.Test.YtlmkohmanfoejaaLaws05b
namespace Go.Proofs.Ytlmkohmanfoejaa
open Go.ChangeShapes Go.WideShapes Go.ChangeAt Go.RowKit
open Go.ChangeMaps (open_string shut_string)
set_option linter.unusedVariables false
set_option linter.unusedSimpArgs false

theorem ends_le {l : List (Int × ByteArray)} (h : EM.ok 0 l = true) : ends l ≤ 1048576 := by
  cases l with
  | nil => show (0 : Int) ≤ _; omega
  | cons x r =>
    have := (EM.nxt_le h (by decide)).2
    show EM.nxt 0 (x :: r) - 1 ≤ _
    omega
theorem ok_fit {l : List (Int × ByteArray)} (h : EM.ok 0 l = true) : XFit l := by
  intro x hx
  have := ok_mem h x hx
  unfold I64 maxLen
  omega
/-- Read, of a valid list, up to the greatest size. -/
theorem Read_max (ao : Option Addr) (n cap : Nat) (l : List (Int × ByteArray)) (f m : Int) (M : Nat) (V : List UInt8) (w : World) (h : XS w ao n cap l) (hv : EM.ok 0 l = true) (hf : 0 ≤ f) (hm : 0 ≤ m) (hf2 : f ≤ 9223372036854775807) (hm2 : m ≤ 9223372036854775807)
    (hM : (min m (1048576 - f)).toNat = M) (hV : EM.rd l f M = V) :
    Calls Try.prog 10 #[.slice ao n cap, .int .i64 1048576, .int .i64 f, .int .i64 m] w fun e w' => e = .returned (.tuple #[.string (strOf V), .int .i64 0]) ∧ Below w.heap.size w w' := by
  have hE : rdE l 1048576 f m = 0 := if_pos ⟨hv, by decide, hf, hm, by decide, ends_le hv⟩
  have hVV : rdV l 1048576 f m = V := by
    unfold rdV
    rw [if_pos hE, hM, hV]
  have := Read_any ao n cap l 1048576 f m w h (ok_fit hv) (by unfold I64; decide) (by unfold I64; omega) (by unfold I64; omega)
  rw [hE, hVV] at this
  exact this
theorem wrE_zero {l : List (Int × ByteArray)} {f : Int} {d : ByteArray} (h : wrE l f d = 0) : EM.ok 0 l = true ∧ 0 ≤ f ∧ f + d.size ≤ 1048576 := by
  unfold wrE at h
  split at h
  · rename_i h1
    split at h
    · rename_i h2
      exact ⟨h1.1, h1.2, h2⟩
    · cases h
  · cases h

set_option maxHeartbeats 2000000 in
theorem ExtentBack_walk (o0 : Option Addr) (n0 c0 : Nat) (l0 : List (Int × ByteArray)) (a1 : Int) (a2 : ByteArray) (w : World) (w0 : XS w o0 n0 c0 l0) (s0 : XFit l0) (w1 : (Lit.int .i64 a1).wf = true) (w2 : a2.size ≤ maxLen) :
    Calls Try.prog 6 #[.slice o0 n0 c0, .int .i64 a1, .string a2] w fun e w' => e = .returned (.bool true) ∧ Below w.heap.size w w' := by
  have hP := W_hid (fun w h => Write_any o0 n0 c0 l0 a1 a2 w h s0 (bounds_i64 w1) w2)
  have H := W_hid w0
  by_cases hE : wrE l0 a1 a2 = 0
  · obtain ⟨hv, h0, h1⟩ := wrE_zero hE
    obtain ⟨L, hL⟩ : ∃ L, EM.wr l0 a1 a2 = L := ⟨_, rfl⟩
    have hLL : wrL l0 a1 a2 = L := by unfold wrL; rw [if_pos hE, hL]
    rw [hE, hLL] at hP
    obtain ⟨N, hN⟩ : ∃ N, L.length = N := ⟨_, rfl⟩
    have HN := W_hid hN
    have hok : EM.ok 0 L = true := by rw [← hL]; exact EM.wr_ok hv h0 h1
    have r1 : EM.rd L a1 a2.size = a2.data.toList := by rw [← hL]; exact EM.rd_wr hv h0 h1
    obtain ⟨V1, hV1⟩ : ∃ V, EM.rd l0 0 a1.toNat = V := ⟨_, rfl⟩
    have r2 : EM.rd L 0 a1.toNat = V1 := by rw [← hL, EM.rd_wr_other hv h0 h1 _ _ (by omega), hV1]
    obtain ⟨K, hK⟩ : ∃ K, (min (1048576 : Int) (1048576 - (a1 + a2.size))).toNat = K := ⟨_, rfl⟩
    obtain ⟨V2, hV2⟩ : ∃ V, EM.rd l0 (a1 + a2.size) K = V := ⟨_, rfl⟩
    have r4 : EM.rd L (a1 + a2.size) K = V2 := by rw [← hL, EM.rd_wr_other hv h0 h1 _ _ (by omega), hV2]
    have q1 : Hid (∀ w ao c, XS w ao N c L → Calls Try.prog 10 #[.slice ao N c, .int .i64 1048576, .int .i64 a1, .int .i64 (a2.size : Int)] w fun e w' => e = .returned (.tuple #[.string a2, .int .i64 0]) ∧ Below w.heap.size w w') := by
      intro w ao c h
      have := Read_max ao N c L a1 a2.size a2.size _ w h hok h0 (by omega) (by omega) (by omega) (by omega) r1
      rwa [strOf_of] at this
    have q2 : Hid (∀ w ao c, XS w ao N c L → Calls Try.prog 10 #[.slice ao N c, .int .i64 1048576, .int .i64 0, .int .i64 a1] w fun e w' => e = .returned (.tuple #[.string (strOf V1), .int .i64 0]) ∧ Below w.heap.size w w') := by
      intro w ao c h
      exact Read_max ao N c L 0 a1 a1.toNat _ w h hok (by omega) (by omega) (by omega) (by omega) (by omega) r2
    have q3 : Hid (∀ w, XS w o0 n0 c0 l0 → Calls Try.prog 10 #[.slice o0 n0 c0, .int .i64 1048576, .int .i64 0, .int .i64 a1] w fun e w' => e = .returned (.tuple #[.string (strOf V1), .int .i64 0]) ∧ Below w.heap.size w w') := by
      intro w h
      exact Read_max o0 n0 c0 l0 0 a1 a1.toNat _ w h hv (by omega) (by omega) (by omega) (by omega) (by omega) hV1
    have q4 : Hid (∀ w ao c, XS w ao N c L → Calls Try.prog 10 #[.slice ao N c, .int .i64 1048576, .int .i64 (a1 + (a2.size : Int)), .int .i64 1048576] w fun e w' => e = .returned (.tuple #[.string (strOf V2), .int .i64 0]) ∧ Below w.heap.size w w') := by
      intro w ao c h
      exact Read_max ao N c L (a1 + a2.size) 1048576 K _ w h hok (by omega) (by omega) (by omega) (by omega) hK r4
    have q5 : Hid (∀ w, XS w o0 n0 c0 l0 → Calls Try.prog 10 #[.slice o0 n0 c0, .int .i64 1048576, .int .i64 (a1 + (a2.size : Int)), .int .i64 1048576] w fun e w' => e = .returned (.tuple #[.string (strOf V2), .int .i64 0]) ∧ Below w.heap.size w w') := by
      intro w h
      exact Read_max o0 n0 c0 l0 (a1 + a2.size) 1048576 K _ w h hv (by omega) (by omega) (by omega) (by omega) hK hV2
    generalize strOf V1 = T1 at q2 q3
    generalize strOf V2 = T2 at q4 q5
    clear hE hv hL hLL hok r1 r2 r4 hV1 hV2 hK hN w0 w1 w2
    go_enter Try.func6, Try.ntmps6
    go_wp2_with fail
    refine (shown_any _).mono ?_
    rintro e w1 ⟨rfl, bel1⟩
    go_wp2_with fail
    refine (hP.out _ (H.out.below bel1 (Nat.le_refl _))).mono ?_
    intro e w2 hg2
    obtain ⟨x2, c2, rfl, hown2, bel2⟩ := gave_len HN.out hg2
    have s2 := XS_own hown2
    replace bel2 := below_tr bel1 bel2
    clear hown2 hg2 bel1
    go_wp2_with fail
    refine (q1.out _ _ _ s2).mono ?_
    rintro e w3 ⟨rfl, bel3⟩
    replace s2 := s2.below bel3 (Nat.le_refl _)
    replace bel3 := below_tr bel2 bel3
    go_wp2_with fail
    refine (q2.out _ _ _ s2).mono ?_
    rintro e w4 ⟨rfl, bel4⟩
    replace s2 := s2.below bel4 (Nat.le_refl _)
    replace bel4 := below_tr bel3 bel4
    go_wp2_with fail
    refine (q3.out _ (H.out.below bel4 (Nat.le_refl _))).mono ?_
    rintro e w5 ⟨rfl, bel5⟩
    replace s2 := s2.below bel5 (Nat.le_refl _)
    replace bel5 := below_tr bel4 bel5
    go_wp2_with fail
    refine (q4.out _ _ _ s2).mono ?_
    rintro e w6 ⟨rfl, bel6⟩
    replace bel6 := below_tr bel5 bel6
    go_wp2_with fail
    refine (q5.out _ (H.out.below bel6 (Nat.le_refl _))).mono ?_
    rintro e w7 ⟨rfl, bel7⟩
    go_wp2
    go_ret
    exact ⟨rfl, below_tr bel6 bel7⟩
  · have hLL : wrL l0 a1 a2 = [] := by unfold wrL; rw [if_neg hE]
    rw [hLL] at hP
    obtain ⟨E, hE2⟩ : ∃ E, wrE l0 a1 a2 = E := ⟨_, rfl⟩
    rw [hE2] at hP hE
    have e1 : (E != 0) = true := by simpa using hE
    clear hE hE2 hLL w0 w1 w2
    go_enter Try.func6, Try.ntmps6
    go_wp2_with fail
    refine (shown_any _).mono ?_
    rintro e w1 ⟨rfl, bel1⟩
    go_wp2_with fail
    refine (hP.out _ (H.out.below bel1 (Nat.le_refl _))).mono ?_
    intro e w2 hg2
    obtain ⟨x2, c2, rfl, hown2, bel2⟩ := gave_len (N := 0) rfl hg2
    go_wp2
    go_ret
    exact ⟨rfl, below_tr bel1 bel2⟩

set_option maxRecDepth 100000 in
theorem ExtentBack_lifted (os : Os) (started : os.Started) (H : Type) (enc : TypeId × Value → H) :
    ReturnsInHanded {} Try.checked os 6 .any (Rows.extentBackSpec.pre6 enc Try.prog Try.f6 Rows.extentBackRow.domain false) (Rows.extentBackSpec.post enc Try.prog Try.f6 false true false false) := by
  refine returnsInHanded_of_change (C := Try.checked) (by kernel_rfl) started (by kernel_rfl) Try.func6
    (ChangeSpec.witness6 (enc := enc) (C := Try.checked) false ⟨#[], #[.slice none 0 0, .int .i64 0, .string ByteArray.empty], []⟩ 8 (by kernel_rfl) (by kernel_rfl) (by kernel_rfl) (by kernel_rfl)) ?_
  intro W base args ds gs before hval0 hW hcnd _
  have hval : ∀ (j : Nat) t v, Try.f6.params[j]? = some t → args[j]? = some v → Value.okWide Try.prog W .any base t v := hval0
  have hW' := hW
  obtain ⟨p, q, hA0, hV, rfl, hfz, hnd⟩ := hW
  have hA : DataW.TrodAll enc Try.prog W 0 (fun _ => true) true Try.f6.params.toList args.toList ds p := hA0
  rw [Try.params6] at hA hval
  obtain ⟨v0, vs0, d0, ds0, p0, q0, hargs, rfl, rfl, h0, r0⟩ := trodAll_cons hA
  obtain ⟨v1, vs1, d1, ds1, p1, q1, rfl, rfl, rfl, h1, r1⟩ := trodAll_cons r0
  obtain ⟨v2, vs2, d2, ds2, p2, q2, rfl, rfl, rfl, h2, r2⟩ := trodAll_cons r1
  obtain ⟨rfl, rfl, rfl⟩ := trodAll_nil r2
  obtain rfl : args = #[v0, v1, v2] := by cases args; simp_all
  obtain ⟨rfl, rfl⟩ := trodVars_none hV
  have k0 := h0
  have lt0 : ∀ x ∈ p0, x.block < W.heap.size := by obtain ⟨m, hm⟩ := k0; exact DataW.trod_lt m _ _ _ hm
  obtain ⟨o0, n0, c0, l0, rfl, w0, s0⟩ := open_extents (hval 0 22 v0 rfl rfl) h0
  obtain ⟨a1, rfl, rfl, rfl, w1⟩ := open_int Try.underlying2 (hval 1 2 v1 rfl rfl) h1
  obtain ⟨a2, rfl, rfl, rfl, w2⟩ := open_string Try.underlying9 (hval 2 9 v2 rfl rfl) h2
  clear hA0 hval0
  refine (ExtentBack_walk o0 n0 c0 l0 a1 a2 W w0 s0 w1 w2).mono fun e W' ⟨he, bel⟩ => ?_
  subst he
  exact ⟨_, rfl, _, _, _, [], _, [], hW', trodAll_mk1 (shut_bool Try.underlying4 _), (trodAll_cons_mk (Below.trod laidOut (by kernel_rfl) (of_decide_eq_true (by kernel_rfl)) k0 bel lt0) (trodAll_cons_mk (shut_int Try.underlying2 w1) (trodAll_cons_mk (shut_string Try.underlying9 w2) trodAll_mk0))), rfl, bel.frame _, fun h => by cases h⟩

/-- The given statement of ExtentBack. -/
theorem ExtentBack_holds : Rows.ExtentBackSaid :=
  OpenClaim.holds_of_wide 6 Try.f6 rfl rfl rfl rfl rfl rfl rfl ⟨rfl, rfl, rfl, rfl, rfl⟩ rfl rfl rfl rfl rfl (by kernel_rfl) Try.func6 (by kernel_rfl)
    (of_decide_eq_true (by kernel_rfl)) (by unfold Func.isWrapper; first | (rw [if_pos (by decide +kernel)]; kernel_rfl) | (rw [if_neg (by decide +kernel)]; exact ⟨rfl, rfl⟩))
    (fun os started H enc _ => ExtentBack_lifted os started H enc)

end Go.Proofs.Ytlmkohmanfoejaa

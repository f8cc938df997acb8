/- The laws of layer 5 (package haywardlaw05), the first part: what they share, ExtentReads and ExtentCuts: for every input they return true, and their arguments read as before. No further condition. -/
import Derived.Test.YtlmkohmanfoejaaRefRead
import Derived.ShutString
import Derived.ChangeOld
import Derived.Deep.SlicePairs
namespace Go.Proofs.Ytlmkohmanfoejaa
open Go.ChangeShapes Go.WideShapes Go.ChangeAt Go.RowKit
open Go.ChangeMaps (open_string shut_string)
set_option linter.unusedVariables false
set_option linter.unusedSimpArgs false

theorem laidOut : laidOutB Try.prog = true := by kernel_rfl

/-- Extents that came in. -/
theorem open_extents {H : Type} {enc : TypeId × Value → H} {W : World} {r : Reach} {b0 : Nat} {v : Value} {d : DataW H} {p : List MemPlace} (hv : Value.okWide Try.prog W r b0 22 v)
    (h : DataW.Trod enc Try.prog W 0 (fun _ => true) true 22 v d p) :
    ∃ (ao : Option Addr) (n cap : Nat) (l : List (Int × ByteArray)), v = .slice ao n cap ∧ XS W ao n cap l ∧ XFit l := by
  obtain ⟨a, len, cap, rfl⟩ := okWide_slice Try.underlying22 hv
  obtain ⟨fuel, hf⟩ := h
  rcases Deep.open_slice_pairs Try.underlying22 Try.underlying32 (by kernel_rfl) rfl rfl (by kernel_rfl) (by kernel_rfl) hf with ⟨e1, -⟩ | ⟨x, len', cap', m, nn, V0, V1, D0, D1, P0, P1, e1, -, hl, hm, hmm, -, hc⟩
  · simp [Value.cells] at e1
    obtain ⟨rfl, rfl, rfl⟩ := e1
    exact ⟨none, 0, 0, [], rfl, XS.nil W, fun x hx => by simp at hx⟩
  · simp [Value.cells] at e1
    obtain ⟨rfl, rfl, rfl⟩ := e1
    have hlm : len ≤ m := by rw [hmm]; split <;> omega
    have hI : ∀ i, i < len → ∃ z, V0 i = .int .i64 z ∧ I64 z := fun i hi => by
      obtain ⟨-, -, h3, -⟩ := hc i (by omega)
      obtain ⟨z, h1, -, h2⟩ := DataW.trod_int Try.underlying2 h3
      exact ⟨z, by simpa using h1, bounds_i64 h2⟩
    have hS : ∀ i, i < len → ∃ s, V1 i = .string s ∧ s.size ≤ maxLen := fun i hi => by
      obtain ⟨-, -, -, h4⟩ := hc i (by omega)
      obtain ⟨s, h1, -, h2⟩ := DataW.trod_string Try.underlying9 h4
      exact ⟨s, by simpa using h1, h2⟩
    have key : ∀ k, k ≤ len → ∃ l : List (Int × ByteArray), l.length = k ∧ XFit l ∧ ∀ j u, (ecl l)[j]? = some u → W.cell? (x.add j) = some u := by
      intro k
      induction k with
      | zero => exact fun _ => ⟨[], rfl, fun x hx => by simp at hx, fun j u hu => by simp [ecl] at hu⟩
      | succ k ih =>
        intro hk
        obtain ⟨l, h1, h2, h3⟩ := ih (by omega)
        obtain ⟨z, hz, hz2⟩ := hI k (by omega)
        obtain ⟨s, hs, hs2⟩ := hS k (by omega)
        obtain ⟨q1, q2, -, -⟩ := hc k (by omega)
        rw [hz] at q1
        rw [hs] at q2
        refine ⟨l ++ [(z, s)], by simp [h1], fun y hy => ?_, fun j u hu => ?_⟩
        · rcases List.mem_append.1 hy with hy | hy
          · exact h2 y hy
          · rw [List.mem_singleton.1 hy]; exact ⟨hz2, hs2⟩
        · rw [ecl_append] at hu
          by_cases hj : j < (ecl l).length
          · rw [List.getElem?_append_left hj] at hu
            exact h3 j u hu
          · rw [List.getElem?_append_right (by omega), ecl_length, h1] at hu
            have hj2 : j - k * 2 < 2 := (List.getElem?_eq_some_iff.1 hu).1
            rw [ecl_length, h1] at hj
            by_cases h0 : j - k * 2 = 0
            · rw [h0] at hu
              have : j = k * 2 := by omega
              subst this
              rw [q1, ← hu]; rfl
            · have h0' : j - k * 2 = 1 := by omega
              rw [h0'] at hu
              have : j = k * 2 + 1 := by omega
              subst this
              rw [q2, ← hu]; rfl
    obtain ⟨l, h1, h2, h3⟩ := key len (Nat.le_refl _)
    refine ⟨some x, len, cap, l, rfl, ⟨h1, hl, hm, (fun h => by cases h), fun ad had j u hu => ?_⟩, h2⟩
    obtain rfl := Option.some.inj had
    exact h3 j u hu

/-- A call gives a list and a number of an error, in a row of its own. -/
theorem gave_form {L : List (Int × ByteArray)} {E : Int} {w w' : World} {e : Ending} (h : Gave L E w e w') : ∃ ao c, e = .returned (.tuple #[.slice ao L.length c, .int .i64 E]) ∧ w'.ownsRow w.heap.size 32 2 (.slice ao L.length c) L.length (ecl L) ∧ Below w.heap.size w w' := by
  obtain ⟨v, rfl, hown, bel⟩ := h
  obtain ⟨ao, c, rfl⟩ := Own.form hown
  exact ⟨ao, c, rfl, hown, bel⟩

def abc : ByteArray := ⟨#[97, 98, 99]⟩
def dd : ByteArray := ⟨#[100]⟩
def abcd : ByteArray := ⟨#[97, 98, 99, 100]⟩
theorem shown_one : wrE [] 3 abc = 0 ∧ wrL [] 3 abc = [(3, abc)] := by decide +kernel
theorem shown_two : wrE [(3, abc)] 6 dd = 0 ∧ wrL [(3, abc)] 6 dd = [(3, abcd)] := by decide +kernel

set_option maxHeartbeats 1000000 in
theorem shown_any (w : World) : Calls Try.prog 9 #[] w fun e w' => e = .returned (.bool true) ∧ Below w.heap.size w w' := by
  have hP : Hid (∀ w, Calls Try.prog 12 #[.slice none 0 0, .int .i64 3, .string ⟨#[97, 98, 99]⟩] w (Gave [(3, abc)] 0 w)) := by
    intro w
    have := Write_any none 0 0 [] 3 abc w (XS.nil w) (fun x hx => by simp at hx) (by unfold I64; decide) (by decide)
    rw [shown_one.1, shown_one.2] at this
    exact this
  have hQ : Hid (∀ w ao n c, XS w ao n c [(3, abc)] → Calls Try.prog 12 #[.slice ao n c, .int .i64 6, .string ⟨#[100]⟩] w (Gave [(3, abcd)] 0 w)) := by
    intro w ao n c h
    have := Write_any ao n c [(3, abc)] 6 dd w h (fun x hx => by rw [List.mem_singleton.1 hx]; unfold I64; decide) (by unfold I64; decide) (by decide)
    rw [shown_two.1, shown_two.2] at this
    exact this
  go_enter Try.func9, Try.ntmps9
  go_wp2_with fail
  refine (hP.out _).mono ?_
  intro e w1 hg
  obtain ⟨a1, c1, rfl, hown1, bel1⟩ := gave_form hg
  go_wp2_with fail
  refine (hQ.out _ _ _ _ (XS_own hown1)).mono ?_
  intro e w2 hg2
  obtain ⟨a2, c2, rfl, hown2, bel2⟩ := gave_form hg2
  obtain ⟨blk, off, rfl, hc⟩ := (XS_own hown2).at_ (by decide)
  have e1 : w2.cell? ⟨blk, off, none⟩ = some (.int .i64 3) := (hc 0 (by decide)).1
  have e2 : w2.cell? ⟨blk, off + 1, none⟩ = some (.string ⟨#[97, 98, 99, 100]⟩) := (hc 0 (by decide)).2
  clear hc hg hg2
  go_wp2
  go_ret
  exact ⟨rfl, below_tr bel1 bel2⟩

set_option maxHeartbeats 1000000 in
theorem ExtentReads_walk (o0 : Option Addr) (n0 c0 : Nat) (l0 : List (Int × ByteArray)) (a1 a2 a3 : Int) (w : World) (w0 : XS w o0 n0 c0 l0) (s0 : XFit l0) (w1 : (Lit.int .i64 a1).wf = true) (w2 : (Lit.int .i64 a2).wf = true) (w3 : (Lit.int .i64 a3).wf = true) :
    Calls Try.prog 3 #[.slice o0 n0 c0, .int .i64 a1, .int .i64 a2, .int .i64 a3] w fun e w' => e = .returned (.bool true) ∧ Below w.heap.size w w' := by
  have hP := W_hid (fun w h => Read_any o0 n0 c0 l0 a1 a2 a3 w h s0 (bounds_i64 w1) (bounds_i64 w2) (bounds_i64 w3))
  have hR := W_hid (fun w h => rRead_any o0 n0 c0 l0 a1 a2 a3 w h s0 (bounds_i64 w1) (bounds_i64 w2) (bounds_i64 w3))
  obtain ⟨V, hV⟩ : ∃ V, strOf (rdV l0 a1 a2 a3) = V := ⟨_, rfl⟩
  obtain ⟨E, hE⟩ : ∃ E, rdE l0 a1 a2 a3 = E := ⟨_, rfl⟩
  rw [hV, hE] at hP hR
  have H := W_hid w0
  clear hV hE w0 w1 w2 w3
  go_enter Try.func3, Try.ntmps3
  go_wp2_with fail
  refine (shown_any _).mono ?_
  rintro e w1 ⟨rfl, bel1⟩
  go_wp2_with fail
  refine (hP.out _ (H.out.below bel1 (Nat.le_refl _))).mono ?_
  rintro e w2 ⟨rfl, bel2⟩
  replace bel2 := below_tr bel1 bel2
  go_wp2_with fail
  refine (hR.out _ (H.out.below bel2 (Nat.le_refl _))).mono ?_
  rintro e w3 ⟨rfl, bel3⟩
  go_wp2
  go_ret
  exact ⟨rfl, below_tr bel2 bel3⟩

set_option maxRecDepth 100000 in
theorem ExtentReads_lifted (os : Os) (started : os.Started) (H : Type) (enc : TypeId × Value → H) :
    ReturnsInHanded {} Try.checked os 3 .any (Rows.extentReadsSpec.pre6 enc Try.prog Try.f3 Rows.extentReadsRow.domain false) (Rows.extentReadsSpec.post enc Try.prog Try.f3 false true false false) := by
  refine returnsInHanded_of_change (C := Try.checked) (by kernel_rfl) started (by kernel_rfl) Try.func3
    (ChangeSpec.witness6 (enc := enc) (C := Try.checked) false ⟨#[], #[.slice none 0 0, .int .i64 0, .int .i64 0, .int .i64 0], []⟩ 8 (by kernel_rfl) (by kernel_rfl) (by kernel_rfl) (by kernel_rfl)) ?_
  intro W base args ds gs before hval0 hW hcnd _
  have hval : ∀ (j : Nat) t v, Try.f3.params[j]? = some t → args[j]? = some v → Value.okWide Try.prog W .any base t v := hval0
  have hW' := hW
  obtain ⟨p, q, hA0, hV, rfl, hfz, hnd⟩ := hW
  have hA : DataW.TrodAll enc Try.prog W 0 (fun _ => true) true Try.f3.params.toList args.toList ds p := hA0
  rw [Try.params3] at hA hval
  obtain ⟨v0, vs0, d0, ds0, p0, q0, hargs, rfl, rfl, h0, r0⟩ := trodAll_cons hA
  obtain ⟨v1, vs1, d1, ds1, p1, q1, rfl, rfl, rfl, h1, r1⟩ := trodAll_cons r0
  obtain ⟨v2, vs2, d2, ds2, p2, q2, rfl, rfl, rfl, h2, r2⟩ := trodAll_cons r1
  obtain ⟨v3, vs3, d3, ds3, p3, q3, rfl, rfl, rfl, h3, r3⟩ := trodAll_cons r2
  obtain ⟨rfl, rfl, rfl⟩ := trodAll_nil r3
  obtain rfl : args = #[v0, v1, v2, v3] := by cases args; simp_all
  obtain ⟨rfl, rfl⟩ := trodVars_none hV
  have k0 := h0
  have lt0 : ∀ x ∈ p0, x.block < W.heap.size := by obtain ⟨m, hm⟩ := k0; exact DataW.trod_lt m _ _ _ hm
  obtain ⟨o0, n0, c0, l0, rfl, w0, s0⟩ := open_extents (hval 0 22 v0 rfl rfl) h0
  obtain ⟨a1, rfl, rfl, rfl, w1⟩ := open_int Try.underlying2 (hval 1 2 v1 rfl rfl) h1
  obtain ⟨a2, rfl, rfl, rfl, w2⟩ := open_int Try.underlying2 (hval 2 2 v2 rfl rfl) h2
  obtain ⟨a3, rfl, rfl, rfl, w3⟩ := open_int Try.underlying2 (hval 3 2 v3 rfl rfl) h3
  clear hA0 hval0
  refine (ExtentReads_walk o0 n0 c0 l0 a1 a2 a3 W w0 s0 w1 w2 w3).mono fun e W' ⟨he, bel⟩ => ?_
  subst he
  exact ⟨_, rfl, _, _, _, [], _, [], hW', trodAll_mk1 (shut_bool Try.underlying4 _), (trodAll_cons_mk (Below.trod laidOut (by kernel_rfl) (of_decide_eq_true (by kernel_rfl)) k0 bel lt0) (trodAll_cons_mk (shut_int Try.underlying2 w1) (trodAll_cons_mk (shut_int Try.underlying2 w2) (trodAll_cons_mk (shut_int Try.underlying2 w3) trodAll_mk0)))), rfl, bel.frame _, fun h => by cases h⟩

/-- The given statement of ExtentReads. -/
theorem ExtentReads_holds : Rows.ExtentReadsSaid :=
  OpenClaim.holds_of_wide 3 Try.f3 rfl rfl rfl rfl rfl rfl rfl ⟨rfl, rfl, rfl, rfl, rfl⟩ rfl rfl rfl rfl rfl (by kernel_rfl) Try.func3 (by kernel_rfl)
    (of_decide_eq_true (by kernel_rfl)) (by unfold Func.isWrapper; first | (rw [if_pos (by decide +kernel)]; kernel_rfl) | (rw [if_neg (by decide +kernel)]; exact ⟨rfl, rfl⟩))
    (fun os started H enc _ => ExtentReads_lifted os started H enc)

set_option maxHeartbeats 1000000 in
theorem ExtentCuts_walk (o0 : Option Addr) (n0 c0 : Nat) (l0 : List (Int × ByteArray)) (a1 : Int) (w : World) (w0 : XS w o0 n0 c0 l0) (s0 : XFit l0) (w1 : (Lit.int .i64 a1).wf = true) :
    Calls Try.prog 5 #[.slice o0 n0 c0, .int .i64 a1] w fun e w' => e = .returned (.bool true) ∧ Below w.heap.size w w' := by
  have hP := W_hid (fun w h => Cut_any o0 n0 c0 l0 a1 w h s0 (bounds_i64 w1))
  have hR := W_hid (fun w h => rCut_any o0 n0 c0 l0 a1 w h s0 (bounds_i64 w1))
  have hQ := W_hid (fun w h => Stored_any o0 n0 c0 l0 w h s0)
  have hT := W_hid (fun w h => rStored_any o0 n0 c0 l0 w h s0)
  obtain ⟨L, hL⟩ : ∃ L, ctL l0 a1 = L := ⟨_, rfl⟩
  obtain ⟨E, hE⟩ : ∃ E, ctE l0 a1 = E := ⟨_, rfl⟩
  obtain ⟨V, hV⟩ : ∃ V, stV l0 = V := ⟨_, rfl⟩
  obtain ⟨F, hF⟩ : ∃ F, stE l0 = F := ⟨_, rfl⟩
  rw [hL, hE] at hP hR
  rw [hV, hF] at hQ hT
  have H := W_hid w0
  clear hL hE hV hF w0 w1
  go_enter Try.func5, Try.ntmps5
  go_wp2_with fail
  refine (shown_any _).mono ?_
  rintro e w1 ⟨rfl, bel1⟩
  go_wp2_with fail
  refine (hP.out _ (H.out.below bel1 (Nat.le_refl _))).mono ?_
  intro e w2 hg2
  obtain ⟨x2, c2, rfl, hown2, bel2⟩ := gave_form hg2
  have s2 := XS_own hown2
  replace bel2 := below_tr bel1 bel2
  go_wp2_with fail
  refine (hR.out _ (H.out.below bel2 (Nat.le_refl _))).mono ?_
  intro e w3 hg3
  obtain ⟨x3, c3, rfl, hown3, bel3⟩ := gave_form hg3
  have s3 := XS_own hown3
  replace s2 := s2.below bel3 (Nat.le_refl _)
  replace bel3 := below_tr bel2 bel3
  go_wp2_with fail
  refine (hQ.out _ (H.out.below bel3 (Nat.le_refl _))).mono ?_
  rintro e w4 ⟨rfl, bel4⟩
  replace s2 := s2.below bel4 (Nat.le_refl _)
  replace s3 := s3.below bel4 (Nat.le_refl _)
  replace bel4 := below_tr bel3 bel4
  go_wp2_with fail
  refine (hT.out _ (H.out.below bel4 (Nat.le_refl _))).mono ?_
  rintro e w5 ⟨rfl, bel5⟩
  replace s2 := s2.below bel5 (Nat.le_refl _)
  replace s3 := s3.below bel5 (Nat.le_refl _)
  replace bel5 := below_tr bel4 bel5
  have hS := Same_any _ _ _ _ _ _ _ _ w5 s2 s3
  rw [decide_eq_true rfl] at hS
  have hS := W_hid hS
  clear hg2 hg3 hown2 hown3
  go_wp2_with fail
  refine hS.out.mono ?_
  rintro e w6 ⟨rfl, bel6⟩
  go_wp2
  go_ret
  exact ⟨rfl, below_tr bel5 bel6⟩

set_option maxRecDepth 100000 in
theorem ExtentCuts_lifted (os : Os) (started : os.Started) (H : Type) (enc : TypeId × Value → H) :
    ReturnsInHanded {} Try.checked os 5 .any (Rows.extentCutsSpec.pre6 enc Try.prog Try.f5 Rows.extentCutsRow.domain false) (Rows.extentCutsSpec.post enc Try.prog Try.f5 false true false false) := by
  refine returnsInHanded_of_change (C := Try.checked) (by kernel_rfl) started (by kernel_rfl) Try.func5
    (ChangeSpec.witness6 (enc := enc) (C := Try.checked) false ⟨#[], #[.slice none 0 0, .int .i64 0], []⟩ 8 (by kernel_rfl) (by kernel_rfl) (by kernel_rfl) (by kernel_rfl)) ?_
  intro W base args ds gs before hval0 hW hcnd _
  have hval : ∀ (j : Nat) t v, Try.f5.params[j]? = some t → args[j]? = some v → Value.okWide Try.prog W .any base t v := hval0
  have hW' := hW
  obtain ⟨p, q, hA0, hV, rfl, hfz, hnd⟩ := hW
  have hA : DataW.TrodAll enc Try.prog W 0 (fun _ => true) true Try.f5.params.toList args.toList ds p := hA0
  rw [Try.params5] at hA hval
  obtain ⟨v0, vs0, d0, ds0, p0, q0, hargs, rfl, rfl, h0, r0⟩ := trodAll_cons hA
  obtain ⟨v1, vs1, d1, ds1, p1, q1, rfl, rfl, rfl, h1, r1⟩ := trodAll_cons r0
  obtain ⟨rfl, rfl, rfl⟩ := trodAll_nil r1
  obtain rfl : args = #[v0, v1] := by cases args; simp_all
  obtain ⟨rfl, rfl⟩ := trodVars_none hV
  have k0 := h0
  have lt0 : ∀ x ∈ p0, x.block < W.heap.size := by obtain ⟨m, hm⟩ := k0; exact DataW.trod_lt m _ _ _ hm
  obtain ⟨o0, n0, c0, l0, rfl, w0, s0⟩ := open_extents (hval 0 22 v0 rfl rfl) h0
  obtain ⟨a1, rfl, rfl, rfl, w1⟩ := open_int Try.underlying2 (hval 1 2 v1 rfl rfl) h1
  clear hA0 hval0
  refine (ExtentCuts_walk o0 n0 c0 l0 a1 W w0 s0 w1).mono fun e W' ⟨he, bel⟩ => ?_
  subst he
  exact ⟨_, rfl, _, _, _, [], _, [], hW', trodAll_mk1 (shut_bool Try.underlying4 _), (trodAll_cons_mk (Below.trod laidOut (by kernel_rfl) (of_decide_eq_true (by kernel_rfl)) k0 bel lt0) (trodAll_cons_mk (shut_int Try.underlying2 w1) trodAll_mk0)), rfl, bel.frame _, fun h => by cases h⟩

/-- The given statement of ExtentCuts. -/
theorem ExtentCuts_holds : Rows.ExtentCutsSaid :=
  OpenClaim.holds_of_wide 5 Try.f5 rfl rfl rfl rfl rfl rfl rfl ⟨rfl, rfl, rfl, rfl, rfl⟩ rfl rfl rfl rfl rfl (by kernel_rfl) Try.func5 (by kernel_rfl)
    (of_decide_eq_true (by kernel_rfl)) (by unfold Func.isWrapper; first | (rw [if_pos (by decide +kernel)]; kernel_rfl) | (rw [if_neg (by decide +kernel)]; exact ⟨rfl, rfl⟩))
    (fun os started H enc _ => ExtentCuts_lifted os started H enc)

end Go.Proofs.Ytlmkohmanfoejaa

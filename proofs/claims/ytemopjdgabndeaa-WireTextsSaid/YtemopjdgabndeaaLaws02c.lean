/- The laws of layer 2, continued: WireTexts: for every input it returns true, and its arguments read as before. No further condition. -/
import Derived.Test.YtemopjdgabndeaaLaws02b
namespace Go.Proofs.Ytemopjdgabndeaa
open Go.ChangeShapes Go.WideShapes Go.ChangeAt Go.RowKit
open Go.ChangeMaps (open_string shut_string)
set_option linter.unusedVariables false

/-- Program and document lay the same text, or none. -/
theorem both_text (ao : Option Addr) (n cap : Nat) (l : List UInt8) (s : ByteArray) (hs : s.size ≤ 2000000) (hn : n ≤ 140737488351232) : ∃ (f : Int) (lr : List UInt8),
    (∀ w, BS w ao n cap l → Calls Try.prog 12 #[.slice ao n cap, .string s] w fun e w' => ∃ a1 n1 c1, e = .returned (.tuple #[.slice a1 n1 c1, .int .i64 f]) ∧ BS w' a1 n1 c1 lr ∧ Below w.heap.size w w') ∧
    (∀ w, BS w ao n cap l → Calls Try.prog 13 #[.slice ao n cap, .string s] w fun e w' => ∃ a1 n1 c1, e = .returned (.tuple #[.slice a1 n1 c1, .int .i64 f]) ∧ BS w' a1 n1 c1 lr ∧ Below w.heap.size w w') := by
  by_cases h : s.size ≤ 1048576
  · refine ⟨0, l ++ le 4 s.size ++ s.data.toList, fun w hb => ?_, fun w hb => ?_⟩
    · refine Calls.mono (Text_fits ao n cap l s w hb h (by omega)) ?_
      rintro e w' ⟨g, rfl, hown, bel⟩
      exact ⟨_, _, _, rfl, BS_own hown, bel⟩
    · refine Calls.mono (rText_fits ao n cap l s w hb h (by omega)) ?_
      rintro e w' ⟨g, c, rfl, hown, bel⟩
      exact ⟨_, _, _, rfl, BS_own hown, bel⟩
  · refine ⟨2, [], fun w hb => ?_, fun w hb => ?_⟩
    · refine Calls.mono (Text_over ao n cap s w (by omega) (by unfold maxLen; omega)) ?_
      rintro e w' ⟨rfl, bel⟩
      exact ⟨_, _, _, rfl, BS.nil _, bel⟩
    · refine Calls.mono (rText_over ao n cap s w (by omega) (by unfold maxLen; omega)) ?_
      rintro e w' ⟨rfl, bel⟩
      exact ⟨_, _, _, rfl, BS.nil _, bel⟩

/-- Program and document read the same text at every place, within every bound. -/
theorem both_take (ao : Option Addr) (n cap : Nat) (l : List UInt8) (x most : Int) (hx : -9223372036854775808 ≤ x ∧ x ≤ 9223372036854775807) : ∃ (s : ByteArray) (p f : Int),
    (∀ w, BS w ao n cap l → Calls Try.prog 14 #[.slice ao n cap, .int .i64 x, .int .i64 most] w fun e w' => e = .returned (.tuple #[.string s, .int .i64 p, .int .i64 f]) ∧ Below w.heap.size w w') ∧
    (∀ w, BS w ao n cap l → Calls Try.prog 15 #[.slice ao n cap, .int .i64 x, .int .i64 most] w fun e w' => e = .returned (.tuple #[.string s, .int .i64 p, .int .i64 f]) ∧ Below w.heap.size w w') := by
  by_cases hyes : 0 ≤ x ∧ x + 4 ≤ (n : Int)
  · obtain ⟨y, rfl⟩ : ∃ y : Nat, x = y := ⟨x.toNat, by omega⟩
    obtain ⟨z, hz⟩ : ∃ z, num ((l.drop y).take 4) = z := ⟨_, rfl⟩
    have hzl : z < 4294967296 := by
      have h1 := num_lt ((l.drop y).take 4)
      have h2 : 256 ^ ((l.drop y).take 4).length ≤ 256 ^ 4 := Nat.pow_le_pow_right (by omega) (by rw [List.length_take]; omega)
      omega
    by_cases hmost : (z : Int) ≤ most
    · by_cases hfit : y + 4 + z ≤ n
      · exact ⟨_, _, _, fun w hb => TakeText_yes ao n cap l y z most w hb hz hzl hmost hfit, fun w hb => rTakeText_yes ao n cap l y z most w hb hz hzl hmost hfit⟩
      · exact ⟨_, _, _, fun w hb => TakeText_no3 ao n cap l y z most w hb (by omega) hz hzl hmost (by omega), fun w hb => rTakeText_no3 ao n cap l y z most w hb (by omega) hz hzl hmost (by omega)⟩
    · exact ⟨_, _, _, fun w hb => TakeText_no2 ao n cap l y z most w hb (by omega) hz hzl (by omega), fun w hb => rTakeText_no2 ao n cap l y z most w hb (by omega) hz hzl (by omega)⟩
  · exact ⟨_, _, _, fun w hb => TakeText_no1 ao n cap l x most w hb hx.1 hx.2 (by omega), fun w hb => rTakeText_no1 ao n cap l x most w hb (by omega)⟩

set_option maxHeartbeats 1000000 in
theorem WireTexts_walk (a0 : Option Addr) (len0 cap0 : Nat) (z0 : List Int) (a1 : ByteArray) (a2 a3 : Int) (w : World) (w0 : IsRow .u8 w a0 len0 cap0 z0) (w1 : a1.size ≤ maxLen) (w2 : (Lit.int .i64 a2).wf = true) (w3 : (Lit.int .i64 a3).wf = true) (s0 : cap0 * 1 ≤ 140737488351232) (s1 : a1.size ≤ 140737488351232) :
    Calls Try.prog 4 #[.slice a0 len0 cap0, .string a1, .int .i64 a2, .int .i64 a3] w fun e w' => e = .returned (.bool true) ∧ Below w.heap.size w w' := by
  obtain ⟨l, hb⟩ := bytes_of_row w0
  have hcap := hb.2.1
  have hn : len0 ≤ 140737488351232 := by omega
  obtain ⟨str, p, f, hT, hR⟩ := both_take a0 len0 cap0 l a2 a3 (bounds_i64 w2)
  clear w0 w1 w2 w3 s0
  by_cases hlong : a1.size ≤ 2000000
  · obtain ⟨g, lr, hP, hQ⟩ := both_text a0 len0 cap0 l a1 hlong hn
    go_enter Try.func4, Try.ntmps4
    go_wp2_with fail
    refine (head_text w).mono ?_
    rintro e w1 ⟨g1, rfl, _, hh1, bel1⟩
    have hb1 := hb.below bel1 (Nat.le_refl _)
    go_wp2_with fail
    refine (hP w1 hb1).mono ?_
    rintro e w2 ⟨b2, n2, c2, rfl, hb2, bel2⟩
    go_wp2_with fail
    refine (hQ w2 (hb1.below bel2 (Nat.le_refl _))).mono ?_
    rintro e w3 ⟨b3, n3, c3, rfl, hb3, bel3⟩
    have bel13 := bel2.trans (bel3.mono bel2.size)
    go_wp2_with fail
    refine (hT w3 (hb1.below bel13 (Nat.le_refl _))).mono ?_
    rintro e w4 ⟨rfl, bel4⟩
    have bel14 := bel13.trans (bel4.mono bel13.size)
    go_wp2_with fail
    refine (hR w4 (hb1.below bel14 (Nat.le_refl _))).mono ?_
    rintro e w5 ⟨rfl, bel5⟩
    have bel15 := bel14.trans (bel5.mono bel14.size)
    have c1 : (convert 22 9 (.slice (some ⟨g1, 0, none⟩) 6 6)).run Try.prog w5 = .ok (.string { data := #[2, 0, 0, 0, 97, 98] }) w5 := conv_bs (hh1.below bel15 (Nat.le_refl _))
    have c2 := conv_bs ((hb2.below bel3 (Nat.le_refl _)).below (bel4.trans (bel5.mono bel4.size)) (Nat.le_refl _))
    have c3 := conv_bs (hb3.below (bel4.trans (bel5.mono bel4.size)) (Nat.le_refl _))
    go_wp2_with fail
    go_ret
    exact ⟨rfl, bel1.trans (bel15.mono bel1.size)⟩
  · obtain ⟨s, hs⟩ : ∃ s, s = a1.extract 0 2000000 := ⟨_, rfl⟩
    have hss : s.size ≤ 2000000 := by rw [hs, extract_size a1 2000000 (by omega)]; exact Nat.le_refl _
    obtain ⟨g, lr, hP, hQ⟩ := both_text a0 len0 cap0 l s hss hn
    have Hs : Hid _ := hs
    clear hs
    go_enter Try.func4, Try.ntmps4
    go_wp2_with fail
    refine (head_text w).mono ?_
    rintro e w1 ⟨g1, rfl, _, hh1, bel1⟩
    have hb1 := hb.below bel1 (Nat.le_refl _)
    go_wp2_with fail
    rw [← Hs.out]
    refine (hP w1 hb1).mono ?_
    rintro e w2 ⟨b2, n2, c2, rfl, hb2, bel2⟩
    go_wp2_with fail
    refine (hQ w2 (hb1.below bel2 (Nat.le_refl _))).mono ?_
    rintro e w3 ⟨b3, n3, c3, rfl, hb3, bel3⟩
    have bel13 := bel2.trans (bel3.mono bel2.size)
    go_wp2_with fail
    refine (hT w3 (hb1.below bel13 (Nat.le_refl _))).mono ?_
    rintro e w4 ⟨rfl, bel4⟩
    have bel14 := bel13.trans (bel4.mono bel13.size)
    go_wp2_with fail
    refine (hR w4 (hb1.below bel14 (Nat.le_refl _))).mono ?_
    rintro e w5 ⟨rfl, bel5⟩
    have bel15 := bel14.trans (bel5.mono bel14.size)
    have c1 : (convert 22 9 (.slice (some ⟨g1, 0, none⟩) 6 6)).run Try.prog w5 = .ok (.string { data := #[2, 0, 0, 0, 97, 98] }) w5 := conv_bs (hh1.below bel15 (Nat.le_refl _))
    have c2 := conv_bs ((hb2.below bel3 (Nat.le_refl _)).below (bel4.trans (bel5.mono bel4.size)) (Nat.le_refl _))
    have c3 := conv_bs (hb3.below (bel4.trans (bel5.mono bel4.size)) (Nat.le_refl _))
    go_wp2_with fail
    go_ret
    exact ⟨rfl, bel1.trans (bel15.mono bel1.size)⟩

set_option maxRecDepth 100000 in
theorem WireTexts_lifted (os : Os) (started : os.Started) (H : Type) (enc : TypeId × Value → H) :
    ReturnsInHanded {} Try.checked os 4 .any (Rows.wireTextsSpec.pre6 enc Try.prog Try.f4 Rows.wireTextsRow.domain false) (Rows.wireTextsSpec.post enc Try.prog Try.f4 false true false false) := by
  refine returnsInHanded_of_change_sized (C := Try.checked) (by kernel_rfl) started (by kernel_rfl) Try.func4
    (ChangeSpec.witness6 (enc := enc) (C := Try.checked) false ⟨#[], #[.slice none 0 0, .string ByteArray.empty, .int .i64 0, .int .i64 0], []⟩ 8 (by kernel_rfl) (by kernel_rfl) (by kernel_rfl) (by kernel_rfl)) ?_
  intro W base args ds gs before hval0 hW hcnd hsz0 _
  have hsz : (DataW.weightsEach Try.prog (Try.f4.params.toList ++ Rows.wireTextsSpec.plain.varTypes Try.prog) (ds ++ gs)).all (· ≤ reachBytes) = true := hsz0
  clear hsz0
  have hval : ∀ (j : Nat) t v, Try.f4.params[j]? = some t → args[j]? = some v → Value.okWide Try.prog W .any base t v := hval0
  have hW' := hW
  obtain ⟨p, q, hA0, hV, rfl, hfz, hnd⟩ := hW
  have hA : DataW.TrodAll enc Try.prog W 0 (fun _ => true) true Try.f4.params.toList args.toList ds p := hA0
  rw [Try.params4] at hA hval hsz
  obtain ⟨v0, vs0, d0, ds0, p0, q0, hargs, rfl, rfl, h0, r0⟩ := trodAll_cons hA
  obtain ⟨v1, vs1, d1, ds1, p1, q1, rfl, rfl, rfl, h1, r1⟩ := trodAll_cons r0
  obtain ⟨v2, vs2, d2, ds2, p2, q2, rfl, rfl, rfl, h2, r2⟩ := trodAll_cons r1
  obtain ⟨v3, vs3, d3, ds3, p3, q3, rfl, rfl, rfl, h3, r3⟩ := trodAll_cons r2
  obtain ⟨rfl, rfl, rfl⟩ := trodAll_nil r3
  obtain rfl : args = #[v0, v1, v2, v3] := by cases args; simp_all
  obtain ⟨rfl, rfl⟩ := trodVars_none hV
  obtain ⟨a0, len0, cap0, rfl⟩ := okWide_slice Try.underlying22 (hval 0 22 v0 rfl rfl)
  have k0 := h0
  have lt0 : ∀ x ∈ p0, x.block < W.heap.size := by obtain ⟨m, hm⟩ := k0; exact DataW.trod_lt m _ _ _ hm
  obtain ⟨z0, w0, s0⟩ : ∃ zs, IsRow .u8 W a0 len0 cap0 zs ∧ cap0 * 1 ≤ 140737488351232 := by
    obtain ⟨fuel, hf⟩ := h0
    rcases open_ints Try.underlying22 Try.underlying5 (by kernel_rfl) hf with ⟨hcs, _⟩ | ⟨x, l, c, zs, hcs, _, hl, hm, hz, hx, hcell, hwz⟩
    · simp [Value.cells] at hcs
      obtain ⟨rfl, rfl, rfl⟩ := hcs
      exact ⟨[], .inl ⟨rfl, rfl, rfl, rfl⟩, by simp⟩
    · simp [Value.cells] at hcs
      obtain ⟨rfl, rfl, rfl⟩ := hcs
      have hs := sized_slice hsz (j := 0) (t := 22) (e := 5) rfl (congrArg some (Prod.mk.inj hx).1) Try.underlying22
      rw [show Try.prog.bytesOf 5 = 1 from by kernel_rfl] at hs
      have hz2 : zs.length = cap0 := by simpa using hz
      simp only [lits, List.length_map, List.length_take, List.length_drop, reachBytes] at hs
      exact ⟨zs, .inr ⟨_, rfl, hl, hm, hz2, hcell, hwz⟩, by omega⟩
  obtain ⟨a1, rfl, rfl, rfl, w1⟩ := open_string Try.underlying9 (hval 1 9 v1 rfl rfl) h1
  have s1 : a1.size ≤ 140737488351232 := by
    have := sized_string hsz (j := 1) (t := 9) rfl rfl
    simp only [Array.length_toList, reachBytes] at this; exact this
  obtain ⟨a2, rfl, rfl, rfl, w2⟩ := open_int Try.underlying3 (hval 2 3 v2 rfl rfl) h2
  obtain ⟨a3, rfl, rfl, rfl, w3⟩ := open_int Try.underlying3 (hval 3 3 v3 rfl rfl) h3
  clear hA0 hval0
  refine (WireTexts_walk a0 len0 cap0 z0 a1 a2 a3 W w0 w1 w2 w3 s0 s1).mono fun e W' ⟨he, bel⟩ => ?_
  subst he
  exact ⟨_, rfl, _, _, _, [], _, [], hW', trodAll_mk1 (shut_bool Try.underlying4 _), (trodAll_cons_mk (Below.trod laidOut (by kernel_rfl) (of_decide_eq_true (by kernel_rfl)) k0 bel lt0) (trodAll_cons_mk (shut_string Try.underlying9 w1) (trodAll_cons_mk (shut_int Try.underlying3 w2) (trodAll_cons_mk (shut_int Try.underlying3 w3) trodAll_mk0)))), rfl, bel.frame _, fun h => by cases h⟩

/-- The given statement of WireTexts. -/
theorem WireTexts_holds : Rows.WireTextsSaid :=
  OpenClaim.holds_of_wide 4 Try.f4 rfl rfl rfl rfl rfl rfl rfl ⟨rfl, rfl, rfl, rfl, rfl⟩ rfl rfl rfl rfl rfl (by kernel_rfl) Try.func4 (by kernel_rfl)
    (of_decide_eq_true (by kernel_rfl)) (by unfold Func.isWrapper; first | (rw [if_pos (by decide +kernel)]; kernel_rfl) | (rw [if_neg (by decide +kernel)]; exact ⟨rfl, rfl⟩))
    (fun os started H enc _ => WireTexts_lifted os started H enc)

end Go.Proofs.Ytemopjdgabndeaa

/- The laws of layer 2, continued: WireShort: for every input it returns true, and its arguments read as before. No further condition. -/
import Derived.Test.YtemopjdgabndeaaLaws02
namespace Go.Proofs.Ytemopjdgabndeaa
open Go.ChangeShapes Go.WideShapes Go.ChangeAt Go.RowKit
open Go.ChangeMaps (open_string shut_string)
set_option linter.unusedVariables false

/-- The law of a cut 'x[:hi]' for the walk, the address left open. -/
theorem wpList_cut0 {P : Program} {w : World} {ops : Array Oper} {rest : List Oper} {o : Oper} {a : Act} {Q : Exit → Act → World → Prop} (hg : o.guard = none) (x hi : Operand) (t : TypeId) (hop : o.op = Op.slice t x none (some hi) none)
    (ht : P.underlying t = some (.slice (P.elem t))) (hs : (sizeOf (P.elem t)).run P w = .ok 1 w)
    (ao : Option Addr) (n cap : Nat) (l : List UInt8) (hx : a.eval x = .slice ao n cap) (hb : BS w ao n cap l) (kh : IntKind) (H : Nat) (hh : a.eval hi = .int kh H) (h2 : H ≤ n)
    (hK : ∀ ao', BS w ao' H cap (l.take H) → wpList P ops Q rest (a.put o.dst (.slice ao' H cap)) w) :
    wpList P ops Q (o :: rest) a w := by
  refine wpList_plain hg fun K hK' => ?_
  have hcap := hb.2.1
  have hrun := run_slice_h (P := P) w t ao n cap ht kh (H : Int) (by omega) (by omega)
  rw [hs] at hrun
  simp only [Result.andThen, sliced, Int.toNat_natCast] at hrun
  have hrun2 : (Instr.sliceAt t (.slice ao n cap) none (some (.int kh (H : Int))) none).run P w = .ok (.slice (if cap = 0 then ao else ao.map (·.add (0 * 1))) (H - 0) (cap - 0)) w := by
    rw [run_sliceAt_slice (P := P) w t _ _ _ _ ht]; exact hrun
  unfold Oper.wp
  simp only [execOp, hop, hx, hh, Option.map_some, Option.map_none, hrun2, Sem.run_bind, Sem.run_pure, Result.andThen, Oper.upon]
  exact hK' _ _ (hK _ (by simpa using hb.cut (Nat.zero_le H) h2))

theorem head_text (w : World) : Calls Try.prog 12 #[.slice none 0 0, .string { data := #[97, 98] }] w fun e w' => ∃ g, e = .returned (.tuple #[.slice (some ⟨g, 0, none⟩) 6 6, .int .i64 0]) ∧
    (convert 22 9 (.slice (some ⟨g, 0, none⟩) 6 6)).run Try.prog w' = .ok (.string { data := #[2, 0, 0, 0, 97, 98] }) w' ∧ BS w' (some ⟨g, 0, none⟩) 6 6 [2, 0, 0, 0, 97, 98] ∧ Below w.heap.size w w' := by
  have h := Text_fits none 0 0 [] { data := #[97, 98] } w (BS.nil w) (by decide) (by decide)
  refine Calls.mono h ?_
  rintro e w' ⟨g, rfl, hown, bel⟩
  exact ⟨g, rfl, conv_own hown, BS_own hown, bel⟩

/-- What the program lays of a short text, and of a number, behind nothing. -/
theorem text_nil (s : ByteArray) (hs : s.size ≤ 1048576) (w : World) : Calls Try.prog 12 #[.slice none 0 0, .string s] w fun e w' => ∃ g, e = .returned (.tuple #[.slice (some ⟨g, 0, none⟩) (4 + s.size) (4 + s.size), .int .i64 0]) ∧
    BS w' (some ⟨g, 0, none⟩) (4 + s.size) (4 + s.size) (le 4 s.size ++ s.data.toList) ∧ Below w.heap.size w w' := by
  have h := Text_fits none 0 0 [] s w (BS.nil w) hs (by omega)
  simp only [Nat.zero_add, List.nil_append] at h
  refine Calls.mono h ?_
  rintro e w' ⟨g, rfl, hown, bel⟩
  exact ⟨g, rfl, BS_own hown, bel⟩
theorem number_nil (k : Nat) (hk : k < 18446744073709551616) (w : World) : Calls Try.prog 8 #[.slice none 0 0, .int .u64 k] w fun e w' => ∃ g, e = .returned (.slice (some ⟨g, 0, none⟩) 8 8) ∧
    BS w' (some ⟨g, 0, none⟩) 8 8 (le 8 k) ∧ Below w.heap.size w w' := by
  have h := Number_any none 0 0 [] k hk w (BS.nil w) (by decide)
  refine Calls.mono h ?_
  rintro e w' ⟨g, rfl, hown, bel⟩
  exact ⟨g, rfl, BS_own hown, bel⟩

/-- No beginning of a text's bytes is taken as one. -/
theorem short_text (s : ByteArray) (hs : s.size ≤ 1000) (x : Nat) (hx : x < 4 + s.size) (ao : Option Addr) (cap : Nat) (w : World) (hb : BS w ao x cap ((le 4 s.size ++ s.data.toList).take x)) :
    Calls Try.prog 14 #[.slice ao x cap, .int .i64 0, .int .i64 2000] w fun e w' => e = .returned (.tuple #[.string ByteArray.empty, .int .i64 0, .int .i64 100]) ∧ Below w.heap.size w w' := by
  by_cases h4 : x < 4
  · exact TakeText_no1 ao x cap _ 0 2000 w hb (by omega) (by omega) (by omega)
  · have hz : num ((((le 4 s.size ++ s.data.toList).take x).drop 0).take 4) = s.size := by
      rw [List.drop_zero, List.take_take, Nat.min_eq_left (by omega), List.take_append_of_le_length (by rw [le_length]; exact Nat.le_refl _), List.take_of_length_le (by rw [le_length]; exact Nat.le_refl _)]
      exact num_le_eq 4 _ (by omega)
    exact TakeText_no3 ao x cap _ 0 s.size 2000 w hb (by omega) hz (by omega) (by omega) (by omega)
theorem short_number (l : List UInt8) (x : Nat) (hx : x < 8) (ao : Option Addr) (cap : Nat) (w : World) (hb : BS w ao x cap l) :
    Calls Try.prog 9 #[.slice ao x cap, .int .i64 0] w fun e w' => e = .returned (.tuple #[.int .u64 0, .int .i64 0, .int .i64 100]) ∧ Below w.heap.size w w' :=
  TakeNumber_no ao x cap l 0 w hb (by omega) (by omega) (by omega)

theorem extract_size (s : ByteArray) (n : Nat) (h : n ≤ s.size) : (s.extract 0 n).size = n := by simp [ByteArray.size_extract]; omega

set_option maxHeartbeats 1000000 in
theorem WireShort_walk (a0 : ByteArray) (a1 a2 : Int) (w : World) (w0 : a0.size ≤ maxLen) (w1 : (Lit.int .u64 a1).wf = true) (w2 : (Lit.int .i64 a2).wf = true) :
    Calls Try.prog 7 #[.string a0, .int .u64 a1, .int .i64 a2] w fun e w' => e = .returned (.bool true) ∧ Below w.heap.size w w' := by
  obtain ⟨k, rfl, hk⟩ := nat_u64 w1
  have hx := bounds_i64 w2
  have hsz : a0.size ≤ 9223372036854775807 := by unfold maxLen at w0; exact w0
  clear w0 w1 w2
  by_cases hlong : a0.size ≤ 1000
  · go_enter Try.func7, Try.ntmps7
    go_wp2_with fail
    refine (head_text w).mono ?_
    rintro e w1 ⟨g1, rfl, _, _, bel1⟩
    go_wp2_with fail
    refine (text_nil a0 (by omega) w1).mono ?_
    rintro e w2 ⟨g2, rfl, hb2, bel2⟩
    go_wp2_with fail
    refine (number_nil k hk w2).mono ?_
    rintro e w3 ⟨g3, rfl, hb3, bel3⟩
    have bel03 := (bel1.trans (bel2.mono bel1.size)).trans (bel3.mono (Nat.le_trans bel1.size bel2.size))
    rcases (by omega : (a2 < 0 ∨ 4 + (a0.size : Int) ≤ a2) ∨ (0 ≤ a2 ∧ a2 < 4 + (a0.size : Int))) with hout | hin
    · rcases hout with hout | hout
      · go_wp2_with fail
        go_ret
        exact ⟨rfl, bel03⟩
      · go_wp2_with fail
        go_ret
        exact ⟨rfl, bel03⟩
    · obtain ⟨x, rfl⟩ : ∃ x : Nat, a2 = x := ⟨a2.toNat, by omega⟩
      have hb23 := hb2.below bel3 (Nat.le_refl _)
      go_wp2_with (with_reducible show wpList _ _ _ _ _ _; (refine wpList_cut0 rfl (.tmp 67) (.tmp 68) 22 rfl u8_slice (u8_size _) _ (4 + a0.size) (4 + a0.size) _ rfl hb23 .i64 x rfl (by omega) ?_); intro ao4 hb4)
      refine (short_text a0 (by omega) x (by omega) ao4 _ w3 hb4).mono ?_
      rintro e w4 ⟨rfl, bel4⟩
      have hb34 := hb3.below bel4 (Nat.le_refl _)
      have bel04 := bel03.trans (bel4.mono bel03.size)
      by_cases h7 : x ≤ 7
      · go_wp2_with (with_reducible show wpList _ _ _ _ _ _; (refine wpList_cut0 rfl (.tmp 75) (.tmp 77) 22 rfl u8_slice (u8_size _) _ 8 8 _ rfl hb34 .i64 x rfl (by omega) ?_); intro ao5 hb5)
        refine (short_number _ x (by omega) ao5 8 w4 hb5).mono ?_
        rintro e w5 ⟨rfl, bel5⟩
        go_wp2_with fail
        go_ret
        exact ⟨rfl, bel04.trans (bel5.mono bel04.size)⟩
      · go_wp2_with (with_reducible show wpList _ _ _ _ _ _; (refine wpList_cut0 rfl (.tmp 75) (.tmp 77) 22 rfl u8_slice (u8_size _) _ 8 8 _ rfl hb34 .i64 7 (by simp [Act.eval] <;> omega) (by omega) ?_); intro ao5 hb5)
        refine (short_number _ 7 (by omega) ao5 8 w4 hb5).mono ?_
        rintro e w5 ⟨rfl, bel5⟩
        go_wp2_with fail
        go_ret
        exact ⟨rfl, bel04.trans (bel5.mono bel04.size)⟩
  · obtain ⟨s, hs⟩ : ∃ s, s = a0.extract 0 1000 := ⟨_, rfl⟩
    have hss : s.size = 1000 := by rw [hs]; exact extract_size a0 1000 (by omega)
    have hss2 : s.size ≤ 1000 := by omega
    have Hs : Hid _ := hs
    clear hs hss
    go_enter Try.func7, Try.ntmps7
    go_wp2_with fail
    refine (head_text w).mono ?_
    rintro e w1 ⟨g1, rfl, _, _, bel1⟩
    go_wp2_with fail
    rw [← Hs.out]
    refine (text_nil s (by omega) w1).mono ?_
    rintro e w2 ⟨g2, rfl, hb2, bel2⟩
    go_wp2_with fail
    refine (number_nil k hk w2).mono ?_
    rintro e w3 ⟨g3, rfl, hb3, bel3⟩
    have bel03 := (bel1.trans (bel2.mono bel1.size)).trans (bel3.mono (Nat.le_trans bel1.size bel2.size))
    rcases (by omega : (a2 < 0 ∨ 4 + (s.size : Int) ≤ a2) ∨ (0 ≤ a2 ∧ a2 < 4 + (s.size : Int))) with hout | hin
    · rcases hout with hout | hout
      · go_wp2_with fail
        go_ret
        exact ⟨rfl, bel03⟩
      · go_wp2_with fail
        go_ret
        exact ⟨rfl, bel03⟩
    · obtain ⟨x, rfl⟩ : ∃ x : Nat, a2 = x := ⟨a2.toNat, by omega⟩
      have hb23 := hb2.below bel3 (Nat.le_refl _)
      go_wp2_with (with_reducible show wpList _ _ _ _ _ _; (refine wpList_cut0 rfl (.tmp 67) (.tmp 68) 22 rfl u8_slice (u8_size _) _ (4 + s.size) (4 + s.size) _ rfl hb23 .i64 x rfl (by omega) ?_); intro ao4 hb4)
      refine (short_text s (by omega) x (by omega) ao4 _ w3 hb4).mono ?_
      rintro e w4 ⟨rfl, bel4⟩
      have hb34 := hb3.below bel4 (Nat.le_refl _)
      have bel04 := bel03.trans (bel4.mono bel03.size)
      by_cases h7 : x ≤ 7
      · go_wp2_with (with_reducible show wpList _ _ _ _ _ _; (refine wpList_cut0 rfl (.tmp 75) (.tmp 77) 22 rfl u8_slice (u8_size _) _ 8 8 _ rfl hb34 .i64 x rfl (by omega) ?_); intro ao5 hb5)
        refine (short_number _ x (by omega) ao5 8 w4 hb5).mono ?_
        rintro e w5 ⟨rfl, bel5⟩
        go_wp2_with fail
        go_ret
        exact ⟨rfl, bel04.trans (bel5.mono bel04.size)⟩
      · go_wp2_with (with_reducible show wpList _ _ _ _ _ _; (refine wpList_cut0 rfl (.tmp 75) (.tmp 77) 22 rfl u8_slice (u8_size _) _ 8 8 _ rfl hb34 .i64 7 (by simp [Act.eval] <;> omega) (by omega) ?_); intro ao5 hb5)
        refine (short_number _ 7 (by omega) ao5 8 w4 hb5).mono ?_
        rintro e w5 ⟨rfl, bel5⟩
        go_wp2_with fail
        go_ret
        exact ⟨rfl, bel04.trans (bel5.mono bel04.size)⟩

set_option maxRecDepth 100000 in
theorem WireShort_lifted (os : Os) (started : os.Started) (H : Type) (enc : TypeId × Value → H) :
    ReturnsInHanded {} Try.checked os 7 .any (Rows.wireShortSpec.pre6 enc Try.prog Try.f7 Rows.wireShortRow.domain false) (Rows.wireShortSpec.post enc Try.prog Try.f7 false true false false) := by
  refine returnsInHanded_of_change (C := Try.checked) (by kernel_rfl) started (by kernel_rfl) Try.func7
    (ChangeSpec.witness6 (enc := enc) (C := Try.checked) false ⟨#[], #[.string ByteArray.empty, .int .u64 0, .int .i64 0], []⟩ 8 (by kernel_rfl) (by kernel_rfl) (by kernel_rfl) (by kernel_rfl)) ?_
  intro W base args ds gs before hval0 hW hcnd _
  have hval : ∀ (j : Nat) t v, Try.f7.params[j]? = some t → args[j]? = some v → Value.okWide Try.prog W .any base t v := hval0
  have hW' := hW
  obtain ⟨p, q, hA0, hV, rfl, hfz, hnd⟩ := hW
  have hA : DataW.TrodAll enc Try.prog W 0 (fun _ => true) true Try.f7.params.toList args.toList ds p := hA0
  rw [Try.params7] at hA hval
  obtain ⟨v0, vs0, d0, ds0, p0, q0, hargs, rfl, rfl, h0, r0⟩ := trodAll_cons hA
  obtain ⟨v1, vs1, d1, ds1, p1, q1, rfl, rfl, rfl, h1, r1⟩ := trodAll_cons r0
  obtain ⟨v2, vs2, d2, ds2, p2, q2, rfl, rfl, rfl, h2, r2⟩ := trodAll_cons r1
  obtain ⟨rfl, rfl, rfl⟩ := trodAll_nil r2
  obtain rfl : args = #[v0, v1, v2] := by cases args; simp_all
  obtain ⟨rfl, rfl⟩ := trodVars_none hV
  obtain ⟨a0, rfl, rfl, rfl, w0⟩ := open_string Try.underlying9 (hval 0 9 v0 rfl rfl) h0
  obtain ⟨a1, rfl, rfl, rfl, w1⟩ := open_int Try.underlying23 (hval 1 23 v1 rfl rfl) h1
  obtain ⟨a2, rfl, rfl, rfl, w2⟩ := open_int Try.underlying3 (hval 2 3 v2 rfl rfl) h2
  clear hA0 hval0
  refine (WireShort_walk a0 a1 a2 W w0 w1 w2).mono fun e W' ⟨he, bel⟩ => ?_
  subst he
  exact ⟨_, rfl, _, _, _, [], _, [], hW', trodAll_mk1 (shut_bool Try.underlying4 _), (trodAll_cons_mk (shut_string Try.underlying9 w0) (trodAll_cons_mk (shut_int Try.underlying23 w1) (trodAll_cons_mk (shut_int Try.underlying3 w2) trodAll_mk0))), rfl, bel.frame _, fun h => by cases h⟩

/-- The given statement of WireShort. -/
theorem WireShort_holds : Rows.WireShortSaid :=
  OpenClaim.holds_of_wide 7 Try.f7 rfl rfl rfl rfl rfl rfl rfl ⟨rfl, rfl, rfl, rfl, rfl⟩ rfl rfl rfl rfl rfl (by kernel_rfl) Try.func7 (by kernel_rfl)
    (of_decide_eq_true (by kernel_rfl)) (by unfold Func.isWrapper; first | (rw [if_pos (by decide +kernel)]; kernel_rfl) | (rw [if_neg (by decide +kernel)]; exact ⟨rfl, rfl⟩))
    (fun os started H enc _ => WireShort_lifted os started H enc)

end Go.Proofs.Ytemopjdgabndeaa

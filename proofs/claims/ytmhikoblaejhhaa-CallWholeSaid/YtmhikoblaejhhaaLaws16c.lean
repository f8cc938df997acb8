/- The laws of layer 16, continued: CallWhole: for every input it returns true, and its arguments read as before. No further condition. -/
import Derived.Test.YtmhikoblaejhhaaLaws16b
namespace Go.Proofs.Ytmhikoblaejhhaa
open Go.ChangeShapes Go.WideShapes Go.ChangeAt Go.RowKit Go.Maps
open Go.ChangeMaps (open_string shut_string)
set_option linter.unusedVariables false
set_option linter.unusedSimpArgs false
set_option maxRecDepth 100000
open CA

theorem cat_list (s t : ByteArray) : (s ++ t).data.toList = s.data.toList ++ t.data.toList := by simp [ByteArray.data_append]
theorem cut_list (s : ByteArray) (j : Nat) : (s.extract 0 j).data.toList = s.data.toList.take j := by simp [ByteArray.data_extract]

set_option maxRecDepth 100000 in
set_option maxHeartbeats 4000000 in
theorem CallWhole_walk (a b c d : Int) (s t : ByteArray) (at_ : Int) (p : ByteArray) (w : World) (hf : CFit a b c d s t) (w1 : (Lit.int .i64 at_).wf = true) (w2 : p.size ≤ maxLen) (s2 : p.size ≤ 140737488351232) :
    Calls Try.prog 7 #[.agg (cl a b c d s t).toArray, .int .i64 at_, .string p] w fun e w' => e = .returned (.bool true) ∧ Below w.heap.size w w' := by
  obtain ⟨⟨i0, i1⟩, -, -, -, m0, m1⟩ := hf
  have hat := j64_of w1
  have hE := fun W => Enc_any a b c d s t i0 i1 m0 m1 W
  have hB : Blk (w.alloc (.cells (cl a b c d s t).toArray 25)) w.heap.size 25 (cl a b c d s t) := Blk.new w _ _ rfl
  have bb : Below w.heap.size w (w.alloc (.cells (cl a b c d s t).toArray 25)) := (Below.refl _ _).alloc (Nat.le_refl _) _
  by_cases h0 : encE a [b, c, d] [s, t] = 0
  · have hF : (encS a [b, c, d] [s, t]).size ≤ 8192 := by
      obtain ⟨x, hx, hs, hl, hb, he⟩ := enc_yes h0
      rw [he, strOf_size, List.length_append, le_length]; exact hl
    have hbeh : ∀ u : ByteArray, p.toList ≠ [] → u = encS a [b, c, d] [s, t] ++ p → decQ u = (2, zc) := fun u hp hu => by
      refine enc_behind h0 u p.data.toList (by rw [ByteArray.toList_eq] at hp; exact hp) ?_
      rw [hu, cat_list]
    have hah : ∀ (u : ByteArray) (j : Nat), j < (encS a [b, c, d] [s, t]).size → u = (encS a [b, c, d] [s, t]).extract 0 j → decQ u = (2, zc) := fun u j hj hu => by
      refine enc_ahead h0 u j hj ?_
      rw [hu, cut_list]
    rw [h0] at hE
    generalize encS a [b, c, d] [s, t] = F at hE hF hbeh hah
    obtain ⟨U, hU⟩ : ∃ U, F ++ p = U := ⟨_, rfl⟩
    have hUs : U.size = F.size + p.size := by rw [← hU]; exact ByteArray.size_append
    obtain ⟨E, xa, xb, xc, xd, xu, xv, hq⟩ := decQ_cl U
    have hD := fun W => Dec_any U (by unfold maxLen; omega) W
    rw [hq] at hD
    have hE2 : p.toList ≠ [] → E = 2 := fun hp => by
      have := hbeh U hp hU.symm
      rw [hq] at this
      exact (Prod.mk.inj this).1
    unfold cl at *
    replace hE := W_hid hE
    replace hD := W_hid hD
    replace hB := W_hid hB
    replace bb := W_hid bb
    replace hbeh := W_hid hbeh
    replace hah := W_hid hah
    replace hE2 := W_hid hE2
    replace hU := W_hid hU
    clear hq hUs h0
    go_enter Try.func7, Try.ntmps7
    go_wp2_with fail
    refine (shown16 _).mono ?_
    rintro e w1 ⟨rfl, bel1⟩
    replace hB := W_hid (hB.out.keep bel1)
    replace bb := W_hid (bb.out.trans (bel1.mono bb.out.size))
    have c0 := hB.out.cell (j := 0) rfl
    have c1 := hB.out.cell (j := 1) rfl
    have c2 := hB.out.cell (j := 2) rfl
    have c3 := hB.out.cell (j := 3) rfl
    have c4 := hB.out.cell (j := 4) rfl
    have c5 := hB.out.cell (j := 5) rfl
    clear bel1
    go_wp2_with fail
    refine (hE.out _).mono ?_
    rintro e w2 ⟨rfl, bel2⟩
    replace bb := W_hid (bb.out.trans (bel2.mono bb.out.size))
    clear c0 c1 c2 c3 c4 c5 bel2 hB
    go_wp2_with fail
    rw [hU.out]
    refine (hD.out _).mono ?_
    rintro e w3 ⟨rfl, bel3⟩
    have b3 := bb.out.trans (bel3.mono bb.out.size)
    replace b3 := W_hid (b3.alloc b3.size (.cells #[.int .i64 xa, .int .i64 xb, .int .i64 xc, .int .i64 xd, .string xu, .string xv] 25))
    clear bel3 bb
    by_cases hp : p.toList = []
    · have hp2 : p.toList.isEmpty = true := by rw [hp]; rfl
      replace hp := hp
      clear hbeh hE2
      rcases (by omega : (at_ < 0 ∨ (F.size : Int) ≤ at_) ∨ (0 ≤ at_ ∧ at_ < (F.size : Int))) with hout | hin
      · rcases hout with ho | ho
        · go_wp2_with fail
          go_ret
          exact ⟨rfl, b3.out⟩
        · go_wp2_with fail
          go_ret
          exact ⟨rfl, b3.out⟩
      · obtain ⟨j, rfl⟩ : ∃ j : Nat, at_ = j := ⟨at_.toNat, by omega⟩
        have hj : j < F.size := by omega
        have hA := hah.out (F.extract 0 j) j hj rfl
        have hsz : (F.extract 0 j).size ≤ maxLen := by rw [ByteArray.size_extract]; unfold maxLen; omega
        have hD2 := fun W => Dec_any (F.extract 0 j) hsz W
        rw [hA] at hD2
        generalize hG : F.extract 0 j = G at hD2
        replace hG := W_hid hG
        replace hD2 := W_hid hD2
        clear hA hsz
        go_wp2_with fail
        rw [hG.out]
        refine (hD2.out _).mono ?_
        rintro e w4 ⟨rfl, bel4⟩
        have b4 := b3.out.trans (bel4.mono b3.out.size)
        replace b4 := W_hid (b4.alloc b4.size (.cells #[.int .i64 0, .int .i64 0, .int .i64 0, .int .i64 0, .string { data := #[] }, .string { data := #[] }] 25))
        clear bel4
        unfold zc cl
        go_wp2_with fail
        go_ret
        exact ⟨rfl, b4.out⟩
    · have hp2 : p.toList.isEmpty = false := by simpa using hp
      have hp3 : (p.toList = []) = False := by simpa using hp
      obtain rfl := hE2.out hp
      clear hbeh hE2 hp
      rcases (by omega : (at_ < 0 ∨ (F.size : Int) ≤ at_) ∨ (0 ≤ at_ ∧ at_ < (F.size : Int))) with hout | hin
      · rcases hout with ho | ho
        · go_wp2_with fail
          go_ret
          exact ⟨rfl, b3.out⟩
        · go_wp2_with fail
          go_ret
          exact ⟨rfl, b3.out⟩
      · obtain ⟨j, rfl⟩ : ∃ j : Nat, at_ = j := ⟨at_.toNat, by omega⟩
        have hj : j < F.size := by omega
        have hA := hah.out (F.extract 0 j) j hj rfl
        have hsz : (F.extract 0 j).size ≤ maxLen := by rw [ByteArray.size_extract]; unfold maxLen; omega
        have hD2 := fun W => Dec_any (F.extract 0 j) hsz W
        rw [hA] at hD2
        generalize hG : F.extract 0 j = G at hD2
        replace hG := W_hid hG
        replace hD2 := W_hid hD2
        clear hA hsz
        go_wp2_with fail
        rw [hG.out]
        refine (hD2.out _).mono ?_
        rintro e w4 ⟨rfl, bel4⟩
        have b4 := b3.out.trans (bel4.mono b3.out.size)
        replace b4 := W_hid (b4.alloc b4.size (.cells #[.int .i64 0, .int .i64 0, .int .i64 0, .int .i64 0, .string { data := #[] }, .string { data := #[] }] 25))
        clear bel4
        unfold zc cl
        go_wp2_with fail
        go_ret
        exact ⟨rfl, b4.out⟩
  · have hS := enc_no h0
    rw [hS] at hE
    generalize encE a [b, c, d] [s, t] = E at hE h0
    have hne : ¬ (E = 0) := h0
    unfold cl at *
    replace hE := W_hid hE
    replace hB := W_hid hB
    replace bb := W_hid bb
    clear hS
    go_enter Try.func7, Try.ntmps7
    go_wp2_with fail
    refine (shown16 _).mono ?_
    rintro e w1 ⟨rfl, bel1⟩
    replace hB := W_hid (hB.out.keep bel1)
    replace bb := W_hid (bb.out.trans (bel1.mono bb.out.size))
    have c0 := hB.out.cell (j := 0) rfl
    have c1 := hB.out.cell (j := 1) rfl
    have c2 := hB.out.cell (j := 2) rfl
    have c3 := hB.out.cell (j := 3) rfl
    have c4 := hB.out.cell (j := 4) rfl
    have c5 := hB.out.cell (j := 5) rfl
    clear bel1
    go_wp2_with fail
    refine (hE.out _).mono ?_
    rintro e w2 ⟨rfl, bel2⟩
    go_wp2_with fail
    go_ret
    exact ⟨rfl, bb.out.trans (bel2.mono bb.out.size)⟩

set_option maxRecDepth 100000 in
theorem CallWhole_lifted (os : Os) (started : os.Started) (H : Type) (enc : TypeId × Value → H) :
    ReturnsInHanded {} Try.checked os 7 .any (Rows.callWholeSpec.pre6 enc Try.prog Try.f7 Rows.callWholeRow.domain false) (Rows.callWholeSpec.post enc Try.prog Try.f7 false true false false) := by
  refine returnsInHanded_of_change_sized (C := Try.checked) (by kernel_rfl) started (by kernel_rfl) Try.func7
    (ChangeSpec.witness6 (enc := enc) (C := Try.checked) false ⟨#[], #[.agg #[.int .i64 0, .int .i64 0, .int .i64 0, .int .i64 0, .string ByteArray.empty, .string ByteArray.empty], .int .i64 0, .string ByteArray.empty], []⟩ 8 (by kernel_rfl) (by kernel_rfl) (by kernel_rfl) (by kernel_rfl)) ?_
  intro W base args ds gs before hval0 hW hcnd hsz0 _
  have hsz : (DataW.weightsEach Try.prog (Try.f7.params.toList ++ Rows.callWholeSpec.plain.varTypes Try.prog) (ds ++ gs)).all (· ≤ reachBytes) = true := hsz0
  clear hsz0
  have hval : ∀ (j : Nat) t v, Try.f7.params[j]? = some t → args[j]? = some v → Value.okWide Try.prog W .any base t v := hval0
  have hW' := hW
  obtain ⟨p, q, hA0, hV, rfl, hfz, hnd⟩ := hW
  have hA : DataW.TrodAll enc Try.prog W 0 (fun _ => true) true Try.f7.params.toList args.toList ds p := hA0
  rw [Try.params7] at hA hval hsz
  obtain ⟨v0, vs0, d0, ds0, p0, q0, hargs, rfl, rfl, h0, r0⟩ := trodAll_cons hA
  obtain ⟨v1, vs1, d1, ds1, p1, q1, rfl, rfl, rfl, h1, r1⟩ := trodAll_cons r0
  obtain ⟨v2, vs2, d2, ds2, p2, q2, rfl, rfl, rfl, h2, r2⟩ := trodAll_cons r1
  obtain ⟨rfl, rfl, rfl⟩ := trodAll_nil r2
  obtain rfl : args = #[v0, v1, v2] := by cases args; simp_all
  obtain ⟨rfl, rfl⟩ := trodVars_none hV
  have k0 := h0
  have lt0 : ∀ x ∈ p0, x.block < W.heap.size := by obtain ⟨m, hm⟩ := k0; exact DataW.trod_lt m _ _ _ hm
  obtain ⟨a0, b0, c0, d0, s0, t0, rfl, w0⟩ := open_call (hval 0 25 v0 rfl rfl) h0
  obtain ⟨a1, rfl, rfl, rfl, w1⟩ := open_int Try.underlying3 (hval 1 3 v1 rfl rfl) h1
  obtain ⟨a2, rfl, rfl, rfl, w2⟩ := open_string Try.underlying9 (hval 2 9 v2 rfl rfl) h2
  have s2 : a2.size ≤ 140737488351232 := by
    have := sized_string hsz (j := 2) (t := 9) rfl rfl
    simp only [Array.length_toList, reachBytes] at this; exact this
  clear hA0 hval0
  refine (CallWhole_walk a0 b0 c0 d0 s0 t0 a1 a2 W w0 w1 w2 s2).mono fun e W' ⟨he, bel⟩ => ?_
  subst he
  exact ⟨_, rfl, _, _, _, [], _, [], hW', trodAll_mk1 (shut_bool Try.underlying4 _), (trodAll_cons_mk (Below.trod laidOut (by kernel_rfl) (of_decide_eq_true (by kernel_rfl)) k0 bel lt0) (trodAll_cons_mk (shut_int Try.underlying3 w1) (trodAll_cons_mk (shut_string Try.underlying9 w2) trodAll_mk0))), rfl, bel.frame _, fun h => by cases h⟩

/-- The given statement of CallWhole. -/
theorem CallWhole_holds : Rows.CallWholeSaid :=
  OpenClaim.holds_of_wide 7 Try.f7 rfl rfl rfl rfl rfl rfl rfl ⟨rfl, rfl, rfl, rfl, rfl⟩ rfl rfl rfl rfl rfl (by kernel_rfl) Try.func7 (by kernel_rfl)
    (of_decide_eq_true (by kernel_rfl)) (by unfold Func.isWrapper; first | (rw [if_pos (by decide +kernel)]; kernel_rfl) | (rw [if_neg (by decide +kernel)]; exact ⟨rfl, rfl⟩))
    (fun os started H enc _ => CallWhole_lifted os started H enc)

end Go.Proofs.Ytmhikoblaejhhaa

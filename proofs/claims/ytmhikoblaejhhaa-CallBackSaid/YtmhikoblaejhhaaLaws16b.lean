/- The laws of layer 16, continued: CallReads and CallReplies: for every input they return true, and their arguments read as before. No further condition. -/
import Derived.Test.YtmhikoblaejhhaaLaws16
namespace Go.Proofs.Ytmhikoblaejhhaa
open Go.ChangeShapes Go.WideShapes Go.ChangeAt Go.RowKit Go.Maps
open Go.ChangeMaps (open_string shut_string)
set_option linter.unusedVariables false
set_option linter.unusedSimpArgs false
set_option maxRecDepth 100000
open CA

theorem decQ_cl (s : ByteArray) : ∃ (E a b c d : Int) (u v : ByteArray), decQ s = (E, cl a b c d u v) := by
  unfold decQ
  split
  · exact ⟨_, _, _, _, _, _, _, rfl⟩
  · split
    · exact ⟨_, _, _, _, _, _, _, rfl⟩
    · split
      · exact ⟨_, _, _, _, _, _, _, rfl⟩
      · exact ⟨_, _, _, _, _, _, _, rfl⟩
theorem drQ_rv (s : ByteArray) : ∃ (E a b : Int) (u : ByteArray), drQ s = (E, rv a b u) := by
  unfold drQ
  split
  · exact ⟨_, _, _, _, rfl⟩
  · exact ⟨_, _, _, _, rfl⟩
theorem call_eql (a b c d : Int) (s t : ByteArray) (w : World) :
    (binOp .eql 25 (.agg #[.int .i64 a, .int .i64 b, .int .i64 c, .int .i64 d, .string s, .string t]) (.agg #[.int .i64 a, .int .i64 b, .int .i64 c, .int .i64 d, .string s, .string t])).run Try.prog w = .ok (.bool true) w := by
  simp [go_sem, eq_arr3, eq_arr2]
theorem call_neq_same (a b c d : Int) (s t : ByteArray) (w : World) :
    (binOp .neq 25 (.agg #[.int .i64 a, .int .i64 b, .int .i64 c, .int .i64 d, .string s, .string t]) (.agg #[.int .i64 a, .int .i64 b, .int .i64 c, .int .i64 d, .string s, .string t])).run Try.prog w = .ok (.bool false) w := by
  simp [go_sem, eq_arr3, eq_arr2]
theorem rep_eql (a b : Int) (s : ByteArray) (w : World) :
    (binOp .eql 37 (.agg #[.int .i64 a, .int .i64 b, .string s]) (.agg #[.int .i64 a, .int .i64 b, .string s])).run Try.prog w = .ok (.bool true) w := by
  simp [go_sem]
theorem rep_neq_same (a b : Int) (s : ByteArray) (w : World) :
    (binOp .neq 37 (.agg #[.int .i64 a, .int .i64 b, .string s]) (.agg #[.int .i64 a, .int .i64 b, .string s])).run Try.prog w = .ok (.bool false) w := by
  simp [go_sem]

set_option maxRecDepth 100000 in
set_option maxHeartbeats 2000000 in
theorem CallReads_walk (s : ByteArray) (w : World) (hs : s.size ≤ maxLen) :
    Calls Try.prog 4 #[.string s] w fun e w' => e = .returned (.bool true) ∧ Below w.heap.size w w' := by
  obtain ⟨E, a, b, c, d, u, v, hq⟩ := decQ_cl s
  have hD := fun W => Dec_any s hs W
  have hrD := fun W => rDec_any s hs W
  rw [hq] at hD hrD
  replace hD := W_hid hD
  replace hrD := W_hid hrD
  have heq := call_eql a b c d u v
  clear hq
  unfold cl at *
  go_enter Try.func4, Try.ntmps4
  go_wp2_with fail
  refine (shown16 _).mono ?_
  rintro e w1 ⟨rfl, bel1⟩
  go_wp2_with fail
  refine (hD.out _).mono ?_
  rintro e w2 ⟨rfl, bel2⟩
  have b2 := bel1.trans (bel2.mono bel1.size)
  have b2a := b2.alloc b2.size (.cells #[.int .i64 a, .int .i64 b, .int .i64 c, .int .i64 d, .string u, .string v] 25)
  have hB : Blk (w2.alloc (.cells #[.int .i64 a, .int .i64 b, .int .i64 c, .int .i64 d, .string u, .string v] 25)) w2.heap.size 25 [.int .i64 a, .int .i64 b, .int .i64 c, .int .i64 d, .string u, .string v] := Blk.new _ _ _ rfl
  replace b2a := W_hid b2a
  replace hB := W_hid hB
  clear bel1 bel2 b2
  go_wp2_with fail
  refine (hrD.out _).mono ?_
  rintro e w3 ⟨rfl, bel3⟩
  replace hB := (hB.out.keep bel3).alloc (.cells #[.int .i64 a, .int .i64 b, .int .i64 c, .int .i64 d, .string u, .string v] 25)
  have c0 := hB.cell (j := 0) rfl
  have c1 := hB.cell (j := 1) rfl
  have c2 := hB.cell (j := 2) rfl
  have c3 := hB.cell (j := 3) rfl
  have c4 := hB.cell (j := 4) rfl
  have c5 := hB.cell (j := 5) rfl
  have b3 := b2a.out.trans (bel3.mono b2a.out.size)
  replace b3 := W_hid (b3.alloc b3.size (.cells #[.int .i64 a, .int .i64 b, .int .i64 c, .int .i64 d, .string u, .string v] 25))
  clear bel3 b2a hB
  go_wp2_with fail
  go_ret
  exact ⟨rfl, b3.out⟩

set_option maxRecDepth 100000 in
theorem CallReads_lifted (os : Os) (started : os.Started) (H : Type) (enc : TypeId × Value → H) :
    ReturnsInHanded {} Try.checked os 4 .any (Rows.callReadsSpec.pre6 enc Try.prog Try.f4 Rows.callReadsRow.domain false) (Rows.callReadsSpec.post enc Try.prog Try.f4 false true false false) := by
  refine returnsInHanded_of_change (C := Try.checked) (by kernel_rfl) started (by kernel_rfl) Try.func4
    (ChangeSpec.witness6 (enc := enc) (C := Try.checked) false ⟨#[], #[.string ByteArray.empty], []⟩ 8 (by kernel_rfl) (by kernel_rfl) (by kernel_rfl) (by kernel_rfl)) ?_
  intro W base args ds gs before hval0 hW hcnd _
  have hval : ∀ (j : Nat) t v, Try.f4.params[j]? = some t → args[j]? = some v → Value.okWide Try.prog W .any base t v := hval0
  have hW' := hW
  obtain ⟨p, q, hA0, hV, rfl, hfz, hnd⟩ := hW
  have hA : DataW.TrodAll enc Try.prog W 0 (fun _ => true) true Try.f4.params.toList args.toList ds p := hA0
  rw [Try.params4] at hA hval
  obtain ⟨v0, vs0, d0, ds0, p0, q0, hargs, rfl, rfl, h0, r0⟩ := trodAll_cons hA
  obtain ⟨rfl, rfl, rfl⟩ := trodAll_nil r0
  obtain rfl : args = #[v0] := by cases args; simp_all
  obtain ⟨rfl, rfl⟩ := trodVars_none hV
  obtain ⟨a0, rfl, rfl, rfl, w0⟩ := open_string Try.underlying9 (hval 0 9 v0 rfl rfl) h0
  clear hA0 hval0
  refine (CallReads_walk a0 W w0).mono fun e W' ⟨he, bel⟩ => ?_
  subst he
  exact ⟨_, rfl, _, _, _, [], _, [], hW', trodAll_mk1 (shut_bool Try.underlying4 _), (trodAll_cons_mk (shut_string Try.underlying9 w0) trodAll_mk0), rfl, bel.frame _, fun h => by cases h⟩

/-- The given statement of CallReads. -/
theorem CallReads_holds : Rows.CallReadsSaid :=
  OpenClaim.holds_of_wide 4 Try.f4 rfl rfl rfl rfl rfl rfl rfl ⟨rfl, rfl, rfl, rfl, rfl⟩ rfl rfl rfl rfl rfl (by kernel_rfl) Try.func4 (by kernel_rfl)
    (of_decide_eq_true (by kernel_rfl)) (by unfold Func.isWrapper; first | (rw [if_pos (by decide +kernel)]; kernel_rfl) | (rw [if_neg (by decide +kernel)]; exact ⟨rfl, rfl⟩))
    (fun os started H enc _ => CallReads_lifted os started H enc)

set_option maxRecDepth 100000 in
set_option maxHeartbeats 2000000 in
theorem CallReplies_walk (a b : Int) (t : ByteArray) (s : ByteArray) (w : World) (hf : RFit16 a b t) (hs : s.size ≤ maxLen) :
    Calls Try.prog 5 #[.agg (rv a b t).toArray, .string s] w fun e w' => e = .returned (.bool true) ∧ Below w.heap.size w w' := by
  obtain ⟨-, -, ht⟩ := hf
  have hE := W_hid (fun W => ERep_any a b t ht W)
  have hrE := W_hid (fun W => rERep_any a b t ht W)
  generalize repS a b t = F at hE hrE
  generalize repE a t = G at hE hrE
  obtain ⟨E, x, y, u, hq⟩ := drQ_rv s
  have hD := fun W => DRep_any s hs W
  have hrD := fun W => rDRep_any s hs W
  rw [hq] at hD hrD
  replace hD := W_hid hD
  replace hrD := W_hid hrD
  have heq := rep_eql x y u
  clear hq
  have hB : Blk (w.alloc (.cells (rv a b t).toArray 37)) w.heap.size 37 (rv a b t) := Blk.new w _ _ rfl
  have bb : Below w.heap.size w (w.alloc (.cells (rv a b t).toArray 37)) := (Below.refl _ _).alloc (Nat.le_refl _) _
  unfold rv at *
  replace hB := W_hid hB
  replace bb := W_hid bb
  go_enter Try.func5, Try.ntmps5
  go_wp2_with fail
  refine (shown16 _).mono ?_
  rintro e w1 ⟨rfl, bel1⟩
  replace hB := W_hid (hB.out.keep bel1)
  replace bb := W_hid (bb.out.trans (bel1.mono bb.out.size))
  have c0 := hB.out.cell (j := 0) rfl
  have c1 := hB.out.cell (j := 1) rfl
  have c2 := hB.out.cell (j := 2) rfl
  clear bel1
  go_wp2_with fail
  refine (hE.out _).mono ?_
  rintro e w2 ⟨rfl, bel2⟩
  replace hB := W_hid (hB.out.keep bel2)
  replace bb := W_hid (bb.out.trans (bel2.mono bb.out.size))
  clear c0 c1 c2
  have c0 := hB.out.cell (j := 0) rfl
  have c1 := hB.out.cell (j := 1) rfl
  have c2 := hB.out.cell (j := 2) rfl
  clear bel2
  go_wp2_with fail
  refine (hrE.out _).mono ?_
  rintro e w3 ⟨rfl, bel3⟩
  replace bb := W_hid (bb.out.trans (bel3.mono bb.out.size))
  clear bel3 hB c0 c1 c2
  go_wp2_with fail
  refine (hD.out _).mono ?_
  rintro e w4 ⟨rfl, bel4⟩
  have b2 := bb.out.trans (bel4.mono bb.out.size)
  have b2a := b2.alloc b2.size (.cells #[.int .i64 x, .int .i64 y, .string u] 37)
  have hB : Blk (w4.alloc (.cells #[.int .i64 x, .int .i64 y, .string u] 37)) w4.heap.size 37 [.int .i64 x, .int .i64 y, .string u] := Blk.new _ _ _ rfl
  replace b2a := W_hid b2a
  replace hB := W_hid hB
  clear bel4 b2 bb
  go_wp2_with fail
  refine (hrD.out _).mono ?_
  rintro e w5 ⟨rfl, bel5⟩
  replace hB := (hB.out.keep bel5).alloc (.cells #[.int .i64 x, .int .i64 y, .string u] 37)
  have c0 := hB.cell (j := 0) rfl
  have c1 := hB.cell (j := 1) rfl
  have c2 := hB.cell (j := 2) rfl
  have b3 := b2a.out.trans (bel5.mono b2a.out.size)
  replace b3 := W_hid (b3.alloc b3.size (.cells #[.int .i64 x, .int .i64 y, .string u] 37))
  clear bel5 b2a hB
  go_wp2_with fail
  go_ret
  exact ⟨rfl, b3.out⟩

set_option maxRecDepth 100000 in
theorem CallReplies_lifted (os : Os) (started : os.Started) (H : Type) (enc : TypeId × Value → H) :
    ReturnsInHanded {} Try.checked os 5 .any (Rows.callRepliesSpec.pre6 enc Try.prog Try.f5 Rows.callRepliesRow.domain false) (Rows.callRepliesSpec.post enc Try.prog Try.f5 false true false false) := by
  refine returnsInHanded_of_change (C := Try.checked) (by kernel_rfl) started (by kernel_rfl) Try.func5
    (ChangeSpec.witness6 (enc := enc) (C := Try.checked) false ⟨#[], #[.agg #[.int .i64 0, .int .i64 0, .string ByteArray.empty], .string ByteArray.empty], []⟩ 8 (by kernel_rfl) (by kernel_rfl) (by kernel_rfl) (by kernel_rfl)) ?_
  intro W base args ds gs before hval0 hW hcnd _
  have hval : ∀ (j : Nat) t v, Try.f5.params[j]? = some t → args[j]? = some v → Value.okWide Try.prog W .any base t v := hval0
  have hW' := hW
  obtain ⟨p, q, hA0, hV, rfl, hfz, hnd⟩ := hW
  have hA : DataW.TrodAll enc Try.prog W 0 (fun _ => true) true Try.f5.params.toList args.toList ds p := hA0
  rw [Try.params5] at hA hval
  obtain ⟨v0, vs0, d0, ds0, p0, q0, hargs, rfl, rfl, h0, r0⟩ := trodAll_cons hA
  obtain ⟨v1, vs1, d1, ds1, p1, q1, rfl, rfl, rfl, h1, r1⟩ := trodAll_cons r0
  obtain ⟨rfl, rfl, rfl⟩ := trodAll_nil r1
  obtain rfl : args = #[v0, v1] := by cases args; simp_all
  obtain ⟨rfl, rfl⟩ := trodVars_none hV
  have k0 := h0
  have lt0 : ∀ x ∈ p0, x.block < W.heap.size := by obtain ⟨m, hm⟩ := k0; exact DataW.trod_lt m _ _ _ hm
  obtain ⟨a0, b0, s0, rfl, w0⟩ := open_reply (hval 0 37 v0 rfl rfl) h0
  obtain ⟨a1, rfl, rfl, rfl, w1⟩ := open_string Try.underlying9 (hval 1 9 v1 rfl rfl) h1
  clear hA0 hval0
  refine (CallReplies_walk a0 b0 s0 a1 W w0 w1).mono fun e W' ⟨he, bel⟩ => ?_
  subst he
  exact ⟨_, rfl, _, _, _, [], _, [], hW', trodAll_mk1 (shut_bool Try.underlying4 _), (trodAll_cons_mk (Below.trod laidOut (by kernel_rfl) (of_decide_eq_true (by kernel_rfl)) k0 bel lt0) (trodAll_cons_mk (shut_string Try.underlying9 w1) trodAll_mk0)), rfl, bel.frame _, fun h => by cases h⟩

/-- The given statement of CallReplies. -/
theorem CallReplies_holds : Rows.CallRepliesSaid :=
  OpenClaim.holds_of_wide 5 Try.f5 rfl rfl rfl rfl rfl rfl rfl ⟨rfl, rfl, rfl, rfl, rfl⟩ rfl rfl rfl rfl rfl (by kernel_rfl) Try.func5 (by kernel_rfl)
    (of_decide_eq_true (by kernel_rfl)) (by unfold Func.isWrapper; first | (rw [if_pos (by decide +kernel)]; kernel_rfl) | (rw [if_neg (by decide +kernel)]; exact ⟨rfl, rfl⟩))
    (fun os started H enc _ => CallReplies_lifted os started H enc)

end Go.Proofs.Ytmhikoblaejhhaa

/- The laws of layer 8 (package haywardlaw08) on page tables: RadixNone: for every input it returns true, and its arguments read as before. What the row lists of package variables is tied to the program's text by the card; no further condition. -/
import Derived.Test.YthiojnbnhagcgaaDoorRadShown
import Derived.Test.YthiojnbnhagcgaaDoorEntryLaid
import Derived.Test.YthiojnbnhagcgaaDoorTie
import Derived.Test.YthiojnbnhagcgaaDoorCards
import Derived.SevenTiedAt
import Derived.ShutString
import Derived.ChangeOld
import Derived.Lib.SmallJoins
namespace Go.Proofs.YthiojnbnhagcgaaDoor
open Go.ChangeShapes Go.WideShapes Go.ChangeAt Go.RowKit
set_option linter.unusedVariables false
set_option linter.unusedSimpArgs false

def MFit (a b c : Int) : Prop := 0 ≤ a ∧ a < 18446744073709551616 ∧ 0 ≤ b ∧ b < 18446744073709551616 ∧ -9223372036854775808 ≤ c ∧ c ≤ 9223372036854775807
set_option maxRecDepth 100000 in
/-- A page that came in. -/
theorem open_mapping {H : Type} {enc : TypeId × Value → H} {W : World} {r : Reach} {b0 : Nat} {v : Value} {d : DataW H} {p : List MemPlace} (hv : Value.okWide Tryd.prog W r b0 24 v)
    (h : DataW.Trod enc Tryd.prog W 0 (fun _ => true) true 24 v d p) :
    ∃ (a b c : Int) (d : Bool), v = .agg #[.int .u64 a, .int .u64 b, .int .i64 c, .bool d] ∧ MFit a b c := by
  obtain ⟨v0, v1, v2, v3, y0, y1, y2, y3, m, rfl, -, -, h0, h1, h2, h3⟩ := Joins.open_agg4 Tryd.underlying24 (by kernel_rfl) (by kernel_rfl) hv h
  obtain ⟨a, e0, -, b0⟩ := DataW.trod_int Tryd.underlying22 h0
  obtain ⟨b, e1, -, b1⟩ := DataW.trod_int Tryd.underlying22 h1
  obtain ⟨c, e2, -, b2⟩ := DataW.trod_int Tryd.underlying3 h2
  obtain ⟨d, e3, -⟩ := DataW.trod_bool Tryd.underlying4 h3
  obtain rfl : v0 = .int .u64 a := by simpa using e0
  obtain rfl : v1 = .int .u64 b := by simpa using e1
  obtain rfl : v2 = .int .i64 c := by simpa using e2
  obtain rfl : v3 = .bool d := by simpa using e3
  have c0 := bounds_u64 b0
  have c1 := bounds_u64 b1
  have c2 := bounds_i64 b2
  exact ⟨a, b, c, d, rfl, by unfold MFit; omega⟩

set_option maxRecDepth 100000 in
set_option maxHeartbeats 2000000 in
theorem RadixNone_walk (a0 b0 c0 : Int) (d0 : Bool) (a1 a2 : Int) (w : World) (hk : KT w) (w0 : MFit a0 b0 c0) (w1 : (Lit.int .u64 a1).wf = true) (w2 : (Lit.int .i64 a2).wf = true) :
    Calls Tryd.prog 3 #[.agg #[.int .u64 a0, .int .u64 b0, .int .i64 c0, .bool d0], .int .u64 a1, .int .i64 a2] w fun e w' => e = .returned (.bool true) ∧ Below w.heap.size w w' := by
  unfold MFit at w0
  obtain ⟨x, rfl⟩ : ∃ x : Nat, a0 = x := ⟨a0.toNat, by omega⟩
  obtain ⟨y, rfl⟩ : ∃ y : Nat, b0 = y := ⟨b0.toNat, by omega⟩
  have hS := W_hid shown_any
  have hMp := W_hid (fun w hk => Map_nil x y d0 c0 w (by omega) hk (by omega))
  have q1 := W_hid New_nilT
  have q2 := W_hid (Unmap_nil a1)
  have q3 := W_hid (Walk_nil a1 a2)
  have q4 := W_hid (Word_nil a1 a2)
  have q5 := W_hid (Protect_nil a1 a2)
  have q6 := W_hid Drop_nil
  have q7 := W_hid Pages_nil
  have q8 := W_hid Tables_nil
  have q9 := W_hid Root_nil
  replace hk := W_hid hk
  clear w0 w1 w2
  go_enter Tryd.func3, Tryd.ntmps3
  go_wp2_with fail
  refine (hS.out _ (hk.out.alloc _)).mono ?_
  rintro e w1 ⟨rfl, bel1⟩
  have k0 : Blk w1 w.heap.size 24 [.int .u64 (x : Int), .int .u64 (y : Int), .int .i64 c0, .bool d0] := Blk.keep (Blk.new w _ _ rfl) bel1
  replace bel1 : Below w.heap.size w w1 := ((Below.refl _ _).alloc (Nat.le_refl _) _).trans (bel1.mono (by simp))
  replace k0 := W_hid k0
  clear hS
  go_wp2_with fail
  refine (q1.out _).mono ?_
  rintro e w' ⟨rfl, rfl⟩
  go_wp2_with fail
  refine (q2.out _).mono ?_
  rintro e w2 ⟨rfl, bel2⟩
  unfold noMap
  have k1 := k0.out.keep bel2
  replace bel2 := bel1.trans (bel2.mono bel1.size)
  replace k1 := W_hid k1
  replace bel2 := W_hid bel2
  clear q1 q2 k0 bel1
  go_wp2_with fail
  refine (q3.out _).mono ?_
  rintro e w3 ⟨rfl, bel3⟩
  have bA : Below w2.heap.size w2 (w2.alloc (.cells #[.int .u64 0, .int .u64 0, .int .i64 0, .bool false] 24)) := (Below.refl _ _).alloc (Nat.le_refl _) _
  have k2 := (k1.out.keep bA).keep bel3
  have bB := bel2.out.trans ((bA.trans (bel3.mono bA.size)).mono bel2.out.size)
  clear bA bel3 k1 bel2 q3
  have z0 := k2.cell (j := 0) rfl
  have z1 := k2.cell (j := 1) rfl
  have z2 := k2.cell (j := 2) rfl
  have z3 := k2.cell (j := 3) rfl
  have hk3 := W_hid (hk.out.keep bB)
  replace bB := W_hid bB
  clear k2
  go_wp2_with fail
  refine (q4.out _).mono ?_
  rintro e w' ⟨rfl, rfl⟩
  clear q4
  go_wp2_with fail
  refine (hMp.out _ hk3.out).mono ?_
  rintro e w4 ⟨rfl, bel4⟩
  have bC := W_hid (bB.out.trans (bel4.mono bB.out.size))
  clear hMp hk3 bB bel4
  go_wp2_with fail
  refine (q5.out _).mono ?_
  rintro e w5 ⟨rfl, bel5⟩
  have bD := W_hid (bC.out.trans (bel5.mono bC.out.size))
  clear q5 bC bel5
  go_wp2_with fail
  refine (q6.out _).mono ?_
  rintro e w6 ⟨rfl, bel6⟩
  have bE := W_hid (bD.out.trans (bel6.mono bD.out.size))
  clear q6 bD bel6
  go_wp2_with fail
  refine (q7.out _).mono ?_
  rintro e w' ⟨rfl, rfl⟩
  clear q7
  go_wp2_with fail
  refine (q8.out _).mono ?_
  rintro e w' ⟨rfl, rfl⟩
  clear q8
  go_wp2_with fail
  refine (q9.out _).mono ?_
  rintro e w' ⟨rfl, rfl⟩
  clear q9
  go_wp2
  go_ret
  exact ⟨rfl, bE.out⟩

set_option maxRecDepth 100000 in
theorem RadixNone_lifted (os : Os) (started : os.Started) (H : Type) (enc : TypeId × Value → H) :
    ReturnsInHanded {} Tryd.checked os 3 .any (fun w args => (Rows.radixNoneSpec.pre enc Tryd.prog Tryd.f3 [] false w args ∧ laidMetH Tryd.prog [("hayward/entry.kinds", Rows.laid_hayward_entry_kinds)] w) ∧ sizedMet enc Tryd.prog Tryd.f3 (OpenSpec.ofChange Rows.radixNoneSpec) false w args)
      (Rows.radixNoneSpec.post enc Tryd.prog Tryd.f3 false true false false) := by
  refine returnsInHanded_of_change_and (C := Tryd.checked) (X := fun w _ => laidMetH Tryd.prog [("hayward/entry.kinds", Rows.laid_hayward_entry_kinds)] w) (fun _ _ _ hh h => h.of_heap hh) (by kernel_rfl) started (by kernel_rfl) Tryd.func3
    (ChangeSpec.witness_shaped (enc := enc) (C := Tryd.checked) (os := os) (X := fun w _ => laidMetH Tryd.prog [("hayward/entry.kinds", Rows.laid_hayward_entry_kinds)] w) false (World.doorLaid Tryd.prog 400 os) #[.agg #[.int .u64 0, .int .u64 0, .int .i64 0, .bool false], .int .u64 0, .int .i64 0] 8 rfl (World.shaped_of_RefB (by kernel_rfl) (by kernel_rfl)) (by kernel_rfl) (by kernel_rfl) (by kernel_rfl) (kinds_met os _)) ?_
  intro W base args ds gs before hval0 hW hcnd hsz0 hL _
  have hval : ∀ (j : Nat) t v, Tryd.f3.params[j]? = some t → args[j]? = some v → Value.okWide Tryd.prog W .any base t v := hval0
  have hW' := hW
  obtain ⟨p, q, hA0, hV, rfl, hfz, hnd⟩ := hW
  have hA : DataW.TrodAll enc Tryd.prog W 0 (fun _ => true) true Tryd.f3.params.toList args.toList ds p := hA0
  rw [Tryd.params3] at hA hval
  obtain ⟨v0, vs0, d0, ds0, p0, q0, hargs, rfl, rfl, h0, r0⟩ := trodAll_cons hA
  obtain ⟨v1, vs1, d1, ds1, p1, q1, rfl, rfl, rfl, h1, r1⟩ := trodAll_cons r0
  obtain ⟨v2, vs2, d2, ds2, p2, q2, rfl, rfl, rfl, h2, r2⟩ := trodAll_cons r1
  obtain ⟨rfl, rfl, rfl⟩ := trodAll_nil r2
  obtain rfl : args = #[v0, v1, v2] := by cases args; simp_all
  obtain ⟨rfl, rfl⟩ := trodVars_none hV
  have k0 := h0
  have lt0 : ∀ x ∈ p0, x.block < W.heap.size := by obtain ⟨m, hm⟩ := k0; exact DataW.trod_lt m _ _ _ hm
  obtain ⟨a0, b0, c0, d0, rfl, w0⟩ := open_mapping (hval 0 24 v0 rfl rfl) h0
  obtain ⟨a1, rfl, rfl, rfl, w1⟩ := open_int Tryd.underlying22 (hval 1 22 v1 rfl rfl) h1
  obtain ⟨a2, rfl, rfl, rfl, w2⟩ := open_int Tryd.underlying3 (hval 2 3 v2 rfl rfl) h2
  clear hA0 hval0
  refine (RadixNone_walk a0 b0 c0 d0 a1 a2 W (kt_of_laid hL) w0 w1 w2).mono fun e W' ⟨he, bel⟩ => ?_
  subst he
  exact ⟨_, rfl, _, _, _, [], _, [], hW', trodAll_mk1 (shut_bool Tryd.underlying4 _), (trodAll_cons_mk (Below.trod laidOut (by kernel_rfl) (of_decide_eq_true (by kernel_rfl)) k0 bel lt0) (trodAll_cons_mk (shut_int Tryd.underlying22 w1) (trodAll_cons_mk (shut_int Tryd.underlying3 w2) trodAll_mk0))), rfl, bel.frame _, fun h => by cases h⟩

/-- The given statement of RadixNone. -/
theorem RadixNone_holds : Rows.RadixNoneSaid :=
  OpenClaim.holds_of_wide 3 Tryd.f3 rfl rfl rfl rfl rfl rfl rfl ⟨rfl, rfl, rfl, rfl, rfl⟩ rfl rfl rfl rfl rfl (by kernel_rfl) Tryd.func3 (by kernel_rfl)
    (of_decide_eq_true (by kernel_rfl)) (by unfold Func.isWrapper; first | (rw [if_pos (by decide +kernel)]; kernel_rfl) | (rw [if_neg (by decide +kernel)]; exact ⟨rfl, rfl⟩))
    (fun os started H enc _ => RadixNone_lifted os started H enc)

/-- The given card of RadixNone: the row, with what it lists tied to the text of the program. -/
theorem RadixNone_card_holds : Rows.RadixNoneCardSaid :=
  Claim7.holds_tied_plain_at .later [] [.data] true Rows.radixNoneCard.stood.harness Rows.radixNoneCard.stood.looks
    RadixNone_holds (fun _ h => by cases h) (by kernel_rfl) (fun _ h => by cases h) radixNone_row_tie rfl ⟨rfl, rfl⟩ (by kernel_rfl) rfl
    (fun f fn hf hfn => by
      obtain rfl : f = 3 := Option.some.inj ((show Tryd.prog.funcNamed "hayward/haywardlaw08.RadixNone" = some 3 by kernel_rfl).symm.trans hf) |>.symm
      obtain rfl : fn = Tryd.f3 := (Option.some.inj (Tryd.func3.symm.trans hfn)).symm
      exact ⟨by kernel_rfl, fun j t ht => by
        rw [Tryd.params3] at ht
        have hm : t ∈ [24, 22, 3] := by simpa using Array.mem_of_getElem? ht
        have hall : ([24, 22, 3].all fun u => !Tryd.prog.wantsStandIn u) = true := by kernel_rfl
        exact (show Tryd.prog.wantsStandIn t = false by simpa using List.all_eq_true.1 hall t hm)⟩)
    (by kernel_rfl)

end Go.Proofs.YthiojnbnhagcgaaDoor

/- The laws of layer 7 (package haywardlaw07) on entries and words, the first part: what they share, EntryWords and EntryReads: for every input they return true, and their arguments read as before. What the rows list of package variables is tied to the program's text by the cards; no further condition. -/
import Derived.Test.YtgfoojnkgfikbaaDoorRefEntry2
import Derived.Test.YtgfoojnkgfikbaaDoorEntryLaid
import Derived.Test.YtgfoojnkgfikbaaDoorTie
import Derived.Test.YtgfoojnkgfikbaaDoorCards
import Derived.SevenTiedAt
import Derived.ShutString
import Derived.ChangeOld
import Derived.Lib.SmallJoins
namespace Go.Proofs.YtgfoojnkgfikbaaDoor
open Go.ChangeShapes Go.WideShapes Go.ChangeAt Go.RowKit
set_option linter.unusedVariables false
set_option linter.unusedSimpArgs false

def EFit (p f : Int) : Prop := -9223372036854775808 ≤ p ∧ p ≤ 9223372036854775807 ∧ 0 ≤ f ∧ f < 18446744073709551616
/-- An entry that came in. -/
theorem open_entry {H : Type} {enc : TypeId × Value → H} {W : World} {r : Reach} {b0 : Nat} {v : Value} {d : DataW H} {p : List MemPlace} (hv : Value.okWide Tryd.prog W r b0 24 v)
    (h : DataW.Trod enc Tryd.prog W 0 (fun _ => true) true 24 v d p) :
    ∃ (t g : Bool) (q f : Int), v = .agg #[.bool t, .bool g, .int .i64 q, .int .u64 f] ∧ EFit q f := by
  obtain ⟨v0, v1, v2, v3, y0, y1, y2, y3, m, rfl, -, -, h0, h1, h2, h3⟩ := Joins.open_agg4 Tryd.underlying24 (by kernel_rfl) (by kernel_rfl) hv h
  obtain ⟨t, e0, -⟩ := DataW.trod_bool Tryd.underlying4 h0
  obtain ⟨g, e1, -⟩ := DataW.trod_bool Tryd.underlying4 h1
  obtain ⟨q, e2, -, b2⟩ := DataW.trod_int Tryd.underlying3 h2
  obtain ⟨f, e3, -, b3⟩ := DataW.trod_int Tryd.underlying22 h3
  obtain rfl : v0 = .bool t := by simpa using e0
  obtain rfl : v1 = .bool g := by simpa using e1
  obtain rfl : v2 = .int .i64 q := by simpa using e2
  obtain rfl : v3 = .int .u64 f := by simpa using e3
  have c2 := bounds_i64 b2
  have c3 := bounds_u64 b3
  exact ⟨t, g, q, f, rfl, by unfold EFit; omega⟩

theorem right_shown : EN.right false false 7 5 1 := ⟨by decide, by decide, by decide, .inr ⟨rfl, .inr (.inr (.inr rfl)), .inl ⟨rfl, rfl⟩⟩⟩
theorem shown_enc (w : World) (hk : KT w) : Calls Tryd.prog 7 #[.agg #[.bool false, .bool false, .int .i64 7, .int .u64 5], .int .i64 1] w fun e w' => e = .returned (.tuple #[.int .u64 20487, .int .i64 0]) ∧ Below w.heap.size w w' := by
  have h : EN.wd false 7 5 = 20487 := by decide
  have := Encode_yes false false 7 5 1 right_shown w hk
  rw [h] at this
  exact this
theorem shown_dec (w : World) (hk : KT w) : Calls Tryd.prog 9 #[.int .u64 20487, .int .i64 1] w fun e w' => e = .returned (.tuple #[.agg #[.bool false, .bool false, .int .i64 7, .int .u64 5], .bool true, .int .i64 0]) ∧ Below w.heap.size w w' := by
  have h : EN.wd false 7 5 = 20487 := by decide
  have hr := EN.right_rd right_shown
  rw [h] at hr
  exact Decode_some 20487 1 (by decide) false false 7 5 hr w hk

/-- Program and document answer alike. -/
theorem both_enc (T H : Bool) (P : Int) (F : Nat) (L : Int) : ∃ v E : Int,
    (∀ w, KT w → Calls Tryd.prog 7 #[.agg #[.bool T, .bool H, .int .i64 P, .int .u64 F], .int .i64 L] w fun e w' => e = .returned (.tuple #[.int .u64 v, .int .i64 E]) ∧ Below w.heap.size w w') ∧
    (∀ w, Calls Tryd.prog 8 #[.agg #[.bool T, .bool H, .int .i64 P, .int .u64 F], .int .i64 L] w fun e w' => e = .returned (.tuple #[.int .u64 v, .int .i64 E]) ∧ Below w.heap.size w w') := by
  by_cases h : EN.right T H P F L
  · exact ⟨_, _, fun w hk => Encode_yes T H P F L h w hk, fun w => rEncode_yes T H P F L h w⟩
  · exact ⟨_, _, fun w hk => Encode_no T H P F L h w hk, fun w => rEncode_no T H P F L h w⟩
theorem both_dec (x : Nat) (L : Int) (hx : x < 18446744073709551616) : ∃ (t g : Bool) (p f : Int) (ok : Bool) (E : Int),
    (∀ w, KT w → Calls Tryd.prog 9 #[.int .u64 x, .int .i64 L] w fun e w' => e = .returned (.tuple #[.agg #[.bool t, .bool g, .int .i64 p, .int .u64 f], .bool ok, .int .i64 E]) ∧ Below w.heap.size w w') ∧
    (∀ w, Calls Tryd.prog 10 #[.int .u64 x, .int .i64 L] w fun e w' => e = .returned (.tuple #[.agg #[.bool t, .bool g, .int .i64 p, .int .u64 f], .bool ok, .int .i64 E]) ∧ Below w.heap.size w w') := by
  by_cases h : 1 ≤ L ∧ L ≤ 4
  · by_cases h0 : x = 0
    · subst h0
      exact ⟨_, _, _, _, _, _, fun w _ => Decode_zero L h w, fun w => rDecode_zero L h w⟩
    · rcases hr : EN.rd x L with _ | ⟨t, g, p, f⟩
      · exact ⟨_, _, _, _, _, _, fun w hk => Decode_none x L hx h h0 hr w hk, fun w => rDecode_none x L hx h h0 hr w⟩
      · exact ⟨_, _, _, _, _, _, fun w hk => Decode_some x L hx t g p f hr w hk, fun w => rDecode_some x L hx t g p f hr w⟩
  · exact ⟨_, _, _, _, _, _, fun w _ => Decode_level x L h w, fun w => rDecode_level x L h w⟩

set_option maxRecDepth 100000 in
set_option maxHeartbeats 1000000 in
theorem EntryWords_walk (a0 b0 : Bool) (c0 d0 a1 : Int) (w : World) (hk : KT w) (w0 : EFit c0 d0) (w1 : (Lit.int .i64 a1).wf = true) :
    Calls Tryd.prog 3 #[.agg #[.bool a0, .bool b0, .int .i64 c0, .int .u64 d0], .int .i64 a1] w fun e w' => e = .returned (.bool true) ∧ Below w.heap.size w w' := by
  obtain ⟨F, rfl⟩ : ∃ F : Nat, d0 = F := ⟨d0.toNat, by unfold EFit at w0; omega⟩
  obtain ⟨v, E, hP, hR⟩ := both_enc a0 b0 c0 F a1
  have HP := W_hid hP
  have HR := W_hid hR
  have hS := W_hid shown_enc
  replace hk := W_hid hk
  clear hP hR w0 w1
  go_enter Tryd.func3, Tryd.ntmps3
  go_wp2_with fail
  refine (hS.out _ (hk.out.alloc _)).mono ?_
  rintro e w1 ⟨rfl, bel1⟩
  have k0 : Blk w1 w.heap.size 24 [.bool a0, .bool b0, .int .i64 c0, .int .u64 F] := Blk.keep (Blk.new w _ _ rfl) bel1
  replace bel1 : Below w.heap.size w w1 := ((Below.refl _ _).alloc (Nat.le_refl _) _).trans (bel1.mono (by simp))
  have z0 : w1.cell? ⟨w.heap.size, 0, none⟩ = some (.bool a0) := k0.cell rfl
  have z1 : w1.cell? ⟨w.heap.size, 1, none⟩ = some (.bool b0) := k0.cell rfl
  have z2 : w1.cell? ⟨w.heap.size, 2, none⟩ = some (.int .i64 c0) := k0.cell rfl
  have z3 : w1.cell? ⟨w.heap.size, 3, none⟩ = some (.int .u64 F) := k0.cell rfl
  go_wp2_with fail
  refine (HP.out _ (hk.out.keep bel1)).mono ?_
  rintro e w2 ⟨rfl, bel2⟩
  replace k0 := k0.keep bel2
  replace bel2 := bel1.trans (bel2.mono bel1.size)
  have y0 : w2.cell? ⟨w.heap.size, 0, none⟩ = some (.bool a0) := k0.cell rfl
  have y1 : w2.cell? ⟨w.heap.size, 1, none⟩ = some (.bool b0) := k0.cell rfl
  have y2 : w2.cell? ⟨w.heap.size, 2, none⟩ = some (.int .i64 c0) := k0.cell rfl
  have y3 : w2.cell? ⟨w.heap.size, 3, none⟩ = some (.int .u64 F) := k0.cell rfl
  go_wp2_with fail
  refine (HR.out _).mono ?_
  rintro e w3 ⟨rfl, bel3⟩
  go_wp2
  go_ret
  exact ⟨rfl, bel2.trans (bel3.mono bel2.size)⟩

set_option maxRecDepth 100000 in
set_option maxHeartbeats 1000000 in
theorem EntryReads_walk (a0 a1 : Int) (w : World) (hk : KT w) (w0 : (Lit.int .u64 a0).wf = true) (w1 : (Lit.int .i64 a1).wf = true) :
    Calls Tryd.prog 4 #[.int .u64 a0, .int .i64 a1] w fun e w' => e = .returned (.bool true) ∧ Below w.heap.size w w' := by
  have hb := bounds_u64 w0
  obtain ⟨x, rfl⟩ : ∃ x : Nat, a0 = x := ⟨a0.toNat, by omega⟩
  obtain ⟨t, g, p, f, ok, E, hP, hR⟩ := both_dec x a1 (by omega)
  have HP := W_hid hP
  have HR := W_hid hR
  have hS := W_hid shown_dec
  replace hk := W_hid hk
  clear hP hR w0 w1
  go_enter Tryd.func4, Tryd.ntmps4
  go_wp2_with fail
  refine (hS.out _ hk.out).mono ?_
  rintro e w1 ⟨rfl, bel1⟩
  have q1 : Hid (w.heap.size ≤ w1.heap.size) := bel1.size
  go_wp2_with fail
  refine (HP.out _ ((hk.out.keep bel1).alloc _)).mono ?_
  rintro e w2 ⟨rfl, bel2⟩
  have k1 : Blk w2 w1.heap.size 24 [.bool false, .bool false, .int .i64 7, .int .u64 5] := Blk.keep (Blk.new w1 _ _ rfl) bel2
  replace bel2 : Below w.heap.size w w2 := (bel1.alloc bel1.size _).trans (bel2.mono (Nat.le_trans bel1.size (by simp)))
  have l1 : w1.heap.size < w2.heap.size := k1.lt
  go_wp2_with fail
  refine (HR.out _).mono ?_
  rintro e w3 ⟨rfl, bel3⟩
  have k2 : Blk w3 w2.heap.size 24 [.bool t, .bool g, .int .i64 p, .int .u64 f] := Blk.keep (Blk.new w2 _ _ rfl) bel3
  replace k1 := Blk.keep (k1.alloc _) bel3
  replace bel3 : Below w.heap.size w w3 := (bel2.alloc bel2.size _).trans (bel3.mono (Nat.le_trans bel2.size (by simp)))
  have z3 : w3.cell? ⟨w1.heap.size, 3, none⟩ = some (.int .u64 5) := k1.cell rfl
  have l3 : w1.heap.size < w3.heap.size := k1.lt
  have l4 : w2.heap.size < w3.heap.size := k2.lt
  have y0 : w3.cell? ⟨w2.heap.size, 0, none⟩ = some (.bool t) := k2.cell rfl
  have y1 : w3.cell? ⟨w2.heap.size, 1, none⟩ = some (.bool g) := k2.cell rfl
  have y2 : w3.cell? ⟨w2.heap.size, 2, none⟩ = some (.int .i64 p) := k2.cell rfl
  have y3 : w3.cell? ⟨w2.heap.size, 3, none⟩ = some (.int .u64 f) := k2.cell rfl
  go_wp2
  go_ret
  exact ⟨rfl, bel3.alloc bel3.size _⟩

set_option maxRecDepth 100000 in
theorem EntryWords_lifted (os : Os) (started : os.Started) (H : Type) (enc : TypeId × Value → H) :
    ReturnsInHanded {} Tryd.checked os 3 .any (fun w args => (Rows.entryWordsSpec.pre enc Tryd.prog Tryd.f3 [] false w args ∧ laidMetH Tryd.prog [("hayward/entry.kinds", Rows.laid_hayward_entry_kinds)] w) ∧ sizedMet enc Tryd.prog Tryd.f3 (OpenSpec.ofChange Rows.entryWordsSpec) false w args)
      (Rows.entryWordsSpec.post enc Tryd.prog Tryd.f3 false true false false) := by
  refine returnsInHanded_of_change_and (C := Tryd.checked) (X := fun w _ => laidMetH Tryd.prog [("hayward/entry.kinds", Rows.laid_hayward_entry_kinds)] w) (fun _ _ _ hh h => h.of_heap hh) (by kernel_rfl) started (by kernel_rfl) Tryd.func3
    (ChangeSpec.witness_shaped (enc := enc) (C := Tryd.checked) (os := os) (X := fun w _ => laidMetH Tryd.prog [("hayward/entry.kinds", Rows.laid_hayward_entry_kinds)] w) false (World.doorLaid Tryd.prog 400 os) #[.agg #[.bool false, .bool false, .int .i64 0, .int .u64 0], .int .i64 0] 8 rfl (World.shaped_of_RefB (by kernel_rfl) (by kernel_rfl)) (by kernel_rfl) (by kernel_rfl) (by kernel_rfl) (kinds_met os _)) ?_
  intro W base args ds gs before hval0 hW hcnd hsz0 hL _
  have hval : ∀ (j : Nat) t v, Tryd.f3.params[j]? = some t → args[j]? = some v → Value.okWide Tryd.prog W .any base t v := hval0
  have hW' := hW
  obtain ⟨p, q, hA0, hV, rfl, hfz, hnd⟩ := hW
  have hA : DataW.TrodAll enc Tryd.prog W 0 (fun _ => true) true Tryd.f3.params.toList args.toList ds p := hA0
  rw [Tryd.params3] at hA hval
  obtain ⟨v0, vs0, d0, ds0, p0, q0, hargs, rfl, rfl, h0, r0⟩ := trodAll_cons hA
  obtain ⟨v1, vs1, d1, ds1, p1, q1, rfl, rfl, rfl, h1, r1⟩ := trodAll_cons r0
  obtain ⟨rfl, rfl, rfl⟩ := trodAll_nil r1
  obtain rfl : args = #[v0, v1] := by cases args; simp_all
  obtain ⟨rfl, rfl⟩ := trodVars_none hV
  have k0 := h0
  have lt0 : ∀ x ∈ p0, x.block < W.heap.size := by obtain ⟨m, hm⟩ := k0; exact DataW.trod_lt m _ _ _ hm
  obtain ⟨a0, b0, c0, d0, rfl, w0⟩ := open_entry (hval 0 24 v0 rfl rfl) h0
  obtain ⟨a1, rfl, rfl, rfl, w1⟩ := open_int Tryd.underlying3 (hval 1 3 v1 rfl rfl) h1
  clear hA0 hval0
  refine (EntryWords_walk a0 b0 c0 d0 a1 W (kt_of_laid hL) w0 w1).mono fun e W' ⟨he, bel⟩ => ?_
  subst he
  exact ⟨_, rfl, _, _, _, [], _, [], hW', trodAll_mk1 (shut_bool Tryd.underlying4 _), (trodAll_cons_mk (Below.trod laidOut (by kernel_rfl) (of_decide_eq_true (by kernel_rfl)) k0 bel lt0) (trodAll_cons_mk (shut_int Tryd.underlying3 w1) trodAll_mk0)), rfl, bel.frame _, fun h => by cases h⟩

/-- The given statement of EntryWords. -/
theorem EntryWords_holds : Rows.EntryWordsSaid :=
  OpenClaim.holds_of_wide 3 Tryd.f3 rfl rfl rfl rfl rfl rfl rfl ⟨rfl, rfl, rfl, rfl, rfl⟩ rfl rfl rfl rfl rfl (by kernel_rfl) Tryd.func3 (by kernel_rfl)
    (of_decide_eq_true (by kernel_rfl)) (by unfold Func.isWrapper; first | (rw [if_pos (by decide +kernel)]; kernel_rfl) | (rw [if_neg (by decide +kernel)]; exact ⟨rfl, rfl⟩))
    (fun os started H enc _ => EntryWords_lifted os started H enc)

/-- The given card of EntryWords: the row, with what it lists tied to the text of the program. -/
theorem EntryWords_card_holds : Rows.EntryWordsCardSaid :=
  Claim7.holds_tied_plain_at .later [] [.data] true Rows.entryWordsCard.stood.harness false
    EntryWords_holds (fun _ h => by cases h) (by kernel_rfl) (fun _ h => by cases h) entryWords_row_tie rfl ⟨rfl, rfl⟩ (by kernel_rfl) rfl
    (fun f fn hf hfn => by
      obtain rfl : f = 3 := Option.some.inj ((show Tryd.prog.funcNamed "hayward/haywardlaw07.EntryWords" = some 3 by kernel_rfl).symm.trans hf) |>.symm
      obtain rfl : fn = Tryd.f3 := (Option.some.inj (Tryd.func3.symm.trans hfn)).symm
      exact ⟨by kernel_rfl, fun j t ht => by
        rw [Tryd.params3] at ht
        have hm : t ∈ [24, 3] := by simpa using Array.mem_of_getElem? ht
        have hall : ([24, 3].all fun u => !Tryd.prog.wantsStandIn u) = true := by kernel_rfl
        exact (show Tryd.prog.wantsStandIn t = false by simpa using List.all_eq_true.1 hall t hm)⟩)
    (by kernel_rfl)

set_option maxRecDepth 100000 in
theorem EntryReads_lifted (os : Os) (started : os.Started) (H : Type) (enc : TypeId × Value → H) :
    ReturnsInHanded {} Tryd.checked os 4 .any (fun w args => (Rows.entryReadsSpec.pre enc Tryd.prog Tryd.f4 [] false w args ∧ laidMetH Tryd.prog [("hayward/entry.kinds", Rows.laid_hayward_entry_kinds)] w) ∧ sizedMet enc Tryd.prog Tryd.f4 (OpenSpec.ofChange Rows.entryReadsSpec) false w args)
      (Rows.entryReadsSpec.post enc Tryd.prog Tryd.f4 false true false false) := by
  refine returnsInHanded_of_change_and (C := Tryd.checked) (X := fun w _ => laidMetH Tryd.prog [("hayward/entry.kinds", Rows.laid_hayward_entry_kinds)] w) (fun _ _ _ hh h => h.of_heap hh) (by kernel_rfl) started (by kernel_rfl) Tryd.func4
    (ChangeSpec.witness_shaped (enc := enc) (C := Tryd.checked) (os := os) (X := fun w _ => laidMetH Tryd.prog [("hayward/entry.kinds", Rows.laid_hayward_entry_kinds)] w) false (World.doorLaid Tryd.prog 400 os) #[.int .u64 0, .int .i64 0] 8 rfl (World.shaped_of_RefB (by kernel_rfl) (by kernel_rfl)) (by kernel_rfl) (by kernel_rfl) (by kernel_rfl) (kinds_met os _)) ?_
  intro W base args ds gs before hval0 hW hcnd hsz0 hL _
  have hval : ∀ (j : Nat) t v, Tryd.f4.params[j]? = some t → args[j]? = some v → Value.okWide Tryd.prog W .any base t v := hval0
  have hW' := hW
  obtain ⟨p, q, hA0, hV, rfl, hfz, hnd⟩ := hW
  have hA : DataW.TrodAll enc Tryd.prog W 0 (fun _ => true) true Tryd.f4.params.toList args.toList ds p := hA0
  rw [Tryd.params4] at hA hval
  obtain ⟨v0, vs0, d0, ds0, p0, q0, hargs, rfl, rfl, h0, r0⟩ := trodAll_cons hA
  obtain ⟨v1, vs1, d1, ds1, p1, q1, rfl, rfl, rfl, h1, r1⟩ := trodAll_cons r0
  obtain ⟨rfl, rfl, rfl⟩ := trodAll_nil r1
  obtain rfl : args = #[v0, v1] := by cases args; simp_all
  obtain ⟨rfl, rfl⟩ := trodVars_none hV
  obtain ⟨a0, rfl, rfl, rfl, w0⟩ := open_int Tryd.underlying22 (hval 0 22 v0 rfl rfl) h0
  obtain ⟨a1, rfl, rfl, rfl, w1⟩ := open_int Tryd.underlying3 (hval 1 3 v1 rfl rfl) h1
  clear hA0 hval0
  refine (EntryReads_walk a0 a1 W (kt_of_laid hL) w0 w1).mono fun e W' ⟨he, bel⟩ => ?_
  subst he
  exact ⟨_, rfl, _, _, _, [], _, [], hW', trodAll_mk1 (shut_bool Tryd.underlying4 _), (trodAll_cons_mk (shut_int Tryd.underlying22 w0) (trodAll_cons_mk (shut_int Tryd.underlying3 w1) trodAll_mk0)), rfl, bel.frame _, fun h => by cases h⟩

/-- The given statement of EntryReads. -/
theorem EntryReads_holds : Rows.EntryReadsSaid :=
  OpenClaim.holds_of_wide 4 Tryd.f4 rfl rfl rfl rfl rfl rfl rfl ⟨rfl, rfl, rfl, rfl, rfl⟩ rfl rfl rfl rfl rfl (by kernel_rfl) Tryd.func4 (by kernel_rfl)
    (of_decide_eq_true (by kernel_rfl)) (by unfold Func.isWrapper; first | (rw [if_pos (by decide +kernel)]; kernel_rfl) | (rw [if_neg (by decide +kernel)]; exact ⟨rfl, rfl⟩))
    (fun os started H enc _ => EntryReads_lifted os started H enc)

/-- The given card of EntryReads: the row, with what it lists tied to the text of the program. -/
theorem EntryReads_card_holds : Rows.EntryReadsCardSaid :=
  Claim7.holds_tied_plain_at .later [] [.data] true Rows.entryReadsCard.stood.harness false
    EntryReads_holds (fun _ h => by cases h) (by kernel_rfl) (fun _ h => by cases h) entryReads_row_tie rfl ⟨rfl, rfl⟩ (by kernel_rfl) rfl
    (fun f fn hf hfn => by
      obtain rfl : f = 4 := Option.some.inj ((show Tryd.prog.funcNamed "hayward/haywardlaw07.EntryReads" = some 4 by kernel_rfl).symm.trans hf) |>.symm
      obtain rfl : fn = Tryd.f4 := (Option.some.inj (Tryd.func4.symm.trans hfn)).symm
      exact ⟨by kernel_rfl, fun j t ht => by
        rw [Tryd.params4] at ht
        have hm : t ∈ [22, 3] := by simpa using Array.mem_of_getElem? ht
        have hall : ([22, 3].all fun u => !Tryd.prog.wantsStandIn u) = true := by kernel_rfl
        exact (show Tryd.prog.wantsStandIn t = false by simpa using List.all_eq_true.1 hall t hm)⟩)
    (by kernel_rfl)

end Go.Proofs.YtgfoojnkgfikbaaDoor

/- The laws of layer 7 (package haywardlaw07) on entries and words, the second part: EntryBack: for every input it returns true, and its arguments read as before. What the row lists of package variables is tied to the program's text by the card; no further condition. -/
import Derived.Test.YtgfoojnkgfikbaaDoorLaws07b
namespace Go.Proofs.YtgfoojnkgfikbaaDoor
open Go.ChangeShapes Go.WideShapes Go.ChangeAt Go.RowKit
set_option linter.unusedVariables false
set_option linter.unusedSimpArgs false

/-- An entry, encoded and decoded. -/
theorem enc_dec (T H : Bool) (P : Int) (F : Nat) (L : Int) : ∃ (v : Nat) (E : Int) (t g : Bool) (p f : Int) (ok : Bool) (e : Int),
    (∀ w, KT w → Calls Tryd.prog 7 #[.agg #[.bool T, .bool H, .int .i64 P, .int .u64 F], .int .i64 L] w fun r w' => r = .returned (.tuple #[.int .u64 (v : Int), .int .i64 E]) ∧ Below w.heap.size w w') ∧
    (∀ w, KT w → Calls Tryd.prog 9 #[.int .u64 (v : Int), .int .i64 L] w fun r w' => r = .returned (.tuple #[.agg #[.bool t, .bool g, .int .i64 p, .int .u64 f], .bool ok, .int .i64 e]) ∧ Below w.heap.size w w') ∧
    ((E = 0 ∧ t = T ∧ g = H ∧ p = P ∧ f = F ∧ ok = true ∧ e = 0) ∨ E = 2) := by
  by_cases h : EN.right T H P F L
  · exact ⟨_, _, _, _, _, _, _, _, fun w hk => Encode_yes T H P F L h w hk, fun w hk => Decode_some _ L (EN.wd_lt H P F h.2.2.1) T H P F (EN.right_rd h) w hk, .inl ⟨rfl, rfl, rfl, rfl, rfl, rfl, rfl⟩⟩
  · by_cases hL : 1 ≤ L ∧ L ≤ 4
    · exact ⟨0, _, _, _, _, _, _, _, fun w hk => Encode_no T H P F L h w hk, fun w hk => Decode_zero L hL w, .inr rfl⟩
    · exact ⟨0, _, _, _, _, _, _, _, fun w hk => Encode_no T H P F L h w hk, fun w hk => Decode_level 0 L hL w, .inr rfl⟩

/-- A word, decoded, and encoded if it is an entry's. -/
theorem dec_enc (x : Nat) (L : Int) (hx : x < 18446744073709551616) :
    (∃ E : Int, ∀ w, KT w → Calls Tryd.prog 9 #[.int .u64 (x : Int), .int .i64 L] w fun r w' => r = .returned (.tuple #[.agg #[.bool false, .bool false, .int .i64 0, .int .u64 0], .bool false, .int .i64 E]) ∧ Below w.heap.size w w') ∨
    (∃ (t g : Bool) (p : Int) (f : Nat), EN.rd x L = some (t, g, p, f) ∧ (∀ w, KT w → Calls Tryd.prog 9 #[.int .u64 (x : Int), .int .i64 L] w fun r w' => r = .returned (.tuple #[.agg #[.bool t, .bool g, .int .i64 p, .int .u64 (f : Int)], .bool true, .int .i64 0]) ∧ Below w.heap.size w w') ∧
      (∀ w, KT w → Calls Tryd.prog 7 #[.agg #[.bool t, .bool g, .int .i64 p, .int .u64 (f : Int)], .int .i64 L] w fun r w' => r = .returned (.tuple #[.int .u64 (x : Int), .int .i64 0]) ∧ Below w.heap.size w w')) := by
  by_cases h : 1 ≤ L ∧ L ≤ 4
  · by_cases h0 : x = 0
    · subst h0
      exact .inl ⟨_, fun w _ => Decode_zero L h w⟩
    · rcases hr : EN.rd x L with _ | ⟨t, g, p, f⟩
      · exact .inl ⟨_, fun w hk => Decode_none x L hx h h0 hr w hk⟩
      · have hrr := EN.rd_right hx hr
        refine .inr ⟨t, g, p, f, rfl, fun w hk => Decode_some x L hx t g p f hr w hk, fun w hk => ?_⟩
        have := Encode_yes t g p f L hrr.1 w hk
        rw [hrr.2] at this
        exact this
  · exact .inl ⟨_, fun w _ => Decode_level x L h w⟩

set_option maxRecDepth 100000 in
set_option maxHeartbeats 4000000 in
theorem EntryBack_walk (a0 b0 : Bool) (c0 d0 a1 a2 : Int) (w : World) (hk : KT w) (w0 : EFit c0 d0) (w1 : (Lit.int .u64 a1).wf = true) (w2 : (Lit.int .i64 a2).wf = true) :
    Calls Tryd.prog 5 #[.agg #[.bool a0, .bool b0, .int .i64 c0, .int .u64 d0], .int .u64 a1, .int .i64 a2] w fun e w' => e = .returned (.bool true) ∧ Below w.heap.size w w' := by
  obtain ⟨F, rfl⟩ : ∃ F : Nat, d0 = F := ⟨d0.toNat, by unfold EFit at w0; omega⟩
  have hb := bounds_u64 w1
  obtain ⟨x, rfl⟩ : ∃ x : Nat, a1 = x := ⟨a1.toNat, by omega⟩
  have hx : x < 18446744073709551616 := by omega
  obtain ⟨v, E, t, g, p, f, ok, e1, hA, hD, hc⟩ := enc_dec a0 b0 c0 F a2
  have hA := W_hid hA
  have hD := W_hid hD
  have hS := W_hid shown_enc
  have hz := W_hid (dec_enc x a2 hx)
  replace hk := W_hid hk
  clear w0 w1 w2 hb
  have go1 : ∀ wr : World, Below w.heap.size w wr → KT wr := fun wr h => hk.out.keep h
  replace go1 := W_hid go1
  rcases hc with ⟨rfl, rfl, rfl, rfl, rfl, rfl, rfl⟩ | rfl
  all_goals
    go_enter Tryd.func5, Tryd.ntmps5
    go_wp2_with fail
    refine (hS.out _ (hk.out.alloc _)).mono ?_
    rintro e w1 ⟨rfl, bel1⟩
    have k0 := Blk.keep (Blk.new w 24 [.bool _, .bool _, .int .i64 _, .int .u64 (F : Int)] rfl) bel1
    replace bel1 : Below w.heap.size w w1 := ((Below.refl _ _).alloc (Nat.le_refl _) _).trans (bel1.mono (by simp))
    have z0 : w1.cell? ⟨w.heap.size, 0, none⟩ = some _ := k0.cell rfl
    have z1 : w1.cell? ⟨w.heap.size, 1, none⟩ = some _ := k0.cell rfl
    have z2 : w1.cell? ⟨w.heap.size, 2, none⟩ = some _ := k0.cell rfl
    have z3 : w1.cell? ⟨w.heap.size, 3, none⟩ = some _ := k0.cell rfl
    go_wp2_with fail
    refine (hA.out _ (go1.out _ bel1)).mono ?_
    rintro e w2 ⟨rfl, bel2⟩
    replace k0 := k0.keep bel2
    replace bel2 := bel1.trans (bel2.mono bel1.size)
    clear z0 z1 z2 z3 bel1
    go_wp2_with fail
    refine (hD.out _ (go1.out _ bel2)).mono ?_
    rintro e w3 ⟨rfl, bel3⟩
    replace k0 := k0.keep bel3
    replace bel3 := bel2.trans (bel3.mono bel2.size)
    clear bel2
    have l3 : w.heap.size < w3.heap.size := k0.lt
    have ne1 : ¬ w3.heap.size = w.heap.size := by omega
    have ne2 : ¬ w.heap.size = w3.heap.size := by omega
    have z0 : w3.cell? ⟨w.heap.size, 0, none⟩ = some _ := k0.cell rfl
    have z1 : w3.cell? ⟨w.heap.size, 1, none⟩ = some _ := k0.cell rfl
    have z2 : w3.cell? ⟨w.heap.size, 2, none⟩ = some _ := k0.cell rfl
    have z3 : w3.cell? ⟨w.heap.size, 3, none⟩ = some _ := k0.cell rfl
    rcases hz.out with ⟨E2, hZ⟩ | ⟨t2, g2, p2, f2, -, hZ, hV⟩
    · replace hZ := W_hid hZ
      obtain ⟨c, hcE⟩ : ∃ c, (E2 == 0) = c := ⟨_, rfl⟩
      go_wp2_with fail
      refine (hZ.out _ (go1.out _ (bel3.alloc bel3.size _))).mono ?_
      rintro e w4 ⟨rfl, bel4⟩
      replace bel4 : Below w.heap.size w w4 := (bel3.alloc bel3.size _).trans (bel4.mono (Nat.le_trans bel3.size (by simp)))
      cases c
      · go_wp2
        go_ret
        exact ⟨rfl, bel4.alloc bel4.size _⟩
      · go_wp2
        go_ret
        exact ⟨rfl, bel4.alloc bel4.size _⟩
    · replace hZ := W_hid hZ
      replace hV := W_hid hV
      go_wp2_with fail
      refine (hZ.out _ (go1.out _ (bel3.alloc bel3.size _))).mono ?_
      rintro e w4 ⟨rfl, bel4⟩
      replace bel4 : Below w.heap.size w w4 := (bel3.alloc bel3.size _).trans (bel4.mono (Nat.le_trans bel3.size (by simp)))
      go_wp2_with fail
      refine (hV.out _ (go1.out _ (bel4.alloc bel4.size _))).mono ?_
      rintro e w5 ⟨rfl, bel5⟩
      replace bel5 : Below w.heap.size w w5 := (bel4.alloc bel4.size _).trans (bel5.mono (Nat.le_trans bel4.size (by simp)))
      go_wp2
      go_ret
      exact ⟨rfl, bel5⟩

set_option maxRecDepth 100000 in
theorem EntryBack_lifted (os : Os) (started : os.Started) (H : Type) (enc : TypeId × Value → H) :
    ReturnsInHanded {} Tryd.checked os 5 .any (fun w args => (Rows.entryBackSpec.pre enc Tryd.prog Tryd.f5 [] false w args ∧ laidMetH Tryd.prog [("hayward/entry.kinds", Rows.laid_hayward_entry_kinds)] w) ∧ sizedMet enc Tryd.prog Tryd.f5 (OpenSpec.ofChange Rows.entryBackSpec) false w args)
      (Rows.entryBackSpec.post enc Tryd.prog Tryd.f5 false true false false) := by
  refine returnsInHanded_of_change_and (C := Tryd.checked) (X := fun w _ => laidMetH Tryd.prog [("hayward/entry.kinds", Rows.laid_hayward_entry_kinds)] w) (fun _ _ _ hh h => h.of_heap hh) (by kernel_rfl) started (by kernel_rfl) Tryd.func5
    (ChangeSpec.witness_shaped (enc := enc) (C := Tryd.checked) (os := os) (X := fun w _ => laidMetH Tryd.prog [("hayward/entry.kinds", Rows.laid_hayward_entry_kinds)] w) false (World.doorLaid Tryd.prog 400 os) #[.agg #[.bool false, .bool false, .int .i64 0, .int .u64 0], .int .u64 0, .int .i64 0] 8 rfl (World.shaped_of_RefB (by kernel_rfl) (by kernel_rfl)) (by kernel_rfl) (by kernel_rfl) (by kernel_rfl) (kinds_met os _)) ?_
  intro W base args ds gs before hval0 hW hcnd hsz0 hL _
  have hval : ∀ (j : Nat) t v, Tryd.f5.params[j]? = some t → args[j]? = some v → Value.okWide Tryd.prog W .any base t v := hval0
  have hW' := hW
  obtain ⟨p, q, hA0, hV, rfl, hfz, hnd⟩ := hW
  have hA : DataW.TrodAll enc Tryd.prog W 0 (fun _ => true) true Tryd.f5.params.toList args.toList ds p := hA0
  rw [Tryd.params5] at hA hval
  obtain ⟨v0, vs0, d0, ds0, p0, q0, hargs, rfl, rfl, h0, r0⟩ := trodAll_cons hA
  obtain ⟨v1, vs1, d1, ds1, p1, q1, rfl, rfl, rfl, h1, r1⟩ := trodAll_cons r0
  obtain ⟨v2, vs2, d2, ds2, p2, q2, rfl, rfl, rfl, h2, r2⟩ := trodAll_cons r1
  obtain ⟨rfl, rfl, rfl⟩ := trodAll_nil r2
  obtain rfl : args = #[v0, v1, v2] := by cases args; simp_all
  obtain ⟨rfl, rfl⟩ := trodVars_none hV
  have k0 := h0
  have lt0 : ∀ x ∈ p0, x.block < W.heap.size := by obtain ⟨m, hm⟩ := k0; exact DataW.trod_lt m _ _ _ hm
  obtain ⟨a0, b0, c0, d0, rfl, w0⟩ := open_entry (hval 0 24 v0 rfl rfl) h0
  obtain ⟨a1, rfl, rfl, rfl, w1⟩ := open_int Tryd.underlying22 (hval 1 22 v1 rfl rfl) h1
  obtain ⟨a2, rfl, rfl, rfl, w2⟩ := open_int Tryd.underlying3 (hval 2 3 v2 rfl rfl) h2
  clear hA0 hval0
  refine (EntryBack_walk a0 b0 c0 d0 a1 a2 W (kt_of_laid hL) w0 w1 w2).mono fun e W' ⟨he, bel⟩ => ?_
  subst he
  exact ⟨_, rfl, _, _, _, [], _, [], hW', trodAll_mk1 (shut_bool Tryd.underlying4 _), (trodAll_cons_mk (Below.trod laidOut (by kernel_rfl) (of_decide_eq_true (by kernel_rfl)) k0 bel lt0) (trodAll_cons_mk (shut_int Tryd.underlying22 w1) (trodAll_cons_mk (shut_int Tryd.underlying3 w2) trodAll_mk0))), rfl, bel.frame _, fun h => by cases h⟩

/-- The given statement of EntryBack. -/
theorem EntryBack_holds : Rows.EntryBackSaid :=
  OpenClaim.holds_of_wide 5 Tryd.f5 rfl rfl rfl rfl rfl rfl rfl ⟨rfl, rfl, rfl, rfl, rfl⟩ rfl rfl rfl rfl rfl (by kernel_rfl) Tryd.func5 (by kernel_rfl)
    (of_decide_eq_true (by kernel_rfl)) (by unfold Func.isWrapper; first | (rw [if_pos (by decide +kernel)]; kernel_rfl) | (rw [if_neg (by decide +kernel)]; exact ⟨rfl, rfl⟩))
    (fun os started H enc _ => EntryBack_lifted os started H enc)

/-- The given card of EntryBack: the row, with what it lists tied to the text of the program. -/
theorem EntryBack_card_holds : Rows.EntryBackCardSaid :=
  Claim7.holds_tied_plain_at .later [] [.data] true Rows.entryBackCard.stood.harness false
    EntryBack_holds (fun _ h => by cases h) (by kernel_rfl) (fun _ h => by cases h) entryBack_row_tie rfl ⟨rfl, rfl⟩ (by kernel_rfl) rfl
    (fun f fn hf hfn => by
      obtain rfl : f = 5 := Option.some.inj ((show Tryd.prog.funcNamed "hayward/haywardlaw07.EntryBack" = some 5 by kernel_rfl).symm.trans hf) |>.symm
      obtain rfl : fn = Tryd.f5 := (Option.some.inj (Tryd.func5.symm.trans hfn)).symm
      exact ⟨by kernel_rfl, fun j t ht => by
        rw [Tryd.params5] at ht
        have hm : t ∈ [24, 22, 3] := by simpa using Array.mem_of_getElem? ht
        have hall : ([24, 22, 3].all fun u => !Tryd.prog.wantsStandIn u) = true := by kernel_rfl
        exact (show Tryd.prog.wantsStandIn t = false by simpa using List.all_eq_true.1 hall t hm)⟩)
    (by kernel_rfl)

end Go.Proofs.YtgfoojnkgfikbaaDoor

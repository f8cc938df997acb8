/- The laws of layer 7 (package haywardlaw07) on entries and words, the third part: EntryKinds: for every input it returns true, and its argument reads as before. What the row lists of package variables is tied to the program's text by the card; no further condition. -/
import Derived.Test.YtgfoojnkgfikbaaDoorLaws07c
namespace Go.Proofs.YtgfoojnkgfikbaaDoor
open Go.ChangeShapes Go.WideShapes Go.ChangeAt Go.RowKit
set_option linter.unusedVariables false
set_option linter.unusedSimpArgs false

/-- What a word can say at each of the levels. -/
theorem rd_kinds {x : Nat} {L : Int} {t g : Bool} {p : Int} {f : Nat} (h : EN.rd x L = some (t, g, p, f)) :
    (L = 1 ∧ t = false ∧ g = false) ∨ (L = 2 ∧ t = false ∧ g = true ∧ WM.bit x 7 = 1) ∨ (L = 2 ∧ t = true ∧ g = false ∧ WM.bit x 7 = 0) ∨ (3 ≤ L ∧ t = true ∧ g = false) := by
  have hc := EN.rd_cand h
  unfold EN.rd at h
  unfold EN.cand at hc
  simp only [Prod.mk.injEq] at hc
  have hb : x / 128 % 2 = WM.bit x 7 := rfl
  rw [hb] at hc
  by_cases c1 : L = 1 ∧ EN.page x = true
  · rw [if_pos c1] at h
    simp only [Option.some.injEq, Prod.mk.injEq] at h
    exact .inl ⟨c1.1, h.1.symm, h.2.1.symm⟩
  · rw [if_neg c1] at h
    by_cases c2 : L = 2 ∧ EN.huge x = true
    · rw [if_pos c2] at h
      simp only [Option.some.injEq, Prod.mk.injEq] at h
      obtain ⟨rfl, rfl, -, -⟩ := h
      exact .inr (.inl ⟨c2.1, rfl, rfl, of_decide_eq_true hc.2.1.symm⟩)
    · rw [if_neg c2] at h
      by_cases c3 : (2 ≤ L ∧ L ≤ 4) ∧ EN.table x = true
      · rw [if_pos c3] at h
        simp only [Option.some.injEq, Prod.mk.injEq] at h
        obtain ⟨rfl, rfl, -, -⟩ := h
        have h0 : WM.bit x 7 = 0 := by
          rcases WM.bit_01 x 7 with e | e
          · exact e
          · rw [e] at hc; exact absurd hc.2.1 (by decide)
        by_cases hL : L = 2
        · exact .inr (.inr (.inl ⟨hL, rfl, rfl, h0⟩))
        · exact .inr (.inr (.inr ⟨by omega, rfl, rfl⟩))
      · rw [if_neg c3] at h
        cases h

set_option maxRecDepth 100000 in
set_option maxHeartbeats 4000000 in
theorem EntryKinds_walk (a0 : Int) (w : World) (hk : KT w) (w0 : (Lit.int .u64 a0).wf = true) :
    Calls Tryd.prog 6 #[.int .u64 a0] w fun e w' => e = .returned (.bool true) ∧ Below w.heap.size w w' := by
  have hb := bounds_u64 w0
  obtain ⟨x, rfl⟩ : ∃ x : Nat, a0 = x := ⟨a0.toNat, by omega⟩
  have hx : x < 18446744073709551616 := by omega
  have hS := W_hid shown_enc
  have hz := W_hid (fun L => dec_enc x L hx)
  have h7 : bits BinOp.and IntKind.u64 ((x : Int) / 2 ^ 7) 1 = ((WM.bit x 7 : Nat) : Int) := and_one x 7 hx
  rw [show ((2 : Int) ^ 7) = 128 from rfl] at h7
  have go1 := W_hid (fun (wr : World) (h : Below w.heap.size w wr) => hk.keep h)
  replace hk := W_hid hk
  clear w0 hb
  go_enter Tryd.func6, Tryd.ntmps6
  go_wp2_with fail
  refine (hS.out _ hk.out).mono ?_
  rintro e w1 ⟨rfl, bel1⟩
  go_wp2
  go_loopw [5, 6, 7, 8] (fun i _ _ _ wr => ∃ k : Nat, k ≤ 4 ∧ i = .int .i64 ((k + 1 : Nat) : Int) ∧ Below w.heap.size w wr) (fun i _ _ _ _ => (5 - intOf i).toNat)
  case atStart => exact ⟨0, by omega, rfl, bel1⟩
  case round =>
    obtain ⟨k, hk4, rfl, bel⟩ := hrel
    by_cases hlt : k < 4
    · have d : decide (((k + 1 : Nat) : Int) ≤ 4) = true := by simp; omega
      rcases hz.out ((k + 1 : Nat) : Int) with ⟨E2, hZ⟩ | ⟨t2, g2, p2, f2, hr, hZ, -⟩
      · replace hZ := W_hid hZ
        obtain ⟨c, hcE⟩ : ∃ c, (E2 != 0) = c := ⟨_, rfl⟩
        go_wp2_with fail
        refine (hZ.out _ (go1.out _ bel)).mono ?_
        rintro e w2 ⟨rfl, bel2⟩
        replace bel2 := bel.trans (bel2.mono bel.size)
        cases c
        · go_wp2
          go_roundw
          case rel => exact ⟨k + 1, by omega, by go_num, bel2.alloc bel2.size _⟩
          case measure => simp [intOf]; omega
        · go_wp2
          go_roundw
          case rel => exact ⟨k + 1, by omega, by go_num, bel2.alloc bel2.size _⟩
          case measure => simp [intOf]; omega
      · replace hZ := W_hid hZ
        rcases rd_kinds hr with ⟨hL, rfl, rfl⟩ | ⟨hL, rfl, rfl, h1⟩ | ⟨hL, rfl, rfl, h1⟩ | ⟨hL, rfl, rfl⟩
        · obtain rfl : k = 0 := by omega
          clear hr hL
          go_wp2_with fail
          refine (hZ.out _ (go1.out _ bel)).mono ?_
          rintro e w2 ⟨rfl, bel2⟩
          replace bel2 := bel.trans (bel2.mono bel.size)
          go_wp2
          go_roundw
          case rel => exact ⟨0 + 1, by omega, by go_num, bel2.alloc bel2.size _⟩
          case measure => simp [intOf]
        · obtain rfl : k = 1 := by omega
          rw [h1] at h7
          clear hr hL
          go_wp2_with fail
          refine (hZ.out _ (go1.out _ bel)).mono ?_
          rintro e w2 ⟨rfl, bel2⟩
          replace bel2 := bel.trans (bel2.mono bel.size)
          go_wp2
          go_roundw
          case rel => exact ⟨1 + 1, by omega, by go_num, bel2.alloc bel2.size _⟩
          case measure => simp [intOf]
        · obtain rfl : k = 1 := by omega
          rw [h1] at h7
          clear hr hL
          go_wp2_with fail
          refine (hZ.out _ (go1.out _ bel)).mono ?_
          rintro e w2 ⟨rfl, bel2⟩
          replace bel2 := bel.trans (bel2.mono bel.size)
          go_wp2
          go_roundw
          case rel => exact ⟨1 + 1, by omega, by go_num, bel2.alloc bel2.size _⟩
          case measure => simp [intOf]
        · have h23 : k = 2 ∨ k = 3 := by omega
          clear hr hL
          rcases h23 with rfl | rfl
          · go_wp2_with fail
            refine (hZ.out _ (go1.out _ bel)).mono ?_
            rintro e w2 ⟨rfl, bel2⟩
            replace bel2 := bel.trans (bel2.mono bel.size)
            go_wp2
            go_roundw
            case rel => exact ⟨2 + 1, by omega, by go_num, bel2.alloc bel2.size _⟩
            case measure => simp [intOf]
          · go_wp2_with fail
            refine (hZ.out _ (go1.out _ bel)).mono ?_
            rintro e w2 ⟨rfl, bel2⟩
            replace bel2 := bel.trans (bel2.mono bel.size)
            go_wp2
            go_roundw
            case rel => exact ⟨3 + 1, by omega, by go_num, bel2.alloc bel2.size _⟩
            case measure => simp [intOf]
    · have d : decide (((k + 1 : Nat) : Int) ≤ 4) = false := by simp; omega
      go_wp2
      go_ret
      exact ⟨rfl, bel⟩

set_option maxRecDepth 100000 in
theorem EntryKinds_lifted (os : Os) (started : os.Started) (H : Type) (enc : TypeId × Value → H) :
    ReturnsInHanded {} Tryd.checked os 6 .any (fun w args => (Rows.entryKindsSpec.pre enc Tryd.prog Tryd.f6 [] false w args ∧ laidMetH Tryd.prog [("hayward/entry.kinds", Rows.laid_hayward_entry_kinds)] w) ∧ sizedMet enc Tryd.prog Tryd.f6 (OpenSpec.ofChange Rows.entryKindsSpec) false w args)
      (Rows.entryKindsSpec.post enc Tryd.prog Tryd.f6 false true false false) := by
  refine returnsInHanded_of_change_and (C := Tryd.checked) (X := fun w _ => laidMetH Tryd.prog [("hayward/entry.kinds", Rows.laid_hayward_entry_kinds)] w) (fun _ _ _ hh h => h.of_heap hh) (by kernel_rfl) started (by kernel_rfl) Tryd.func6
    (ChangeSpec.witness_shaped (enc := enc) (C := Tryd.checked) (os := os) (X := fun w _ => laidMetH Tryd.prog [("hayward/entry.kinds", Rows.laid_hayward_entry_kinds)] w) false (World.doorLaid Tryd.prog 400 os) #[.int .u64 0] 8 rfl (World.shaped_of_RefB (by kernel_rfl) (by kernel_rfl)) (by kernel_rfl) (by kernel_rfl) (by kernel_rfl) (kinds_met os _)) ?_
  intro W base args ds gs before hval0 hW hcnd hsz0 hL _
  have hval : ∀ (j : Nat) t v, Tryd.f6.params[j]? = some t → args[j]? = some v → Value.okWide Tryd.prog W .any base t v := hval0
  have hW' := hW
  obtain ⟨p, q, hA0, hV, rfl, hfz, hnd⟩ := hW
  have hA : DataW.TrodAll enc Tryd.prog W 0 (fun _ => true) true Tryd.f6.params.toList args.toList ds p := hA0
  rw [Tryd.params6] at hA hval
  obtain ⟨v0, vs0, d0, ds0, p0, q0, hargs, rfl, rfl, h0, r0⟩ := trodAll_cons hA
  obtain ⟨rfl, rfl, rfl⟩ := trodAll_nil r0
  obtain rfl : args = #[v0] := by cases args; simp_all
  obtain ⟨rfl, rfl⟩ := trodVars_none hV
  obtain ⟨a0, rfl, rfl, rfl, w0⟩ := open_int Tryd.underlying22 (hval 0 22 v0 rfl rfl) h0
  clear hA0 hval0
  refine (EntryKinds_walk a0 W (kt_of_laid hL) w0).mono fun e W' ⟨he, bel⟩ => ?_
  subst he
  exact ⟨_, rfl, _, _, _, [], _, [], hW', trodAll_mk1 (shut_bool Tryd.underlying4 _), (trodAll_cons_mk (shut_int Tryd.underlying22 w0) trodAll_mk0), rfl, bel.frame _, fun h => by cases h⟩

/-- The given statement of EntryKinds. -/
theorem EntryKinds_holds : Rows.EntryKindsSaid :=
  OpenClaim.holds_of_wide 6 Tryd.f6 rfl rfl rfl rfl rfl rfl rfl ⟨rfl, rfl, rfl, rfl, rfl⟩ rfl rfl rfl rfl rfl (by kernel_rfl) Tryd.func6 (by kernel_rfl)
    (of_decide_eq_true (by kernel_rfl)) (by unfold Func.isWrapper; first | (rw [if_pos (by decide +kernel)]; kernel_rfl) | (rw [if_neg (by decide +kernel)]; exact ⟨rfl, rfl⟩))
    (fun os started H enc _ => EntryKinds_lifted os started H enc)

/-- The given card of EntryKinds: the row, with what it lists tied to the text of the program. -/
theorem EntryKinds_card_holds : Rows.EntryKindsCardSaid :=
  Claim7.holds_tied_plain_at .later [] [.data] true Rows.entryKindsCard.stood.harness false
    EntryKinds_holds (fun _ h => by cases h) (by kernel_rfl) (fun _ h => by cases h) entryKinds_row_tie rfl ⟨rfl, rfl⟩ (by kernel_rfl) rfl
    (fun f fn hf hfn => by
      obtain rfl : f = 6 := Option.some.inj ((show Tryd.prog.funcNamed "hayward/haywardlaw07.EntryKinds" = some 6 by kernel_rfl).symm.trans hf) |>.symm
      obtain rfl : fn = Tryd.f6 := (Option.some.inj (Tryd.func6.symm.trans hfn)).symm
      exact ⟨by kernel_rfl, fun j t ht => by
        rw [Tryd.params6] at ht
        have hm : t ∈ [22] := by simpa using Array.mem_of_getElem? ht
        have hall : ([22].all fun u => !Tryd.prog.wantsStandIn u) = true := by kernel_rfl
        exact (show Tryd.prog.wantsStandIn t = false by simpa using List.all_eq_true.1 hall t hm)⟩)
    (by kernel_rfl)

end Go.Proofs.YtgfoojnkgfikbaaDoor

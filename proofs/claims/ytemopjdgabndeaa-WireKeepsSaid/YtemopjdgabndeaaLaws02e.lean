/- The laws of layer 2, continued: WireKeeps: for every input it returns true, and its arguments read as before. No further condition. -/
import Derived.Test.YtemopjdgabndeaaLaws02b
namespace Go.Proofs.Ytemopjdgabndeaa
open Go.ChangeShapes Go.WideShapes Go.ChangeAt Go.RowKit
open Go.ChangeMaps (open_string shut_string)
set_option linter.unusedVariables false

/-- A row that is owned as far as its length is owned as far as its capacity. -/
theorem own_full {w : World} {base e g n cap : Nat} {xs : List Value} (h : w.ownsRow base e 1 (.slice (some ⟨g, 0, none⟩) n cap) n xs) :
    ∃ ys, w.ownsRow base e 1 (.slice (some ⟨g, 0, none⟩) cap cap) cap ys ∧ ys.take n = xs := by
  rcases h.2 with ⟨h', _⟩ | ⟨g', cap', cur, h', hb, hg, hnc, hcm, hcs, htake⟩
  · simp at h'
  · simp only [Value.slice.injEq, Option.some.injEq, Addr.mk.injEq, and_true, true_and] at h'
    obtain ⟨rfl, rfl⟩ := h'
    have hl : cur.toList.length = cap * 1 := by rw [Array.length_toList]; exact hcs
    refine ⟨cur.toList, ⟨hl, .inr ⟨g, cap, cur, rfl, hb, hg, Nat.le_refl _, hcm, hcs, List.take_of_length_le (by omega)⟩⟩, by simpa using htake⟩

/-- The first part of a row that is owned reads as its bytes. -/
theorem BS_first {w : World} {base e g n cap : Nat} {ys : List Value} {l : List UInt8} (h : w.ownsRow base e 1 (.slice (some ⟨g, 0, none⟩) cap cap) cap ys) (hn : n ≤ cap) (hl : l.length = n) (ht : ys.take n = cel l) : BS w (some ⟨g, 0, none⟩) n cap l := by
  rcases h.2 with ⟨h', _⟩ | ⟨g', cap', cur, h', hb, hg, hnc, hcm, _⟩
  · simp at h'
  · simp only [Value.slice.injEq, Option.some.injEq, Addr.mk.injEq, and_true, true_and] at h'
    obtain ⟨rfl, rfl⟩ := h'
    refine ⟨hl, hn, hcm, (fun h => by cases h), fun a ha j u hu => ?_⟩
    obtain rfl := Option.some.inj ha
    have hj : j < n := by
      have := (List.getElem?_eq_some_iff.1 hu).1
      rw [cel_length] at this; omega
    rw [Addr.add_lit, Nat.zero_add, h.cellAt j (by omega)]
    rw [← ht, List.getElem?_take, if_pos hj] at hu
    exact hu

/-- What is owned stays owned where all that was there stays. -/
theorem own_below {w w' : World} {base e size n cap g B : Nat} {xs : List Value} (h : w.ownsRow base e size (.slice (some ⟨g, 0, none⟩) n cap) n xs) (hb : Below B w w') (hB : w.heap.size ≤ B) : w'.ownsRow base e size (.slice (some ⟨g, 0, none⟩) n cap) n xs := by
  have hg := own_le h
  rcases h.2 with ⟨h', _⟩ | ⟨g', cap', cur, h', h1, h2, h3⟩
  · simp at h'
  · simp only [Value.slice.injEq, Option.some.injEq, Addr.mk.injEq, and_true, true_and] at h'
    obtain ⟨rfl, rfl⟩ := h'
    exact ⟨h.1, .inr ⟨g, cap, cur, rfl, h1, by rw [hb.block g (by omega)]; exact h2, h3⟩⟩

theorem grown_trans {a b c : World} {row : Option Nat} (h : a.grownBy b row) (k : b.grownBy c row) : a.grownBy c row :=
  ⟨k.os.trans h.os, k.tape.trans h.tape, k.output.trans h.output, Nat.le_trans h.size k.size, fun i hi hne => (k.block i (Nat.lt_of_lt_of_le hi h.size) hne).trans (h.block i hi hne)⟩

theorem text_ab (ao : Option Addr) (n cap : Nat) (l : List UInt8) (w : World) (hb : BS w ao n cap l) (hs : n + 6 ≤ 281474976710656) :
    Calls Try.prog 12 #[.slice ao n cap, .string { data := #[97, 98] }] w fun e w' => ∃ g, e = .returned (.tuple #[.slice (some ⟨g, 0, none⟩) (n + 6) (n + 6), .int .i64 0]) ∧
      w'.ownsRow w.heap.size 5 1 (.slice (some ⟨g, 0, none⟩) (n + 6) (n + 6)) (n + 6) (cel (l ++ [2, 0, 0, 0, 97, 98])) ∧ Below w.heap.size w w' := by
  have h := Text_fits ao n cap l { data := #[97, 98] } w hb (by show (2 : Nat) ≤ 1048576; omega) (by show n + (4 + 2) ≤ _; omega)
  refine Calls.mono h ?_
  rintro e w' ⟨g, rfl, hown, bel⟩
  refine ⟨g, rfl, ?_, bel⟩
  rw [List.append_assoc] at hown
  exact hown

theorem strOf_append (a b : List UInt8) : strOf (a ++ b) = strOf a ++ strOf b := by
  apply ByteArray.ext
  simp [strOf, ByteArray.data_append]

set_option maxHeartbeats 2000000 in
theorem WireKeeps_walk (a0 : Option Addr) (len0 cap0 : Nat) (z0 : List Int) (a1 : Int) (w : World) (w0 : IsRow .u8 w a0 len0 cap0 z0) (w1 : (Lit.int .u64 a1).wf = true) (s0 : cap0 * 1 ≤ 140737488351232) :
    Calls Try.prog 6 #[.slice a0 len0 cap0, .int .u64 a1] w fun e w' => e = .returned (.bool true) ∧ Below w.heap.size w w' := by
  obtain ⟨l, hb⟩ := bytes_of_row w0
  obtain ⟨k, rfl, hk⟩ := nat_u64 w1
  obtain ⟨i0, hi, hz0, hz1, hz2⟩ := info_parts info_u8
  have hc0 := hb.2.1
  have hl0 : Hid (l.length = len0) := hb.1
  have hmx : len0 + 20 ≤ maxLen := by unfold maxLen; omega
  clear w0 w1
  go_enter Try.func6, Try.ntmps6
  go_wp2_with (first
    | (at_make; refine wpList_make_own _ rfl _ _ 22 rfl w.heap.size 5 i0 (.int .u8 0) 1 Try.underlying22 hi hz0 hz1 .i64 .i64 _ (len0 + 20) rfl rfl (by omega) (by rw [hz2]; omega) hmx (Nat.le_refl _) ?_; intro w1 hown1 hgrow1)
    | (at_builtin; refine wpList_append_fits_any _ rfl (.tmp 16) (.tmp 17) 22 rfl w.heap.size 5 i0 1 Try.underlying22 hi hz1 _ 0 (len0 + 20) [] rfl hown1 a0 len0 cap0 (cel l) rfl (by rw [cel_length]; exact hb.1.trans (Nat.mul_one _).symm) hb.none (hb.below ((Below.refl _ _).grown hgrow1 (Nat.le_refl _) (fun k h => by cases h)) (Nat.le_refl _)).2.2.2.2 (cel_one l) (by omega) ?_; intro w2 hown2 hgrow2))
  simp only [Nat.zero_add, List.nil_append] at hown2
  have bel2 : Below w.heap.size w w2 := ((Below.refl _ _).grown hgrow1 (Nat.le_refl _) (fun k h => by cases h)).grown hgrow2 hgrow1.size (fun k h => by cases h; exact Nat.le_refl _)
  obtain ⟨ys2, hfull2, ht2⟩ := own_full hown2
  clear hown1 hgrow1 hgrow2 hown2
  go_loopw [7] (fun i wr => ∃ (q : Nat) (ys : List Value), len0 ≤ q ∧ q ≤ len0 + 20 ∧ i = .int .i64 q ∧ wr.ownsRow w.heap.size 5 1 (.slice (some ⟨w.heap.size, 0, none⟩) (len0 + 20) (len0 + 20)) (len0 + 20) ys ∧ Hid (ys.take len0 = cel l) ∧
      Hid (∀ j, len0 ≤ j → j < q → ys[j]? = some (.int .u8 77)) ∧ Below w.heap.size w wr) (fun i _ => len0 + 20 - (intOf i).toNat)
  case atStart => exact ⟨len0, ys2, Nat.le_refl _, by omega, rfl, hfull2, ht2, fun j h1 h2 => by omega, bel2⟩
  case round =>
    obtain ⟨q, ys, hq1, hq2, rfl, hown, ht, hset, bel⟩ := hrel
    by_cases hlt : q < len0 + 20
    · have hyl : ys.length = len0 + 20 := by have := hown.1; omega
      have hcell : wr.cell? ⟨w.heap.size, q, none⟩ = some (ys[q]?.getD undef) := by rw [hown.cellAt q (by omega), List.getElem?_eq_getElem (by omega)]; rfl
      have hfz := hown.frozenAt q
      have hst := hown.stored q (.int .u8 77)
      have hset' : Hid (∀ j, len0 ≤ j → j < q + 1 → (ys.set q (.int .u8 77))[j]? = some (.int .u8 77)) := by
        intro j h1 h2
        rw [List.getElem?_set]
        split
        · next h => subst h; rw [if_pos (by omega)]
        · next h => exact hset.out j h1 (by omega)
      have ht' : Hid ((ys.set q (.int .u8 77)).take len0 = cel l) := by
        show _ = _
        rw [List.take_set, List.set_eq_of_length_le (by rw [List.length_take]; omega)]; exact ht.out
      clear hyl
      generalize ys[q]?.getD undef = old at *
      go_wp2
      go_roundw
      case rel => exact ⟨q + 1, _, by omega, by omega, by go_num, hst.1, ht', hset', bel.setCell (Nat.le_refl _) _⟩
      case measure => simp [intOf]; omega
    · have hq : q = len0 + 20 := by omega
      subst hq
      obtain ⟨wa, rfl⟩ : ∃ wa, wa = wr := ⟨wr, rfl⟩
      have hbm := BS_first hown (by omega) hl0.out ht.out
      go_wp2_with fail
      refine (Number_any (some ⟨w.heap.size, 0, none⟩) len0 (len0 + 20) l k hk wa hbm (by omega)).mono ?_
      rintro e w4 ⟨g4, rfl, hown4, bel4⟩
      have hg4 := own_le hown4
      have hownm4 := own_below hown bel4 (Nat.le_refl _)
      have hbm4 := hbm.below bel4 (Nat.le_refl _)
      have bel04 := bel.trans (bel4.mono bel.size)
      go_wp2_with fail
      refine (text_ab (some ⟨w.heap.size, 0, none⟩) len0 (len0 + 20) l w4 hbm4 (by omega)).mono ?_
      rintro e w5 ⟨g5, rfl, hown5, bel5⟩
      have hg5 := own_le hown5
      have hownm5 := own_below hownm4 bel5 (Nat.le_refl _)
      have hown45 := own_below hown4 bel5 (Nat.le_refl _)
      have bel05 := bel04.trans (bel5.mono bel04.size)
      have hgw : w.heap.size < wa.heap.size := (own_le hown).2
      clear hown hbm hbm4 hown4 hownm4
      go_wp2_with fail
      go_loopw [11] (fun i wx => ∃ (q : Nat) (zs : List Value), q ≤ len0 + 8 ∧ i = .int .i64 q ∧ wx.ownsRow wa.heap.size 5 1 (.slice (some ⟨g4, 0, none⟩) (len0 + 8) (len0 + 8)) (len0 + 8) zs ∧ w5.grownBy wx (some g4)) (fun i _ => len0 + 8 - (intOf i).toNat)
      case atStart => exact ⟨0, _, by omega, rfl, hown45, World.grownBy.refl _ _⟩
      case round =>
        obtain ⟨q, zs, hq, rfl, hownx, hgr⟩ := hrel
        by_cases hltx : q < len0 + 8
        · have hzl : zs.length = len0 + 8 := by have := hownx.1; omega
          have hcell : wr.cell? ⟨g4, q, none⟩ = some (zs[q]?.getD undef) := by rw [hownx.cellAt q (by omega), List.getElem?_eq_getElem (by omega)]; rfl
          have hfz := hownx.frozenAt q
          have hst := hownx.stored q (.int .u8 1)
          clear hzl
          generalize zs[q]?.getD undef = old at *
          go_wp2
          go_roundw
          case rel => exact ⟨q + 1, _, by omega, by go_num, hst.1, grown_trans hgr hst.2⟩
          case measure => simp [intOf]; omega
        · have hq2 : q = len0 + 8 := by omega
          subst hq2
          have hgrw : w5.grownBy wr (some g4) := hgr
          have hm := hownm5.kept hgrw (.inr (by simp [Value.ownBlock]; omega))
          have hy5 := hown5.kept hgrw (.inr (by simp [Value.ownBlock]; omega))
          have bel06 : Below w.heap.size w wr := bel05.grown hgrw bel05.size (fun k h => by cases h; omega)
          have hbw := hb.below bel06 (Nat.le_refl _)
          have hbm6 := BS_first hm (by omega) hl0.out ht.out
          have hcells : ∀ q, len0 ≤ q → q < len0 + 20 → wr.cell? ⟨w.heap.size, q, none⟩ = some (.int .u8 77) := fun q h1 h2 => by rw [hm.cellAt q (by omega)]; exact hset.out q h1 h2
          clear hownm5 hown5 hown45 hgr hgrw hownx bel bel4 bel5 bel04 bel05 hset
          go_wp2_with fail
          go_loop [12] (fun i => ∃ q : Nat, len0 ≤ q ∧ q ≤ len0 + 20 ∧ i = .int .i64 q) (fun i => len0 + 20 - (intOf i).toNat)
          case atStart => exact ⟨len0, Nat.le_refl _, by omega, rfl⟩
          case round =>
            obtain ⟨q, h1, h2, rfl⟩ := hrel
            by_cases hlt3 : q < len0 + 20
            · have hc := hcells q h1 hlt3
              go_wp2
              go_round
              case rel => exact ⟨q + 1, by omega, by omega, by go_num⟩
              case measure => simp [intOf]; omega
            · have hq3 : q = len0 + 20 := by omega
              subst hq3
              have hsz : (strOf l).size ≤ 140737488351232 := by rw [strOf_size, hl0.out]; omega
              have c1 : ∀ t, (convert 22 9 (.slice (some ⟨w.heap.size, 0, none⟩) len0 (len0 + 20))).run Try.prog (wr.drewN t) = .ok (.string (strOf l)) (wr.drewN t) := fun t => conv_bs (w := wr.drewN t) hbm6
              have c2 : ∀ t, (convert 22 9 (.slice a0 len0 cap0)).run Try.prog (wr.drewN t) = .ok (.string (strOf l)) (wr.drewN t) := fun t => conv_bs (w := wr.drewN t) hbw
              have c3 : ∀ t, (convert 22 9 (.slice (some ⟨g5, 0, none⟩) (len0 + 6) (len0 + 6))).run Try.prog (wr.drewN t) = .ok (.string (strOf l ++ { data := #[2, 0, 0, 0, 97, 98] })) (wr.drewN t) := fun t => by
                have := conv_bs (w := wr.drewN t) (BS_own hy5)
                rw [strOf_append] at this
                exact this
              go_wp2_with fail
              go_quiet (fail)
              go_wp2
              go_ret
              exact ⟨rfl, below_drewN bel06 nq⟩

set_option maxRecDepth 100000 in
theorem WireKeeps_lifted (os : Os) (started : os.Started) (H : Type) (enc : TypeId × Value → H) :
    ReturnsInHanded {} Try.checked os 6 .any (Rows.wireKeepsSpec.pre6 enc Try.prog Try.f6 Rows.wireKeepsRow.domain false) (Rows.wireKeepsSpec.post enc Try.prog Try.f6 false true false false) := by
  refine returnsInHanded_of_change_sized (C := Try.checked) (by kernel_rfl) started (by kernel_rfl) Try.func6
    (ChangeSpec.witness6 (enc := enc) (C := Try.checked) false ⟨#[], #[.slice none 0 0, .int .u64 0], []⟩ 8 (by kernel_rfl) (by kernel_rfl) (by kernel_rfl) (by kernel_rfl)) ?_
  intro W base args ds gs before hval0 hW hcnd hsz0 _
  have hsz : (DataW.weightsEach Try.prog (Try.f6.params.toList ++ Rows.wireKeepsSpec.plain.varTypes Try.prog) (ds ++ gs)).all (· ≤ reachBytes) = true := hsz0
  clear hsz0
  have hval : ∀ (j : Nat) t v, Try.f6.params[j]? = some t → args[j]? = some v → Value.okWide Try.prog W .any base t v := hval0
  have hW' := hW
  obtain ⟨p, q, hA0, hV, rfl, hfz, hnd⟩ := hW
  have hA : DataW.TrodAll enc Try.prog W 0 (fun _ => true) true Try.f6.params.toList args.toList ds p := hA0
  rw [Try.params6] at hA hval hsz
  obtain ⟨v0, vs0, d0, ds0, p0, q0, hargs, rfl, rfl, h0, r0⟩ := trodAll_cons hA
  obtain ⟨v1, vs1, d1, ds1, p1, q1, rfl, rfl, rfl, h1, r1⟩ := trodAll_cons r0
  obtain ⟨rfl, rfl, rfl⟩ := trodAll_nil r1
  obtain rfl : args = #[v0, v1] := by cases args; simp_all
  obtain ⟨rfl, rfl⟩ := trodVars_none hV
  obtain ⟨a0, len0, cap0, rfl⟩ := okWide_slice Try.underlying22 (hval 0 22 v0 rfl rfl)
  have k0 := h0
  have lt0 : ∀ x ∈ p0, x.block < W.heap.size := by obtain ⟨m, hm⟩ := k0; exact DataW.trod_lt m _ _ _ hm
  obtain ⟨z0, w0, s0⟩ : ∃ zs, IsRow .u8 W a0 len0 cap0 zs ∧ cap0 * 1 ≤ 140737488351232 := by
    obtain ⟨fuel, hf⟩ := h0
    rcases open_ints Try.underlying22 Try.underlying5 (by kernel_rfl) hf with ⟨hcs, _⟩ | ⟨x, l, c, zs, hcs, _, hl, hm, hz, hx, hcell, hwz⟩
    · simp [Value.cells] at hcs
      obtain ⟨rfl, rfl, rfl⟩ := hcs
      exact ⟨[], .inl ⟨rfl, rfl, rfl, rfl⟩, by simp⟩
    · simp [Value.cells] at hcs
      obtain ⟨rfl, rfl, rfl⟩ := hcs
      have hs := sized_slice hsz (j := 0) (t := 22) (e := 5) rfl (congrArg some (Prod.mk.inj hx).1) Try.underlying22
      rw [show Try.prog.bytesOf 5 = 1 from by kernel_rfl] at hs
      have hz2 : zs.length = cap0 := by simpa using hz
      simp only [lits, List.length_map, List.length_take, List.length_drop, reachBytes] at hs
      exact ⟨zs, .inr ⟨_, rfl, hl, hm, hz2, hcell, hwz⟩, by omega⟩
  obtain ⟨a1, rfl, rfl, rfl, w1⟩ := open_int Try.underlying23 (hval 1 23 v1 rfl rfl) h1
  clear hA0 hval0
  refine (WireKeeps_walk a0 len0 cap0 z0 a1 W w0 w1 s0).mono fun e W' ⟨he, bel⟩ => ?_
  subst he
  exact ⟨_, rfl, _, _, _, [], _, [], hW', trodAll_mk1 (shut_bool Try.underlying4 _), (trodAll_cons_mk (Below.trod laidOut (by kernel_rfl) (of_decide_eq_true (by kernel_rfl)) k0 bel lt0) (trodAll_cons_mk (shut_int Try.underlying23 w1) trodAll_mk0)), rfl, bel.frame _, fun h => by cases h⟩

/-- The given statement of WireKeeps. -/
theorem WireKeeps_holds : Rows.WireKeepsSaid :=
  OpenClaim.holds_of_wide 6 Try.f6 rfl rfl rfl rfl rfl rfl rfl ⟨rfl, rfl, rfl, rfl, rfl⟩ rfl rfl rfl rfl rfl (by kernel_rfl) Try.func6 (by kernel_rfl)
    (of_decide_eq_true (by kernel_rfl)) (by unfold Func.isWrapper; first | (rw [if_pos (by decide +kernel)]; kernel_rfl) | (rw [if_neg (by decide +kernel)]; exact ⟨rfl, rfl⟩))
    (fun os started H enc _ => WireKeeps_lifted os started H enc)

end Go.Proofs.Ytemopjdgabndeaa

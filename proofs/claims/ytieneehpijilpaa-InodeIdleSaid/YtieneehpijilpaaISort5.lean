/- partitionOrdered. -/
import Derived.Test.YtieneehpijilpaaISort4
import Derived.Deep.CutRange
import Derived.Deep.CutBlock
namespace Go.Proofs.Ytieneehpijilpaa
open Go.ChangeShapes Go.WideShapes Go.ChangeAt Go.RowKit
set_option linter.unusedVariables false
set_option linter.unusedSimpArgs false
namespace IS

set_option maxRecDepth 100000 in
set_option maxHeartbeats 8000000 in
theorem partition_any (g N cap : Nat) (rest : List Value) (a b pv : Nat) (X : Nat → Nat) (w : World) (h : RW w g N X rest) (hap : a ≤ pv) (hpb : pv < b) (hb : b ≤ N) (hN : N ≤ 65536) (hcap : N ≤ cap) :
    Calls Try.prog 86 #[.slice (some ⟨g, 0, none⟩) N cap, .int .i64 (a : Int), .int .i64 (b : Int), .int .i64 (pv : Int)] w fun e w' => ∃ (m : Nat) (t : Bool), e = .returned (.tuple #[.int .i64 (m : Int), .bool t]) ∧ a ≤ m ∧ m < b ∧ Two g g w w' ∧ ∃ Y, RW w' g N Y rest ∧ SO.Sw a b X Y ∧ SO.Parted Y a b m := by
  have ba : a < N := by omega
  have bp : pv < N := by omega
  have da := h.cell a ba
  have dp := h.cell pv bp
  have gz := h.fz
  have hR2 := W_hid (h.swap a pv ba bp)
  have hT2 := W_hid (((Two.refl g g w).setCell (p := ⟨g, a, none⟩) (.inl rfl) (.int .i64 (X pv : Int))).setCell (p := ⟨g, pv, none⟩) (.inl rfl) (.int .i64 (X a : Int)))
  have hS2 := W_hid ((SO.Sw.refl (a := a) (b := b) (X := X)).step (i := a) (j := pv) (Nat.le_refl _) (by omega) hap hpb)
  obtain ⟨va, hva⟩ : ∃ v, X a = v := ⟨_, rfl⟩
  obtain ⟨vp, hvp⟩ : ∃ v, X pv = v := ⟨_, rfl⟩
  rw [hva, hvp] at hR2 hT2
  rw [hva] at da
  rw [hvp] at dp
  obtain ⟨i0, hi0⟩ : ∃ i, a + 1 = i := ⟨_, rfl⟩
  obtain ⟨j0, hj0⟩ : ∃ j, b - 1 = j := ⟨_, rfl⟩
  have ei : (a : Int) + 1 = (i0 : Int) := by omega
  have ej : (b : Int) - 1 = (j0 : Int) := by omega
  have hj1 : j0 + 1 = b := by omega
  replace hva := W_hid hva
  replace hvp := W_hid hvp
  clear h hj0
  generalize hX2 : SO.swp X a pv = X2 at *
  replace hX2 := W_hid hX2
  have hM0 : Hid (SO.Mid X2 a b i0 j0) := ⟨fun p h1 h2 => by omega, fun p h1 h2 => by omega⟩
  replace hi0 := W_hid hi0
  have hbd : i0 ≤ j0 + 1 ∧ a < i0 ∧ j0 < b := by have := hi0.out; omega
  replace hj1 := W_hid hj1
  go_enter Try.func86, Try.ntmps86
  obtain ⟨V, hV⟩ : ∃ V, World.drew ((w.setCell ⟨g, a, none⟩ (.int .i64 (vp : Int))).setCell ⟨g, pv, none⟩ (.int .i64 (va : Int))) = V := ⟨_, rfl⟩
  have hR : RW V g N X2 rest := by rw [← hV]; exact hR2.out.drew
  have hT : Two g g w V := by rw [← hV]; exact ⟨hT2.out.os, hT2.out.tape, hT2.out.output, hT2.out.size, hT2.out.block⟩
  replace hR := W_hid hR
  replace hT := W_hid hT
  clear hR2 hT2
  go_upto_region 1 with fail
  go_cut [] from 12 to 167 (fun wc => wc = V)
  case first =>
    rename_i J1 K1 hJ1 hK1
    have hcs : pv = a ∨ ¬ pv = a := by omega
    rcases hcs with hqa | hne
    case' inl =>
      obtain rfl : va = vp := hva.out.symm.trans (by rw [← hqa]; exact hvp.out)
      subst hqa
    case' inr => have hne2 : ¬ a = pv := fun e => hne e.symm
    all_goals
      go_region
      try rw [hV]
      refine hK1 _ _ (Met.intro (hJ1 _ _ ?_))
      repeat apply Exists.intro
      exact ⟨rfl, rfl⟩
  case rest =>
  obtain rfl := hcut
  clear hV da dp gz
  go_upto_block 0 with fail
  go_cut [10] from 12 to 167 (fun v wx => ∃ i : Nat, v = .int .i64 (i : Int) ∧ i0 ≤ i ∧ i ≤ j0 + 1 ∧ Hid (SO.Mid X2 a b i j0) ∧ Hid (i ≤ j0 → X2 a ≤ X2 i) ∧ Hid (RW wx g N X2 rest) ∧ Hid (Two g g w wx))
  case first =>
    rename_i J1 K1 hJ1 hK1
    go_wp2_with fail
    go_loopw [10] (fun v wr => ∃ i : Nat, v = .int .i64 (i : Int) ∧ i0 ≤ i ∧ i ≤ j0 + 1 ∧ Hid (SO.Mid X2 a b i j0) ∧ Hid (RW wr g N X2 rest) ∧ Hid (Two g g w wr)) (fun v _ => j0 + 1 - (intOf v).toNat)
    case atStart => exact ⟨i0, rfl, Nat.le_refl _, hbd.1, hM0, hR, hT⟩
    case round =>
      obtain ⟨i, rfl, hi1, hi2, hM, hR, hT⟩ := hrel
      by_cases hle : i ≤ j0
      · have bi : i < N := by omega
        have di := hR.out.cell i bi
        have da := hR.out.cell a ba
        have gz := hR.out.fz
        obtain ⟨vi, hvi⟩ : ∃ v, X2 i = v := ⟨_, rfl⟩
        obtain ⟨vb, hvb⟩ : ∃ v, X2 a = v := ⟨_, rfl⟩
        rw [hvi] at di
        rw [hvb] at da
        have hL := W_hid (fun t => Calls.quiet_of_same (Less_any vi vb (wr.drewN t)))
        by_cases hl : vi < vb
        · rw [show decide (vi < vb) = true by simp [hl]] at hL
          have hM2 := W_hid (SO.mid_i hM.out (by rw [hvi, hvb]; exact hl))
          replace hl := W_hid hl
          replace hvi := W_hid hvi
          replace hvb := W_hid hvb
          go_wp2_with fail
          go_quiet ((go_at_call 84; exact hL.out _))
          go_wp2_with fail
          go_roundw
          case rel => exact ⟨i + 1, by go_num, by omega, by omega, hM2, W_hid (hR.out.drewN nq), W_hid (hT.out.drew nq)⟩
          case measure => first | (simp [intOf]; omega) | simp [intOf]
        · rw [show decide (vi < vb) = false by simp [hl]] at hL
          have hst : Hid (i ≤ j0 → X2 a ≤ X2 i) := fun _ => by rw [hvi, hvb]; omega
          replace hl := W_hid hl
          replace hvi := W_hid hvi
          replace hvb := W_hid hvb
          go_wp2_with fail
          go_quiet ((go_at_call 84; exact hL.out _))
          go_wp2_with fail
          go_meet
          exact ⟨i, rfl, hi1, hi2, hM, hst, W_hid (hR.out.drewN nq), W_hid (hT.out.drew nq)⟩
      · have hst : Hid (i ≤ j0 → X2 a ≤ X2 i) := fun h => absurd h hle
        go_wp2_with fail
        go_quiet (fail)
        go_wp2_with fail
        go_meet
        exact ⟨i, rfl, hi1, hi2, hM, hst, W_hid (hR.out.drewN nq), W_hid (hT.out.drew nq)⟩
  case rest =>
  clear hR hT hM0
  obtain ⟨i, rfl, hi1, hi2, hM, hst, hR, hT⟩ := hcut
  obtain ⟨W1, rfl⟩ : ∃ W, W = wc := ⟨wc, rfl⟩
  go_upto_block 2 with fail
  go_cut [11] from 12 to 167 (fun v wx => ∃ j : Nat, v = .int .i64 (j : Int) ∧ i ≤ j + 1 ∧ j ≤ j0 ∧ Hid (SO.Mid X2 a b i j) ∧ Hid (i ≤ j → X2 a ≤ X2 i) ∧ Hid (i ≤ j → X2 j < X2 a) ∧ Hid (RW wx g N X2 rest) ∧ Hid (Two g g w wx))
  case first =>
    rename_i J1 K1 hJ1 hK1
    go_wp2_with fail
    go_loopw [11] (fun v wr => ∃ j : Nat, v = .int .i64 (j : Int) ∧ i ≤ j + 1 ∧ j ≤ j0 ∧ Hid (SO.Mid X2 a b i j) ∧ Hid (RW wr g N X2 rest) ∧ Hid (Two g g w wr)) (fun v _ => (intOf v).toNat)
    case atStart => exact ⟨j0, rfl, hi2, Nat.le_refl _, hM, hR, hT⟩
    case round =>
      obtain ⟨j, rfl, hj1, hj2, hM, hR, hT⟩ := hrel
      by_cases hle : i ≤ j
      · have bj : j < N := by omega
        have dj := hR.out.cell j bj
        have da := hR.out.cell a ba
        have gz := hR.out.fz
        obtain ⟨vj, hvj⟩ : ∃ v, X2 j = v := ⟨_, rfl⟩
        obtain ⟨vb, hvb⟩ : ∃ v, X2 a = v := ⟨_, rfl⟩
        rw [hvj] at dj
        rw [hvb] at da
        have hL := W_hid (fun t => Calls.quiet_of_same (Less_any vj vb (wr.drewN t)))
        by_cases hl : vj < vb
        · rw [show decide (vj < vb) = true by simp [hl]] at hL
          have hst2 : Hid (i ≤ j → X2 j < X2 a) := fun _ => by rw [hvj, hvb]; exact hl
          have hst1 : Hid (i ≤ j → X2 a ≤ X2 i) := fun h => hst.out (by omega)
          replace hl := W_hid hl
          replace hvj := W_hid hvj
          replace hvb := W_hid hvb
          go_wp2_with fail
          go_quiet ((go_at_call 84; exact hL.out _))
          go_wp2_with fail
          go_meet
          exact ⟨j, rfl, hj1, hj2, hM, hst1, hst2, W_hid (hR.out.drewN nq), W_hid (hT.out.drew nq)⟩
        · rw [show decide (vj < vb) = false by simp [hl]] at hL
          obtain ⟨j', hj'⟩ : ∃ j', j = j' + 1 := ⟨j - 1, by omega⟩
          have ejj : (j : Int) - 1 = (j' : Int) := by omega
          have hM2 : Hid (SO.Mid X2 a b i j') := by
            subst hj'
            exact SO.mid_j hM.out (by rw [hvj, hvb]; omega)
          replace hl := W_hid hl
          replace hvj := W_hid hvj
          replace hvb := W_hid hvb
          have hjb : Hid (i ≤ j' + 1 ∧ j' ≤ j0 ∧ j' < j) := by show _ ∧ _ ∧ _; omega
          replace hj' := W_hid hj'
          go_wp2_with fail
          go_quiet ((go_at_call 84; exact hL.out _))
          go_wp2_with fail
          go_roundw
          case rel => exact ⟨j', rfl, hjb.out.1, hjb.out.2.1, hM2, W_hid (hR.out.drewN nq), W_hid (hT.out.drew nq)⟩
          case measure => (have := hjb.out.2.2); first | (simp [intOf]; omega) | simp [intOf]
      · have hst1 : Hid (i ≤ j → X2 a ≤ X2 i) := fun h => absurd h hle
        have hst2 : Hid (i ≤ j → X2 j < X2 a) := fun h => absurd h hle
        go_wp2_with fail
        go_quiet (fail)
        go_wp2_with fail
        go_meet
        exact ⟨j, rfl, hj1, hj2, hM, hst1, hst2, W_hid (hR.out.drewN nq), W_hid (hT.out.drew nq)⟩
  case rest =>
  clear hR hT hM hst
  obtain ⟨j, rfl, hj1, hj2, hM, hst1, hst2, hR, hT⟩ := hcut
  by_cases hgt : j < i
  · clear hst1 hst2
    have bj : j < N := by omega
    have dj := hR.out.cell j bj
    have da := hR.out.cell a ba
    have gz := hR.out.fz
    obtain ⟨vj, hvj⟩ : ∃ v, X2 j = v := ⟨_, rfl⟩
    obtain ⟨vb, hvb⟩ : ∃ v, X2 a = v := ⟨_, rfl⟩
    have hR2 := W_hid (hR.out.swap j a bj ba)
    have hT2 := W_hid ((hT.out.setCell (p := ⟨g, j, none⟩) (.inl rfl) (.int .i64 (X2 a : Int))).setCell (p := ⟨g, a, none⟩) (.inl rfl) (.int .i64 (X2 j : Int)))
    have haj : a ≤ j := by have := hbd.2.1; omega
    have hS5 := W_hid ((hS2.out).step (i := j) (j := a) haj (by omega) (Nat.le_refl _) (by omega))
    have hP5 := W_hid (SO.mid_done hM.out haj (by omega))
    rw [hvb, hvj] at hR2 hT2
    rw [hvj] at dj
    rw [hvb] at da
    have hjb : j < b := by omega
    replace hvj := W_hid hvj
    replace hvb := W_hid hvb
    obtain ⟨V5, hV5⟩ : ∃ V, World.drew ((wc.setCell ⟨g, j, none⟩ (.int .i64 (vb : Int))).setCell ⟨g, a, none⟩ (.int .i64 (vj : Int))) = V := ⟨_, rfl⟩
    have hR5 : RW V5 g N (SO.swp X2 j a) rest := by rw [← hV5]; exact hR2.out.drew
    have hT5 : Two g g w V5 := by rw [← hV5]; exact ⟨hT2.out.os, hT2.out.tape, hT2.out.output, hT2.out.size, hT2.out.block⟩
    replace hR5 := W_hid hR5
    replace hT5 := W_hid hT5
    clear hR2 hT2 hR hT hM
    have hcs : j = a ∨ ¬ j = a := by omega
    rcases hcs with hqa | hne
    case' inl =>
      obtain rfl : vj = vb := hvj.out.symm.trans (by rw [hqa]; exact hvb.out)
      subst hqa
    case' inr => have hne2 : ¬ a = j := fun e => hne e.symm
    all_goals
      go_wp2_with fail
      go_region
      try rw [hV5]
      go_wp2_with fail
      go_ret2
      exact ⟨j, true, rfl, haj, hjb, hT5.out, _, hR5.out, hS5.out, hP5.out⟩
  · 
    have hij : i < j := by
      have h1 := hst1.out (by omega)
      have h2 := hst2.out (by omega)
      rcases Nat.lt_or_ge i j with hh | hh
      · exact hh
      · exfalso
        have : i = j := by omega
        subst this
        omega
    have bi : i < N := by omega
    have bj : j < N := by omega
    have di := hR.out.cell i bi
    have dj := hR.out.cell j bj
    have gz := hR.out.fz
    obtain ⟨vi, hvi⟩ : ∃ v, X2 i = v := ⟨_, rfl⟩
    obtain ⟨vj, hvj⟩ : ∃ v, X2 j = v := ⟨_, rfl⟩
    have hR2 := W_hid (hR.out.swap i j bi bj)
    have hT2 := W_hid ((hT.out.setCell (p := ⟨g, i, none⟩) (.inl rfl) (.int .i64 (X2 j : Int))).setCell (p := ⟨g, j, none⟩) (.inl rfl) (.int .i64 (X2 i : Int)))
    have hai : a < i := by have := hbd.2.1; omega
    have hS5 := W_hid ((hS2.out).step (i := i) (j := j) (by omega) (by omega) (by omega) (by omega))
    have hM5 := W_hid (SO.mid_swap hM.out hai hij (hst1.out (by omega)) (hst2.out (by omega)))
    rw [hvi, hvj] at hR2 hT2
    rw [hvi] at di
    rw [hvj] at dj
    obtain ⟨j', hj'⟩ : ∃ j', j - 1 = j' := ⟨_, rfl⟩
    have ejj : (j : Int) - 1 = (j' : Int) := by omega
    rw [hj'] at hM5
    have hjb : Hid (i + 1 ≤ j' + 1 ∧ j' ≤ j0 ∧ j' < j) := by show _ ∧ _ ∧ _; omega
    replace hj' := W_hid hj'
    replace hvi := W_hid hvi
    replace hvj := W_hid hvj
    obtain ⟨V4, hV4⟩ : ∃ V, World.drew ((wc.setCell ⟨g, i, none⟩ (.int .i64 (vj : Int))).setCell ⟨g, j, none⟩ (.int .i64 (vi : Int))) = V := ⟨_, rfl⟩
    have hR4 : RW V4 g N (SO.swp X2 i j) rest := by rw [← hV4]; exact hR2.out.drew
    have hT4 : Two g g w V4 := by rw [← hV4]; exact ⟨hT2.out.os, hT2.out.tape, hT2.out.output, hT2.out.size, hT2.out.block⟩
    replace hR4 := W_hid hR4
    replace hT4 := W_hid hT4
    have hne1 : ¬ i = j := by omega
    have hne2 : ¬ j = i := by omega
    clear hR2 hT2 hR hT hM
    go_wp2_with fail
    go_region
    try rw [hV4]
    clear hV4 di dj gz
    go_upto_block 4 with fail
    go_wp2_with fail
    obtain ⟨W2, rfl⟩ : ∃ W, W = V4 := ⟨V4, rfl⟩
    go_loopw [10, 11] (fun u v wr => ∃ (i j : Nat) (Y : Nat → Nat), u = .int .i64 (i : Int) ∧ v = .int .i64 (j : Int) ∧ i0 ≤ i ∧ i ≤ j + 1 ∧ j ≤ j0 ∧ Hid (SO.Mid Y a b i j) ∧ Hid (RW wr g N Y rest) ∧ Hid (SO.Sw a b X Y) ∧ Hid (Two g g w wr)) (fun _ v _ => (intOf v).toNat)
    case atStart => exact ⟨i + 1, j', _, by go_num, rfl, by omega, hjb.out.1, hjb.out.2.1, hM5, hR4, hS5, hT4⟩
    case round =>
      clear hM5 hR4 hS5 hT4 hst1 hst2
      obtain ⟨i1, jm, Y, rfl, rfl, hi1, hij, hjj, hM, hR, hS, hT⟩ := hrel
      go_upto_block 6 with fail
      go_cut [10] from 99 to 152 (fun v wx => ∃ i : Nat, v = .int .i64 (i : Int) ∧ i0 ≤ i ∧ i ≤ jm + 1 ∧ Hid (SO.Mid Y a b i jm) ∧ Hid (i ≤ jm → Y a ≤ Y i) ∧ Hid (RW wx g N Y rest) ∧ Hid (Two g g w wx))
      case first =>
        rename_i J1 K1 hJ1 hK1
        go_wp2_with fail
        go_loopw [10] (fun v wr => ∃ i : Nat, v = .int .i64 (i : Int) ∧ i0 ≤ i ∧ i ≤ jm + 1 ∧ Hid (SO.Mid Y a b i jm) ∧ Hid (RW wr g N Y rest) ∧ Hid (Two g g w wr)) (fun v _ => jm + 1 - (intOf v).toNat)
        case atStart => exact ⟨i1, rfl, hi1, hij, hM, hR, hT⟩
        case round =>
          obtain ⟨i, rfl, hi1, hi2, hM, hR, hT⟩ := hrel
          by_cases hle : i ≤ jm
          · have bi : i < N := by omega
            have di := hR.out.cell i bi
            have da := hR.out.cell a ba
            have gz := hR.out.fz
            obtain ⟨vi, hvi⟩ : ∃ v, Y i = v := ⟨_, rfl⟩
            obtain ⟨vb, hvb⟩ : ∃ v, Y a = v := ⟨_, rfl⟩
            rw [hvi] at di
            rw [hvb] at da
            have hL := W_hid (fun t => Calls.quiet_of_same (Less_any vi vb (wr.drewN t)))
            by_cases hl : vi < vb
            · rw [show decide (vi < vb) = true by simp [hl]] at hL
              have hM2 := W_hid (SO.mid_i hM.out (by rw [hvi, hvb]; exact hl))
              replace hl := W_hid hl
              replace hvi := W_hid hvi
              replace hvb := W_hid hvb
              go_wp2_with fail
              go_quiet ((go_at_call 84; exact hL.out _))
              go_wp2_with fail
              go_roundw
              case rel => exact ⟨i + 1, by go_num, by omega, by omega, hM2, W_hid (hR.out.drewN nq), W_hid (hT.out.drew nq)⟩
              case measure => first | (simp [intOf]; omega) | simp [intOf]
            · rw [show decide (vi < vb) = false by simp [hl]] at hL
              have hst : Hid (i ≤ jm → Y a ≤ Y i) := fun _ => by rw [hvi, hvb]; omega
              replace hl := W_hid hl
              replace hvi := W_hid hvi
              replace hvb := W_hid hvb
              go_wp2_with fail
              go_quiet ((go_at_call 84; exact hL.out _))
              go_wp2_with fail
              go_meet
              exact ⟨i, rfl, hi1, hi2, hM, hst, W_hid (hR.out.drewN nq), W_hid (hT.out.drew nq)⟩
          · have hst : Hid (i ≤ jm → Y a ≤ Y i) := fun h => absurd h hle
            go_wp2_with fail
            go_quiet (fail)
            go_wp2_with fail
            go_meet
            exact ⟨i, rfl, hi1, hi2, hM, hst, W_hid (hR.out.drewN nq), W_hid (hT.out.drew nq)⟩
      case rest =>
      clear hR hT hM
      obtain ⟨i, rfl, hi1, hi2, hM, hst, hR, hT⟩ := hcut
      obtain ⟨W3, rfl⟩ : ∃ W, W = wc := ⟨wc, rfl⟩
      go_upto_block 8 with fail
      go_cut [11] from 99 to 152 (fun v wx => ∃ j : Nat, v = .int .i64 (j : Int) ∧ i ≤ j + 1 ∧ j ≤ jm ∧ Hid (SO.Mid Y a b i j) ∧ Hid (i ≤ j → Y a ≤ Y i) ∧ Hid (i ≤ j → Y j < Y a) ∧ Hid (RW wx g N Y rest) ∧ Hid (Two g g w wx))
      case first =>
        rename_i J1 K1 hJ1 hK1
        go_wp2_with fail
        go_loopw [11] (fun v wr => ∃ j : Nat, v = .int .i64 (j : Int) ∧ i ≤ j + 1 ∧ j ≤ jm ∧ Hid (SO.Mid Y a b i j) ∧ Hid (RW wr g N Y rest) ∧ Hid (Two g g w wr)) (fun v _ => (intOf v).toNat)
        case atStart => exact ⟨jm, rfl, hi2, Nat.le_refl _, hM, hR, hT⟩
        case round =>
          obtain ⟨j, rfl, hj1, hj2, hM, hR, hT⟩ := hrel
          by_cases hle : i ≤ j
          · have bj : j < N := by omega
            have dj := hR.out.cell j bj
            have da := hR.out.cell a ba
            have gz := hR.out.fz
            obtain ⟨vj, hvj⟩ : ∃ v, Y j = v := ⟨_, rfl⟩
            obtain ⟨vb, hvb⟩ : ∃ v, Y a = v := ⟨_, rfl⟩
            rw [hvj] at dj
            rw [hvb] at da
            have hL := W_hid (fun t => Calls.quiet_of_same (Less_any vj vb (wr.drewN t)))
            by_cases hl : vj < vb
            · rw [show decide (vj < vb) = true by simp [hl]] at hL
              have hst2 : Hid (i ≤ j → Y j < Y a) := fun _ => by rw [hvj, hvb]; exact hl
              have hst1 : Hid (i ≤ j → Y a ≤ Y i) := fun h => hst.out (by omega)
              replace hl := W_hid hl
              replace hvj := W_hid hvj
              replace hvb := W_hid hvb
              go_wp2_with fail
              go_quiet ((go_at_call 84; exact hL.out _))
              go_wp2_with fail
              go_meet
              exact ⟨j, rfl, hj1, hj2, hM, hst1, hst2, W_hid (hR.out.drewN nq), W_hid (hT.out.drew nq)⟩
            · rw [show decide (vj < vb) = false by simp [hl]] at hL
              obtain ⟨j', hj'⟩ : ∃ j', j = j' + 1 := ⟨j - 1, by omega⟩
              have ejj : (j : Int) - 1 = (j' : Int) := by omega
              have hM2 : Hid (SO.Mid Y a b i j') := by
                subst hj'
                exact SO.mid_j hM.out (by rw [hvj, hvb]; omega)
              replace hl := W_hid hl
              replace hvj := W_hid hvj
              replace hvb := W_hid hvb
              have hjb : Hid (i ≤ j' + 1 ∧ j' ≤ jm ∧ j' < j) := by show _ ∧ _ ∧ _; omega
              replace hj' := W_hid hj'
              go_wp2_with fail
              go_quiet ((go_at_call 84; exact hL.out _))
              go_wp2_with fail
              go_roundw
              case rel => exact ⟨j', rfl, hjb.out.1, hjb.out.2.1, hM2, W_hid (hR.out.drewN nq), W_hid (hT.out.drew nq)⟩
              case measure => (have := hjb.out.2.2); first | (simp [intOf]; omega) | simp [intOf]
          · have hst1 : Hid (i ≤ j → Y a ≤ Y i) := fun h => absurd h hle
            have hst2 : Hid (i ≤ j → Y j < Y a) := fun h => absurd h hle
            go_wp2_with fail
            go_quiet (fail)
            go_wp2_with fail
            go_meet
            exact ⟨j, rfl, hj1, hj2, hM, hst1, hst2, W_hid (hR.out.drewN nq), W_hid (hT.out.drew nq)⟩
      case rest =>
      clear hR hT hM hst
      obtain ⟨j, rfl, hj1, hj2, hM, hst1, hst2, hR, hT⟩ := hcut
      by_cases hgt : j < i
      · clear hst1 hst2
        have bj : j < N := by omega
        have dj := hR.out.cell j bj
        have da := hR.out.cell a ba
        have gz := hR.out.fz
        obtain ⟨vj, hvj⟩ : ∃ v, Y j = v := ⟨_, rfl⟩
        obtain ⟨vb, hvb⟩ : ∃ v, Y a = v := ⟨_, rfl⟩
        have hR2 := W_hid (hR.out.swap j a bj ba)
        have hT2 := W_hid ((hT.out.setCell (p := ⟨g, j, none⟩) (.inl rfl) (.int .i64 (Y a : Int))).setCell (p := ⟨g, a, none⟩) (.inl rfl) (.int .i64 (Y j : Int)))
        have haj : a ≤ j := by have := hbd.2.1; omega
        have hS5 := W_hid ((hS.out).step (i := j) (j := a) haj (by omega) (Nat.le_refl _) (by omega))
        have hP5 := W_hid (SO.mid_done hM.out haj (by omega))
        rw [hvb, hvj] at hR2 hT2
        rw [hvj] at dj
        rw [hvb] at da
        have hjb : j < b := by omega
        replace hvj := W_hid hvj
        replace hvb := W_hid hvb
        obtain ⟨V5, hV5⟩ : ∃ V, World.drew ((wc.setCell ⟨g, j, none⟩ (.int .i64 (vb : Int))).setCell ⟨g, a, none⟩ (.int .i64 (vj : Int))) = V := ⟨_, rfl⟩
        have hR5 : RW V5 g N (SO.swp Y j a) rest := by rw [← hV5]; exact hR2.out.drew
        have hT5 : Two g g w V5 := by rw [← hV5]; exact ⟨hT2.out.os, hT2.out.tape, hT2.out.output, hT2.out.size, hT2.out.block⟩
        replace hR5 := W_hid hR5
        replace hT5 := W_hid hT5
        clear hR2 hT2 hR hT hM
        have hcs : j = a ∨ ¬ j = a := by omega
        rcases hcs with hqa | hne
        case' inl =>
          obtain rfl : vj = vb := hvj.out.symm.trans (by rw [hqa]; exact hvb.out)
          subst hqa
        case' inr => have hne2 : ¬ a = j := fun e => hne e.symm
        all_goals
          go_wp2_with fail
          go_region
          try rw [hV5]
          go_wp2_with fail
          go_ret2
          exact ⟨j, false, rfl, haj, hjb, hT5.out, _, hR5.out, hS5.out, hP5.out⟩
      · 
        have hij : i < j := by
          have h1 := hst1.out (by omega)
          have h2 := hst2.out (by omega)
          rcases Nat.lt_or_ge i j with hh | hh
          · exact hh
          · exfalso
            have : i = j := by omega
            subst this
            omega
        have bi : i < N := by omega
        have bj : j < N := by omega
        have di := hR.out.cell i bi
        have dj := hR.out.cell j bj
        have gz := hR.out.fz
        obtain ⟨vi, hvi⟩ : ∃ v, Y i = v := ⟨_, rfl⟩
        obtain ⟨vj, hvj⟩ : ∃ v, Y j = v := ⟨_, rfl⟩
        have hR2 := W_hid (hR.out.swap i j bi bj)
        have hT2 := W_hid ((hT.out.setCell (p := ⟨g, i, none⟩) (.inl rfl) (.int .i64 (Y j : Int))).setCell (p := ⟨g, j, none⟩) (.inl rfl) (.int .i64 (Y i : Int)))
        have hai : a < i := by have := hbd.2.1; omega
        have hS5 := W_hid ((hS.out).step (i := i) (j := j) (by omega) (by omega) (by omega) (by omega))
        have hM5 := W_hid (SO.mid_swap hM.out hai hij (hst1.out (by omega)) (hst2.out (by omega)))
        rw [hvi, hvj] at hR2 hT2
        rw [hvi] at di
        rw [hvj] at dj
        obtain ⟨j', hj'⟩ : ∃ j', j - 1 = j' := ⟨_, rfl⟩
        have ejj : (j : Int) - 1 = (j' : Int) := by omega
        rw [hj'] at hM5
        have hjb : Hid (i + 1 ≤ j' + 1 ∧ j' ≤ j0 ∧ j' < j) := by show _ ∧ _ ∧ _; omega
        replace hj' := W_hid hj'
        replace hvi := W_hid hvi
        replace hvj := W_hid hvj
        obtain ⟨V4, hV4⟩ : ∃ V, World.drew ((wc.setCell ⟨g, i, none⟩ (.int .i64 (vj : Int))).setCell ⟨g, j, none⟩ (.int .i64 (vi : Int))) = V := ⟨_, rfl⟩
        have hR4 : RW V4 g N (SO.swp Y i j) rest := by rw [← hV4]; exact hR2.out.drew
        have hT4 : Two g g w V4 := by rw [← hV4]; exact ⟨hT2.out.os, hT2.out.tape, hT2.out.output, hT2.out.size, hT2.out.block⟩
        replace hR4 := W_hid hR4
        replace hT4 := W_hid hT4
        have hne1 : ¬ i = j := by omega
        have hne2 : ¬ j = i := by omega
        clear hR2 hT2 hR hT hM
        go_wp2_with fail
        go_region
        try rw [hV4]
        clear hV4 di dj gz
        go_wp2_with fail
        go_roundw
        case rel => exact ⟨i + 1, j', _, by go_num, rfl, by omega, hjb.out.1, by have := hjb.out.2.1; omega, hM5, hR4, hS5, hT4⟩
        case measure => (have := hjb.out.2.2); first | (simp [intOf]; omega) | simp [intOf]
end IS
end Go.Proofs.Ytieneehpijilpaa

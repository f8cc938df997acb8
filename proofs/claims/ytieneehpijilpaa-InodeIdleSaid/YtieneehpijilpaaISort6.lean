/- partialInsertionSortOrdered. -/
import Derived.Test.YtieneehpijilpaaISort4
import Derived.Deep.CutRange
import Derived.Deep.CutBlock
namespace Go.Proofs.Ytieneehpijilpaa
open Go.ChangeShapes Go.WideShapes Go.ChangeAt Go.RowKit
set_option linter.unusedVariables false
set_option linter.unusedSimpArgs false
namespace IS

theorem up_cut {Y : Nat → Nat} {a b c : Nat} (h : SO.Up Y a b) (hc : c ≤ b) : SO.Up Y a c := fun p q h1 h2 h3 => h p q h1 h2 (by omega)
theorem up_away {Y : Nat → Nat} {a i p q : Nat} (h : SO.Up Y a i) (hp : i ≤ p) (hq : i ≤ q) : SO.Up (SO.swp Y p q) a i := fun r s h1 h2 h3 => by
  rw [SO.swp_o _ (by omega) (by omega), SO.swp_o _ (by omega) (by omega)]
  exact h r s h1 h2 h3

set_option maxRecDepth 100000 in
set_option maxHeartbeats 8000000 in
theorem partins_any (g N cap : Nat) (rest : List Value) (a b : Nat) (X : Nat → Nat) (w : World) (h : RW w g N X rest) (hab : a < b) (hb : b ≤ N) (hN : N ≤ 65536) (hcap : N ≤ cap) (hBel : SO.Bel X a b) :
    Calls Try.prog 83 #[.slice (some ⟨g, 0, none⟩) N cap, .int .i64 (a : Int), .int .i64 (b : Int)] w fun e w' => ∃ t : Bool, e = .returned (.bool t) ∧ Two g g w w' ∧ ∃ Y, RW w' g N Y rest ∧ SO.Sw a b X Y ∧ (t = true → SO.Up Y a b) := by
  have h := W_hid h
  have hBel := W_hid hBel
  have hU0 : Hid (SO.Up X a (a + 1)) := SO.up_one X a
  obtain ⟨n, hn⟩ : ∃ n, b - a = n := ⟨_, rfl⟩
  have hni : (b : Int) - (a : Int) = (n : Int) := by omega
  replace hn := W_hid hn
  go_enter Try.func83, Try.ntmps83
  go_wp2_with fail
  go_loopw [7, 8] (fun u v wr => ∃ (i c : Nat) (Z : Nat → Nat), u = .int .i64 (i : Int) ∧ v = .int .i64 (c : Int) ∧ c ≤ 5 ∧ a + 1 ≤ i ∧ i ≤ b ∧ Hid (RW wr g N Z rest) ∧ Hid (SO.Sw a b X Z) ∧ Hid (SO.Up Z a i) ∧ Hid (Two g g w wr)) (fun _ v _ => 5 - (intOf v).toNat)
  case atStart => exact ⟨a + 1, 0, X, by go_num, rfl, by omega, Nat.le_refl _, by omega, h, W_hid .refl, hU0, W_hid (Two.refl _ _ _)⟩
  case round =>
    clear hU0
    obtain ⟨i1, c, Z, rfl, rfl, hc, hi1, hi2, hR, hS, hU, hT⟩ := hrel
    by_cases hc5 : c < 5
    · go_upto_block 2 with fail
      go_cut [7] from 13 to 132 (fun u wx => ∃ i : Nat, u = .int .i64 (i : Int) ∧ a + 1 ≤ i ∧ i ≤ b ∧ Hid (RW wx g N Z rest) ∧ Hid (SO.Up Z a i) ∧ Hid (Two g g w wx))
      case first =>
        go_wp2_with fail
        go_loopw [7] (fun u wr => ∃ i : Nat, u = .int .i64 (i : Int) ∧ a + 1 ≤ i ∧ i ≤ b ∧ Hid (RW wr g N Z rest) ∧ Hid (SO.Up Z a i) ∧ Hid (Two g g w wr)) (fun u _ => b - (intOf u).toNat)
        case atStart => exact ⟨i1, rfl, hi1, hi2, hR, hU, hT⟩
        case round =>
          clear hR hU hT hi1 hi2
          obtain ⟨i, rfl, hi1, hi2, hR, hU, hT⟩ := hrel
          by_cases hlt : i < b
          · obtain ⟨k, hk⟩ : ∃ k, i - 1 = k := ⟨_, rfl⟩
            have ek : (i : Int) - 1 = (k : Int) := by omega
            have di := hR.out.cell i (by omega)
            have dk := hR.out.cell k (by omega)
            have gz := hR.out.fz
            obtain ⟨vi, hvi⟩ : ∃ v, Z i = v := ⟨_, rfl⟩
            obtain ⟨vk, hvk⟩ : ∃ v, Z k = v := ⟨_, rfl⟩
            rw [hvi] at di
            rw [hvk] at dk
            have hL := W_hid (fun t => Calls.quiet_of_same (Less_any vi vk (wr.drewN t)))
            have bk : k < N := by omega
            by_cases hl : vi < vk
            · rw [show decide (vi < vk) = true by simp [hl]] at hL
              replace hl := W_hid hl
              replace hvi := W_hid hvi
              replace hvk := W_hid hvk
              replace hk := W_hid hk
              go_wp2_with fail
              go_quiet ((go_at_call 84; exact hL.out _))
              go_wp2_with fail
              go_meet
              exact ⟨i, rfl, hi1, hi2, W_hid (hR.out.drewN nq), hU, W_hid (hT.out.drew nq)⟩
            · rw [show decide (vi < vk) = false by simp [hl]] at hL
              have hU2 := W_hid (SO.up_next hU.out (by omega) (by rw [hk, hvi, hvk]; omega))
              replace hl := W_hid hl
              replace hvi := W_hid hvi
              replace hvk := W_hid hvk
              replace hk := W_hid hk
              go_wp2_with fail
              go_quiet ((go_at_call 84; exact hL.out _))
              go_wp2_with fail
              go_roundw
              case rel => exact ⟨i + 1, by go_num, by omega, by omega, W_hid (hR.out.drewN nq), hU2, W_hid (hT.out.drew nq)⟩
              case measure => first | (simp [intOf]; omega) | simp [intOf]
          · go_wp2_with fail
            go_quiet (fail)
            go_wp2_with fail
            go_meet
            exact ⟨i, rfl, hi1, hi2, W_hid (hR.out.drewN nq), hU, W_hid (hT.out.drew nq)⟩
      case rest =>
      clear hR hU hT hi1 hi2
      obtain ⟨i, rfl, hi1, hi2, hR, hU, hT⟩ := hcut
      by_cases hib : i = b
      · have hU2 := hU.out
        rw [hib] at hU2
        have hib2 : ((i : Int) == (b : Int)) = true := by simp [hib]
        replace hU2 := W_hid hU2
        subst hib
        go_wp2_with fail
        go_ret
        exact ⟨true, rfl, hT.out, Z, hR.out, hS.out, fun _ => hU2.out⟩
      · have hib2 : ((i : Int) == (b : Int)) = false := by simp; omega
        have hlt : i < b := by omega
        by_cases h50 : n < 50
        · go_wp2_with fail
          go_ret
          exact ⟨false, rfl, hT.out, Z, hR.out, hS.out, fun h => by cases h⟩
        · obtain ⟨k, hk⟩ : ∃ k, i = k + 1 := ⟨i - 1, by omega⟩
          have ek : (i : Int) - 1 = (k : Int) := by omega
          have hak : a ≤ k := by omega
          have bI := (show i < N by omega)
          have bJ := (show k < N by omega)
          have dI := hR.out.cell i bI
          have dJ := hR.out.cell k bJ
          have gz := hR.out.fz
          obtain ⟨vI, hvI⟩ : ∃ v, Z i = v := ⟨_, rfl⟩
          obtain ⟨vJ, hvJ⟩ : ∃ v, Z k = v := ⟨_, rfl⟩
          have hR2 := W_hid (hR.out.swap i k bI bJ)
          have hT2 := W_hid ((hT.out.setCell (p := ⟨g, i, none⟩) (.inl rfl) (.int .i64 (Z k : Int))).setCell (p := ⟨g, k, none⟩) (.inl rfl) (.int .i64 (Z i : Int)))
          rw [hvI, hvJ] at hR2 hT2
          rw [hvI] at dI
          rw [hvJ] at dJ
          replace hvI := W_hid hvI
          replace hvJ := W_hid hvJ
          obtain ⟨V1, hV1⟩ : ∃ V, World.drew ((wc.setCell ⟨g, i, none⟩ (.int .i64 (vJ : Int))).setCell ⟨g, k, none⟩ (.int .i64 (vI : Int))) = V := ⟨_, rfl⟩
          have hRs : RW V1 g N (SO.swp Z i k) rest := by rw [← hV1]; exact hR2.out.drew
          have hTs : Two g g w V1 := by rw [← hV1]; exact ⟨hT2.out.os, hT2.out.tape, hT2.out.output, hT2.out.size, hT2.out.block⟩
          replace hRs := W_hid hRs
          replace hTs := W_hid hTs
          have hne1 : ¬ i = k := by omega
          have hne2 : ¬ k = i := by omega
          clear hR2 hT2
          have hSs := W_hid (hS.out.step (i := i) (j := k) (by omega) hlt hak (by omega))
          have hUs : Hid (SO.Up (SO.swp Z i k) a k) := up_away (up_cut hU.out (by omega)) (by omega) (Nat.le_refl _)
          have hU1 : Hid (k = a → SO.Up (SO.swp Z i k) a i) := fun e => by subst e; rw [hk]; exact SO.up_one _ _
          replace hk := W_hid hk
          clear hR hT hU hS
          go_wp2_with fail
          go_region
          try rw [hV1]
          clear hV1 dI dJ gz
          generalize SO.swp Z i k = Z1 at *
          obtain ⟨n2, hn2⟩ : ∃ n2, i - a = n2 := ⟨_, rfl⟩
          have hn2i : (i : Int) - (a : Int) = (n2 : Int) := by omega
          have hk2 : Hid (i = k + 1) := hk
          obtain ⟨n3, hn3⟩ : ∃ n3, b - i = n3 := ⟨_, rfl⟩
          have hn3i : (b : Int) - (i : Int) = (n3 : Int) := by omega
          have hbn : n2 ≤ 65536 ∧ n3 ≤ 65536 := by omega
          replace hn2 := W_hid hn2
          replace hn3 := W_hid hn3
          clear hk
          go_upto_if 61 with fail
          go_cut [9] from 13 to 132 (fun _ wx => ∃ Y : Nat → Nat, Hid (RW wx g N Y rest) ∧ Hid (SO.Sw a b X Y) ∧ Hid (SO.Up Y a i) ∧ Hid (Two g g w wx))
          case first =>
            by_cases h2 : 2 ≤ n2
            · go_wp2_with fail
              go_loopw [9] (fun v wr => ∃ (j : Nat) (Y : Nat → Nat), v = .int .i64 (j : Int) ∧ a ≤ j ∧ j ≤ k ∧ Hid (RW wr g N Y rest) ∧ Hid (SO.Sw a b X Y) ∧ Hid (SO.Ins Y a k j) ∧ Hid (Two g g w wr)) (fun v _ => (intOf v).toNat)
              case atStart => exact ⟨k, Z1, rfl, hak, Nat.le_refl _, hRs, hSs, W_hid (SO.ins_start hUs.out), hTs⟩
              case round =>
                clear hRs hSs hUs hTs hU1
                obtain ⟨j, Y, rfl, haj, hjk, hR, hS, hI, hT⟩ := hrel
                by_cases hj1 : 1 ≤ j
                · obtain ⟨q, hq⟩ : ∃ q, j = q + 1 := ⟨j - 1, by omega⟩
                  have eq : (j : Int) - 1 = (q : Int) := by omega
                  have dj := hR.out.cell j (by omega)
                  have dq := hR.out.cell q (by omega)
                  have gz := hR.out.fz
                  obtain ⟨vj, hvj⟩ : ∃ v, Y j = v := ⟨_, rfl⟩
                  obtain ⟨vq, hvq⟩ : ∃ v, Y q = v := ⟨_, rfl⟩
                  rw [hvj] at dj
                  rw [hvq] at dq
                  have hL := W_hid (fun t => Calls.quiet_of_same (Less_any vj vq (wr.drewN t)))
                  by_cases hl : vj < vq
                  · rw [show decide (vj < vq) = true by simp [hl]] at hL
                    have hja : a < j := by
                      rcases Nat.lt_or_ge a j with hh | hh
                      · exact hh
                      · exfalso
                        rcases SO.bel_sw hBel.out hS.out with h0 | h0
                        · omega
                        · have h1 := h0 j haj (by omega)
                          rw [show a - 1 = q by omega, hvj, hvq] at h1
                          omega
                    have hI2 : Hid (SO.Ins (SO.swp Y j q) a k q) := by
                      have h1 := SO.ins_swap hI.out hja hjk (by rw [show j - 1 = q by omega, hvj, hvq]; exact hl)
                      rw [show j - 1 = q by omega] at h1
                      exact h1
                    have hS2 := W_hid (hS.out.step (i := j) (j := q) haj (by omega) (by omega) (by omega))
                    have hqq : Hid (a ≤ q ∧ q ≤ k ∧ q < j) := by show _ ∧ _ ∧ _; omega
                    replace hl := W_hid hl
                    replace hvj := W_hid hvj
                    replace hvq := W_hid hvq
                    replace hq := W_hid hq
                    go_wp2_with fail
                    go_quiet ((go_at_call 84; exact hL.out _))
                    go_wp2_with fail
                    have hqx := hq.out
                    obtain ⟨W, hW⟩ : ∃ W, wr.drewN nq = W := ⟨_, rfl⟩
                    replace hR : RW W g N Y rest := by rw [← hW]; exact hR.out.drewN nq
                    replace hT : Two g g w W := by rw [← hW]; exact hT.out.drew nq
                    replace hR := W_hid hR
                    replace hT := W_hid hT
                    rw [hW]
                    clear hW dj dq gz hS hI
                    have bI := (show j < N by omega)
                    have bJ := (show q < N by omega)
                    have dI := hR.out.cell j bI
                    have dJ := hR.out.cell q bJ
                    have gz := hR.out.fz
                    obtain ⟨vI, hvI⟩ : ∃ v, Y j = v := ⟨_, rfl⟩
                    obtain ⟨vJ, hvJ⟩ : ∃ v, Y q = v := ⟨_, rfl⟩
                    have hR2 := W_hid (hR.out.swap j q bI bJ)
                    have hT2 := W_hid ((hT.out.setCell (p := ⟨g, j, none⟩) (.inl rfl) (.int .i64 (Y q : Int))).setCell (p := ⟨g, q, none⟩) (.inl rfl) (.int .i64 (Y j : Int)))
                    rw [hvI, hvJ] at hR2 hT2
                    rw [hvI] at dI
                    rw [hvJ] at dJ
                    replace hvI := W_hid hvI
                    replace hvJ := W_hid hvJ
                    obtain ⟨V2, hV2⟩ : ∃ V, World.drew ((W.setCell ⟨g, j, none⟩ (.int .i64 (vJ : Int))).setCell ⟨g, q, none⟩ (.int .i64 (vI : Int))) = V := ⟨_, rfl⟩
                    have hRt : RW V2 g N (SO.swp Y j q) rest := by rw [← hV2]; exact hR2.out.drew
                    have hTt : Two g g w V2 := by rw [← hV2]; exact ⟨hT2.out.os, hT2.out.tape, hT2.out.output, hT2.out.size, hT2.out.block⟩
                    replace hRt := W_hid hRt
                    replace hTt := W_hid hTt
                    have hne1 : ¬ j = q := by omega
                    have hne2 : ¬ q = j := by omega
                    clear hR2 hT2
                    clear hR hT hqx
                    go_region
                    try rw [hV2]
                    clear hV2 dI dJ gz
                    go_wp2_with fail
                    go_roundw
                    case rel => exact ⟨q, _, rfl, hqq.out.1, hqq.out.2.1, hRt, hS2, hI2, hTt⟩
                    case measure => (have := hqq.out.2.2); first | (simp [intOf]; omega) | simp [intOf]
                  · rw [show decide (vj < vq) = false by simp [hl]] at hL
                    have hfin : Hid (SO.Up Y a i) := by
                      have h1 := SO.ins_done hI.out haj hjk (.inr (by rw [show j - 1 = q by omega, hvj, hvq]; omega))
                      rw [← hk2.out] at h1
                      exact h1
                    replace hl := W_hid hl
                    replace hvj := W_hid hvj
                    replace hvq := W_hid hvq
                    replace hq := W_hid hq
                    go_wp2_with fail
                    go_quiet ((go_at_call 84; exact hL.out _))
                    go_wp2_with fail
                    go_meet
                    exact ⟨Y, W_hid (hR.out.drewN nq), hS, hfin, W_hid (hT.out.drew nq)⟩
                · have hfin : Hid (SO.Up Y a i) := by
                    have h1 := SO.ins_done hI.out haj hjk (.inl (by omega))
                    rw [← hk2.out] at h1
                    exact h1
                  go_wp2_with fail
                  go_meet
                  exact ⟨Y, hR, hS, hfin, hT⟩
            · have hfin := W_hid (hU1.out (by have := hn2.out; have := hk2.out; omega))
              go_wp2_with fail
              go_meet
              exact ⟨Z1, hRs, hSs, hfin, hTs⟩
          case rest =>
          clear hRs hSs hUs hTs hU1
          obtain ⟨Z2, hRs, hSs, hUs, hTs⟩ := hcut
          by_cases h3 : 2 ≤ n3
          · go_wp2_with fail
            obtain ⟨W4, rfl⟩ : ∃ W, W = wc := ⟨wc, rfl⟩
            go_loopw [10] (fun v wr => ∃ (j : Nat) (Y : Nat → Nat), v = .int .i64 (j : Int) ∧ i + 1 ≤ j ∧ j ≤ b ∧ Hid (RW wr g N Y rest) ∧ Hid (SO.Sw a b X Y) ∧ Hid (SO.Up Y a i) ∧ Hid (Two g g w wr)) (fun v _ => b - (intOf v).toNat)
            case atStart => exact ⟨i + 1, Z2, by go_num, Nat.le_refl _, by omega, hRs, hSs, hUs, hTs⟩
            case round =>
              clear hRs hSs hUs hTs
              obtain ⟨j, Y, rfl, hij, hjb, hR, hS, hU, hT⟩ := hrel
              by_cases hjl : j < b
              · obtain ⟨q, hq⟩ : ∃ q, j = q + 1 := ⟨j - 1, by omega⟩
                have eq : (j : Int) - 1 = (q : Int) := by omega
                have dj := hR.out.cell j (by omega)
                have dq := hR.out.cell q (by omega)
                have gz := hR.out.fz
                obtain ⟨vj, hvj⟩ : ∃ v, Y j = v := ⟨_, rfl⟩
                obtain ⟨vq, hvq⟩ : ∃ v, Y q = v := ⟨_, rfl⟩
                rw [hvj] at dj
                rw [hvq] at dq
                have hL := W_hid (fun t => Calls.quiet_of_same (Less_any vj vq (wr.drewN t)))
                have bq : q < N := by omega
                by_cases hl : vj < vq
                · rw [show decide (vj < vq) = true by simp [hl]] at hL
                  have hU2 : Hid (SO.Up (SO.swp Y j q) a i) := up_away hU.out (by omega) (by omega)
                  have hS2 := W_hid (hS.out.step (i := j) (j := q) (by omega) (by omega) (by omega) (by omega))
                  replace hl := W_hid hl
                  replace hvj := W_hid hvj
                  replace hvq := W_hid hvq
                  replace hq := W_hid hq
                  go_wp2_with fail
                  go_quiet ((go_at_call 84; exact hL.out _))
                  go_wp2_with fail
                  have hqx := hq.out
                  obtain ⟨W, hW⟩ : ∃ W, wr.drewN nq = W := ⟨_, rfl⟩
                  replace hR : RW W g N Y rest := by rw [← hW]; exact hR.out.drewN nq
                  replace hT : Two g g w W := by rw [← hW]; exact hT.out.drew nq
                  replace hR := W_hid hR
                  replace hT := W_hid hT
                  rw [hW]
                  clear hW dj dq gz hS hU
                  have bI := (show j < N by omega)
                  have bJ := (show q < N by omega)
                  have dI := hR.out.cell j bI
                  have dJ := hR.out.cell q bJ
                  have gz := hR.out.fz
                  obtain ⟨vI, hvI⟩ : ∃ v, Y j = v := ⟨_, rfl⟩
                  obtain ⟨vJ, hvJ⟩ : ∃ v, Y q = v := ⟨_, rfl⟩
                  have hR2 := W_hid (hR.out.swap j q bI bJ)
                  have hT2 := W_hid ((hT.out.setCell (p := ⟨g, j, none⟩) (.inl rfl) (.int .i64 (Y q : Int))).setCell (p := ⟨g, q, none⟩) (.inl rfl) (.int .i64 (Y j : Int)))
                  rw [hvI, hvJ] at hR2 hT2
                  rw [hvI] at dI
                  rw [hvJ] at dJ
                  replace hvI := W_hid hvI
                  replace hvJ := W_hid hvJ
                  obtain ⟨V2, hV2⟩ : ∃ V, World.drew ((W.setCell ⟨g, j, none⟩ (.int .i64 (vJ : Int))).setCell ⟨g, q, none⟩ (.int .i64 (vI : Int))) = V := ⟨_, rfl⟩
                  have hRt : RW V2 g N (SO.swp Y j q) rest := by rw [← hV2]; exact hR2.out.drew
                  have hTt : Two g g w V2 := by rw [← hV2]; exact ⟨hT2.out.os, hT2.out.tape, hT2.out.output, hT2.out.size, hT2.out.block⟩
                  replace hRt := W_hid hRt
                  replace hTt := W_hid hTt
                  have hne1 : ¬ j = q := by omega
                  have hne2 : ¬ q = j := by omega
                  clear hR2 hT2
                  clear hR hT hqx
                  go_region
                  try rw [hV2]
                  clear hV2 dI dJ gz
                  go_wp2_with fail
                  go_roundw
                  case rel => exact ⟨j + 1, _, by go_num, by omega, by omega, hRt, hS2, hU2, hTt⟩
                  case measure => first | (simp [intOf]; omega) | simp [intOf]
                · rw [show decide (vj < vq) = false by simp [hl]] at hL
                  replace hl := W_hid hl
                  replace hvj := W_hid hvj
                  replace hvq := W_hid hvq
                  replace hq := W_hid hq
                  go_wp2_with fail
                  go_quiet ((go_at_call 84; exact hL.out _))
                  go_wp2_with fail
                  go_roundw
                  case rel => exact ⟨i, c + 1, Y, rfl, by go_num, by omega, hi1, hi2, W_hid (hR.out.drewN nq), hS, hU, W_hid (hT.out.drew nq)⟩
                  case measure => first | (simp [intOf]; omega) | simp [intOf]
              · go_wp2_with fail
                go_roundw
                case rel => exact ⟨i, c + 1, Y, rfl, by go_num, by omega, hi1, hi2, hR, hS, hU, hT⟩
                case measure => first | (simp [intOf]; omega) | simp [intOf]
          · go_wp2_with fail
            go_roundw
            case rel => exact ⟨i, c + 1, Z2, rfl, by go_num, by omega, hi1, hi2, hRs, hSs, hUs, hTs⟩
            case measure => first | (simp [intOf]; omega) | simp [intOf]
    · go_wp2_with fail
      go_ret
      exact ⟨false, rfl, hT.out, Z, hR.out, hS.out, fun h => by cases h⟩
end IS
end Go.Proofs.Ytieneehpijilpaa

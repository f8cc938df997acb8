/- The law RadixFrames of layer 8 (package haywardlaw08): for every input it returns true, and its arguments read as before. What the row lists of package variables is tied to the program's text by the card; no further condition. -/
import Derived.Test.YthdohimjcjkneaaGreatDoorZF02
import Derived.Test.YthdohimjcjkneaaGreatDoorZL11
import Derived.Deep.CutRange
import Derived.Deep.CutBlock
import Derived.OrdersHeld

namespace Go.Proofs.YthdohimjcjkneaaGreatDoor
open Go.ChangeShapes Go.WideShapes Go.ChangeAt Go.RowKit
set_option linter.unusedVariables false
set_option linter.unusedSimpArgs false

theorem pair_lt {l : List Nat} (h1 : l.Nodup) (h2 : l.Pairwise (· ≤ ·)) {k : Nat} (hk : k + 1 < l.length) : l[k]'(by omega) < l[k + 1] := by
  have h3 := List.pairwise_iff_getElem.1 h2 k (k + 1) (by omega) hk (by omega)
  have h4 := List.pairwise_iff_getElem.1 h1 k (k + 1) (by omega) hk (by omega)
  omega

set_option maxRecDepth 100000 in
set_option maxHeartbeats 40000000 in
theorem RadixFrames_walk (a0 : Int) (o1 : Option Addr) (n1 c1 : Nat) (l1 : List OpT) (w : World) (hk : KT w) (w0 : (Lit.int .i64 a0).wf = true) (w1 : OS8 w o1 n1 c1 l1) :
    Calls Tryz.prog 6 #[.int .i64 a0, .slice o1 n1 c1] w fun e w' => e = .returned (.bool true) ∧ Below w.heap.size w w' := by
  obtain ⟨hlen, hll, hops⟩ := w1
  have hlen2 : (n1 : Int) ≤ 9223372036854775807 := by unfold maxLen at hlen; omega
  have hS := W_hid (shown_any w hk)
  replace hops := W_hid hops
  replace hll := W_hid hll
  replace hk := W_hid hk
  clear hlen w0
  go_enter Tryz.func6, Tryz.ntmps6
  go_wp2_with fail
  refine hS.out.mono ?_
  rintro e w1 ⟨rfl, bel1⟩
  replace bel1 := W_hid bel1
  clear hS
  by_cases hlo : a0 < 1
  · go_wp2_with fail
    go_ret
    exact ⟨rfl, bel1.out⟩
  · by_cases hhi : 2000 < a0
    · go_wp2_with fail
      go_ret
      exact ⟨rfl, bel1.out⟩
    · obtain ⟨n, rfl⟩ : ∃ n : Nat, a0 = n := ⟨a0.toNat, by omega⟩
      have hn1 : 1 ≤ n := by omega
      have hn2 : n ≤ 2000 := by omega
      have hO := W_hid (fun w hk => opened_any n hn1 (by omega) w hk)
      have hN := W_hid (rNew_yes n hn1 (by omega))
      have hT := W_hid (fun pg pb w h => rNew_tree pg pb n 0 (fresh n) w h (by omega) (low_fresh n hn1))
      go_wp2_with fail
      refine (hO.out w1 (hk.out.keep bel1.out)).mono ?_
      rintro e w2 ⟨g, pg, pb, b, M, rfl, hg, hpg, hpb, hb, hF, bel2⟩
      have hs1 := bel1.out.size
      have hs2 := bel2.size
      replace bel2 := W_hid (bel1.out.trans (bel2.mono bel1.out.size))
      replace hF := W_hid hF
      clear bel1 hO
      go_wp2_with fail
      refine (hN.out w2).mono ?_
      rintro e w3 ⟨rfl, hrl, bel3⟩
      replace hT := W_hid (hT.out _ _ w3 hrl)
      have hs3 := bel3.size
      replace bel3 := W_hid bel3
      clear hrl hN
      go_wp2_with fail
      refine hT.out.mono ?_
      rintro e w4 ⟨g2, tv, D0, rfl, hdm, hbut, hD0⟩
      have b34 := bel3.out.trans (hbut.below (B := w2.heap.size) (by simp) hs3)
      obtain ⟨D, hD, hds⟩ := ds_new (n := n) hn1 hF.out hdm b34 (fun x hx => by rcases hD0 x hx with e | e | e <;> omega)
      have hDw : Hid (∀ x ∈ D, w.heap.size ≤ x) := W_hid (fun x hx => by have := hD x hx; omega)
      have hB4 := W_hid (bel2.out.trans (b34.mono (by omega)))
      obtain ⟨pg2, hpg2⟩ : ∃ x, x = w2.heap.size + 1 := ⟨_, rfl⟩
      obtain ⟨pb2, hpb2⟩ : ∃ x, x = w2.heap.size := ⟨_, rfl⟩
      rw [← hpg2, ← hpb2] at hds
      replace hds := W_hid hds
      have hgs : Hid (w.heap.size ≤ g ∧ w.heap.size ≤ pg ∧ w.heap.size ≤ pb ∧ w.heap.size ≤ b) := W_hid (by omega)
      clear hT b34 hbut hdm hD0 hD hpg2 hpb2 hF bel2 bel3 hg hpg hpb hb hs1 hs2 hs3
      go_upto_block 0 with fail
      go_cut [13] from 44 to 123 (fun _ wx => ∃ (D : List Nat) (T : Nat → Bool) (F : RX.Tabs) (G : RX.Pags) (K : Nat), K ≤ 60 ∧ Hid (DS wx g pg pb n (words n) 0 b D g2 pg2 pb2 T T F F G G K) ∧ Hid (Below w.heap.size w wx))
      case first =>
        go_wp2_with fail
        go_loopw [13] (fun i wr => ∃ (j : Nat) (D : List Nat) (T : Nat → Bool) (F : RX.Tabs) (G : RX.Pags), j ≤ n1 ∧ j ≤ 60 ∧ i = .int .i64 (j : Int) ∧ Hid (DS wr g pg pb n (words n) 0 b D g2 pg2 pb2 T T F F G G j) ∧ Hid (∀ x ∈ D, w.heap.size ≤ x) ∧ Hid (Below w.heap.size w wr)) (fun i _ => n1 - (intOf i).toNat)
        case atStart => exact ⟨0, D, _, _, _, by omega, by omega, rfl, hds, hDw, hB4⟩
        case round =>
          clear hds hDw hB4
          obtain ⟨j, D, T, F, G, hj, hj2, rfl, hds, hDw, hbel⟩ := hrel
          by_cases hlt : j < n1 ∧ j < 60
          · obtain ⟨hl1, hl2⟩ := hlt
            obtain ⟨blk, off, rfl, hblk, hc0, hc1, hc2, hc3, hc4, hz1, hz2, hz3, hz4, hz5, hz6⟩ := hops.out j (by rw [hll.out]; exact hl1)
            obtain ⟨⟨kd, x, f, p, u⟩, hx⟩ : ∃ x, l1[j]'(by rw [hll.out]; exact hl1) = x := ⟨_, rfl⟩
            rw [hx] at hc0 hc1 hc2 hc3 hc4 hz1 hz2 hz3 hz4 hz5 hz6
            simp only at hc0 hc1 hc2 hc3 hc4 hz1 hz2 hz3 hz4 hz5 hz6
            have k0 : wr.cell? ⟨blk, off + j * 5, none⟩ = some (.int .i64 kd) := by rw [hbel.out.cell (p := ⟨blk, off + j * 5, none⟩) hblk]; exact hc0
            have k1 : wr.cell? ⟨blk, off + j * 5 + 1, none⟩ = some (.int .u64 x) := by rw [hbel.out.cell (p := ⟨blk, off + j * 5 + 1, none⟩) hblk]; exact hc1
            have k2 : wr.cell? ⟨blk, off + j * 5 + 2, none⟩ = some (.int .u64 f) := by rw [hbel.out.cell (p := ⟨blk, off + j * 5 + 2, none⟩) hblk]; exact hc2
            have k3 : wr.cell? ⟨blk, off + j * 5 + 3, none⟩ = some (.int .i64 p) := by rw [hbel.out.cell (p := ⟨blk, off + j * 5 + 3, none⟩) hblk]; exact hc3
            have k4 : wr.cell? ⟨blk, off + j * 5 + 4, none⟩ = some (.bool u) := by rw [hbel.out.cell (p := ⟨blk, off + j * 5 + 4, none⟩) hblk]; exact hc4
            have hdo := W_hid (does_any g pg pb n (words n) 0 b D g2 pg2 pb2 T F G j wr hds.out kd x f p u ⟨hz1, hz2⟩ hz3 hz4 hz5 hz6 (by omega))
            clear hx hc0 hc1 hc2 hc3 hc4 hz1 hz2 hz3 hz4 hz5 hz6
            go_wp2_with fail
            refine hdo.out.mono ?_
            rintro e w5 ⟨rfl, D', T', F', G', hd5, hb5, hD5⟩
            have hbl5 := W_hid (hbel.out.trans (hb5.below (B := w.heap.size) (fun y hy => by
              rcases List.mem_append.1 hy with h | h
              · have := hgs.out; simp at h; omega
              · exact hDw.out y h) hbel.out.size))
            have hDw5 : Hid (∀ x ∈ D', w.heap.size ≤ x) := W_hid (fun y hy => by
              rcases hD5 y hy with h | h
              · exact hDw.out y h
              · have := hbel.out.size; omega)
            replace hd5 := W_hid hd5
            clear hb5 hD5 hdo
            go_wp2_with fail
            go_roundw
            case rel => exact ⟨j + 1, D', T', F', G', by omega, by omega, by go_num, hd5, hDw5, hbl5⟩
            case measure => simp [intOf]; omega
          · have hex : (¬ j < n1) ∨ (j < n1 ∧ ¬ j < 60) := by omega
            rcases hex with h1 | ⟨h1, h2⟩
            all_goals
              go_wp2_with fail
              go_meet
              exact ⟨D, T, F, G, j, hj2, hds, hbel⟩
      case rest =>
      clear hds hDw hB4
      obtain ⟨D, T, F, G, K, hK, hds, hbel⟩ := hcut
      obtain ⟨M1, hF1⟩ := hds.out.full
      have hgd := hds.out.good
      have hTab := W_hid (Tables_all g pg 0 b M1 wc hF1.tt.tm (fun ss hs => by have := nums_len hF1.inv hF1.rep hF1.tk hs; omega) (root_some hF1.inv hF1.rep))
      go_wp2_with fail
      refine hTab.out.mono ?_
      rintro e w5 ⟨v, l, rfl, hNl, hpw, hL, bel5⟩
      obtain ⟨x, cap, rest, rfl, hx1, hx2, hx3⟩ := hL.ex
      have hF5 := hF1.keep bel5
      have hll2 := nums_len hF1.inv hF1.rep hF1.tk hNl
      have hcell : Hid (∀ (i : Nat) (hi : i < l.length), w5.cell? ⟨x, i, none⟩ = some (.int .u64 ((l[i] : Nat) : Int))) := by
        intro i hi
        refine hx3.cell ?_
        rw [List.getElem?_append_left (by simpa using hi), List.getElem?_map, List.getElem?_eq_getElem hi]
        rfl
      have hxl := W_hid hx3.lt
      have hcnt : FR.cnt T 0 n = l.length := cnt_list n T l hNl.1 (fun f => ⟨fun hf => nums_tab hF1.inv hF1.rep hF1.tk hNl f hf, fun ⟨h1, h2⟩ => by
        obtain ⟨k, j, hkj⟩ := hgd.all f h1 h2
        exact nums_of hF1.rep hNl hkj⟩)
      have hmem := W_hid (nums_tab hF1.inv hF1.rep hF1.tk hNl)
      have hlt2 : Hid (∀ k (hk : k + 1 < l.length), l[k]'(by omega) < l[k + 1]) := fun k hk => pair_lt hNl.1 hpw hk
      have hfree : Hid (∀ l', Nums M1 l' → FR.cnt (freeAll T l') 0 n = 0) := fun l' h' => cnt_none _ n (fun f hf => by
        unfold freeAll
        split
        · rfl
        · rename_i hno
          cases ht : T f with
          | false => rfl
          | true =>
            obtain ⟨k, j, hkj⟩ := hgd.all f hf ht
            exact absurd (nums_of hF1.rep h' hkj) hno)
      replace bel5 := W_hid bel5
      replace hF5 := W_hid hF5
      replace hbel := W_hid (hbel.out.trans (bel5.out.mono hbel.out.size))
      obtain ⟨L, hLe⟩ : ∃ L, l.length = L := ⟨_, rfl⟩
      rw [hLe] at hx2 hll2 hcnt ⊢
      replace hLe := W_hid hLe
      replace hcnt := W_hid hcnt
      replace hNl := W_hid hNl
      replace hx3 := W_hid hx3
      clear hL hpw hTab hF1 hgd hds hops hll
      go_wp2_with fail
      go_loopw [15] (fun v wr => ∃ i : Nat, v = .int .i64 (i : Int) ∧ i ≤ L ∧ Hid (Below w5.heap.size w5 wr)) (fun v _ => L - (intOf v).toNat)
      case atStart => exact ⟨0, rfl, by omega, W_hid (Below.refl _ _)⟩
      case round =>
        obtain ⟨i, rfl, hi, hbr⟩ := hrel
        by_cases hlt : i < L
        · have hil : i < l.length := by rw [hLe.out]; exact hlt
          have ci0 := hcell.out i hil
          have hm := hmem.out l[i] (List.getElem_mem hil)
          have hTk : Hid (∀ W, Below w5.heap.size w5 W → Calls Tryz.prog 32 #[.pointer (some ⟨pg, 0, none⟩), .int .u64 ((l[i] : Nat) : Int)] W fun e W' => e = .returned (.bool true) ∧ Below W.heap.size W W') := fun W hW => Taken_any pg pb n (words n) l[i] T true W (hF5.out.keep hW).tt.pl (by omega) (by rw [hm.2, decide_eq_true hm.1]; rfl)
          have ci : wr.cell? ⟨x, i, none⟩ = some (.int .u64 ((l[i] : Nat) : Int)) := by rw [hbr.out.cell (p := ⟨x, i, none⟩) hxl.out]; exact ci0
          obtain ⟨vi, hvi⟩ : ∃ v, l[i] = v := ⟨_, rfl⟩
          rw [hvi] at hTk ci hm
          clear ci0
          by_cases h0 : i = 0
          · subst h0
            obtain ⟨i, hi0⟩ : ∃ i, i = 0 := ⟨0, rfl⟩
            have hz : decide ((0 : Int) < ((0 : Nat) : Int)) = false := by decide
            clear hm hvi hil
            go_wp2_with fail
            refine wp_region_held_drew (S := (fun w' => w'.cell? ⟨x, 0, none⟩ = some (.int .u64 (vi : Int)))) (by kernel_rfl) ci (fun hHeld => ?_)
            refine wpAnyH_take (i := 0) (v := .pointer (some ⟨pg, 0, none⟩)) rfl (by kernel_rfl) (by kernel_rfl) (by kernel_rfl) (fun _ _ _ h => h) (Or.inl ⟨by rfl, fun w0 s1 => ?_⟩) hHeld ?_
            · go_simp
            try simp only [Act.put, List.setIfInBounds_toArray, List.set_cons_zero, List.set_cons_succ, List.getElem_toArray, List.getElem_cons_zero, List.getElem_cons_succ]
            refine wpAnyH_take (i := 1) (v := .slice (some ⟨x, 0, none⟩) L cap) rfl (by kernel_rfl) (by kernel_rfl) (by kernel_rfl) (fun _ _ _ h => h) (Or.inl ⟨by rfl, fun w0 s1 => ?_⟩) hHeld ?_
            · go_simp
            try simp only [Act.put, List.setIfInBounds_toArray, List.set_cons_zero, List.set_cons_succ, List.getElem_toArray, List.getElem_cons_zero, List.getElem_cons_succ]
            refine wpAnyH_take (i := 2) (v := .int .i64 ((0 : Nat) : Int)) rfl (by kernel_rfl) (by kernel_rfl) (by kernel_rfl) (fun _ _ _ h => h) (Or.inl ⟨by rfl, fun w0 s1 => ?_⟩) hHeld ?_
            · go_simp
            try simp only [Act.put, List.setIfInBounds_toArray, List.set_cons_zero, List.set_cons_succ, List.getElem_toArray, List.getElem_cons_zero, List.getElem_cons_succ]
            refine wpAnyH_take (i := 3) (v := .pointer (some ⟨x, 0, none⟩)) rfl (by kernel_rfl) (by kernel_rfl) (by kernel_rfl) (fun _ _ _ h => h) (Or.inl ⟨by rfl, fun w0 s1 => ?_⟩) hHeld ?_
            · go_simp
            try simp only [Act.put, List.setIfInBounds_toArray, List.set_cons_zero, List.set_cons_succ, List.getElem_toArray, List.getElem_cons_zero, List.getElem_cons_succ]
            refine wpAnyH_take (i := 4) (v := .int .u64 (vi : Int)) rfl (by kernel_rfl) (by kernel_rfl) (by kernel_rfl) (fun _ _ _ h => h) (Or.inl ⟨by rfl, fun w0 s1 => ?_⟩) hHeld ?_
            · go_simp
            try simp only [Act.put, List.setIfInBounds_toArray, List.set_cons_zero, List.set_cons_succ, List.getElem_toArray, List.getElem_cons_zero, List.getElem_cons_succ]
            refine wpAnyH_ready (rs := [5]) (by kernel_rfl) (by simp) ?_
            refine AllReadyH.cons rfl (fun K hK => ?_) AllReadyH.nil
            go_simp
            refine (hTk.out _ (Below.drew hbr.out)).mono ?_
            rintro e w7 ⟨rfl, bel7⟩
            replace bel7 := Own.bundrew bel7
            have ci2 : w7.cell? ⟨x, 0, none⟩ = some (.int .u64 (vi : Int)) := by rw [bel7.cell (World.block_lt_of_cell? wr _ ci)]; exact ci
            have hb7 := W_hid (hbr.out.trans (bel7.mono hbr.out.size))
            clear bel7
            refine hK.out _ _ ci2 (fun hHeld1 => ?_)
            clear hK K
            try simp only [Act.put, List.setIfInBounds_toArray, List.set_cons_zero, List.set_cons_succ, List.getElem_toArray, List.getElem_cons_zero, List.getElem_cons_succ]
            refine wpAnyH_take (i := 6) (v := .bool false) rfl (by kernel_rfl) (by kernel_rfl) (by kernel_rfl) (fun _ _ _ h => h) (Or.inl ⟨by rfl, fun w0 s1 => ?_⟩) hHeld1 ?_
            · go_simp
            try simp only [Act.put, List.setIfInBounds_toArray, List.set_cons_zero, List.set_cons_succ, List.getElem_toArray, List.getElem_cons_zero, List.getElem_cons_succ]
            refine wpAnyH_take (i := 7) (v := .bool false) rfl (by kernel_rfl) (by kernel_rfl) (by kernel_rfl) (fun _ _ _ h => h) (Or.inl ⟨by rfl, fun w0 s1 => ?_⟩) hHeld1 ?_
            · go_simp
            try simp only [Act.put, List.setIfInBounds_toArray, List.set_cons_zero, List.set_cons_succ, List.getElem_toArray, List.getElem_cons_zero, List.getElem_cons_succ]
            refine wpAnyH_take (i := 8) (v := .int .i64 ((0 : Nat) : Int)) rfl (by kernel_rfl) (by kernel_rfl) (by kernel_rfl) (fun _ _ _ h => h) (Or.inl ⟨by rfl, fun w0 s1 => ?_⟩) hHeld1 ?_
            · go_simp
            try simp only [Act.put, List.setIfInBounds_toArray, List.set_cons_zero, List.set_cons_succ, List.getElem_toArray, List.getElem_cons_zero, List.getElem_cons_succ]
            refine wpAnyH_take (i := 9) (v := .bool false) rfl (by kernel_rfl) (by kernel_rfl) (by kernel_rfl) (fun _ _ _ h => h) (Or.inl ⟨by rfl, fun w0 s1 => ?_⟩) hHeld1 ?_
            · go_simp
            try simp only [Act.put, List.setIfInBounds_toArray, List.set_cons_zero, List.set_cons_succ, List.getElem_toArray, List.getElem_cons_zero, List.getElem_cons_succ]
            refine wpAnyH_take (i := 10) (v := .bool false) rfl (by kernel_rfl) (by kernel_rfl) (by kernel_rfl) (fun _ _ _ h => h) (Or.inl ⟨by rfl, fun w0 s1 => ?_⟩) hHeld1 ?_
            · go_simp
            try simp only [Act.put, List.setIfInBounds_toArray, List.set_cons_zero, List.set_cons_succ, List.getElem_toArray, List.getElem_cons_zero, List.getElem_cons_succ]
            refine wpAnyH_take (i := 11) (v := undef) rfl (by kernel_rfl) (by kernel_rfl) (by kernel_rfl) (fun _ _ _ h => h) (Or.inr ⟨by rfl, rfl⟩) hHeld1 ?_
            try simp only [Act.put, List.setIfInBounds_toArray, List.set_cons_zero, List.set_cons_succ, List.getElem_toArray, List.getElem_cons_zero, List.getElem_cons_succ]
            refine wpAnyH_take (i := 12) (v := undef) rfl (by kernel_rfl) (by kernel_rfl) (by kernel_rfl) (fun _ _ _ h => h) (Or.inr ⟨by rfl, rfl⟩) hHeld1 ?_
            try simp only [Act.put, List.setIfInBounds_toArray, List.set_cons_zero, List.set_cons_succ, List.getElem_toArray, List.getElem_cons_zero, List.getElem_cons_succ]
            refine wpAnyH_take (i := 13) (v := undef) rfl (by kernel_rfl) (by kernel_rfl) (by kernel_rfl) (fun _ _ _ h => h) (Or.inr ⟨by rfl, rfl⟩) hHeld1 ?_
            try simp only [Act.put, List.setIfInBounds_toArray, List.set_cons_zero, List.set_cons_succ, List.getElem_toArray, List.getElem_cons_zero, List.getElem_cons_succ]
            refine wpAnyH_take (i := 14) (v := undef) rfl (by kernel_rfl) (by kernel_rfl) (by kernel_rfl) (fun _ _ _ h => h) (Or.inr ⟨by rfl, rfl⟩) hHeld1 ?_
            try simp only [Act.put, List.setIfInBounds_toArray, List.set_cons_zero, List.set_cons_succ, List.getElem_toArray, List.getElem_cons_zero, List.getElem_cons_succ]
            refine wpAnyH_take (i := 15) (v := undef) rfl (by kernel_rfl) (by kernel_rfl) (by kernel_rfl) (fun _ _ _ h => h) (Or.inr ⟨by rfl, rfl⟩) hHeld1 ?_
            try simp only [Act.put, List.setIfInBounds_toArray, List.set_cons_zero, List.set_cons_succ, List.getElem_toArray, List.getElem_cons_zero, List.getElem_cons_succ]
            refine wpAnyH_take (i := 16) (v := undef) rfl (by kernel_rfl) (by kernel_rfl) (by kernel_rfl) (fun _ _ _ h => h) (Or.inr ⟨by rfl, rfl⟩) hHeld1 ?_
            try simp only [Act.put, List.setIfInBounds_toArray, List.set_cons_zero, List.set_cons_succ, List.getElem_toArray, List.getElem_cons_zero, List.getElem_cons_succ]
            refine wpAnyH_take (i := 17) (v := undef) rfl (by kernel_rfl) (by kernel_rfl) (by kernel_rfl) (fun _ _ _ h => h) (Or.inr ⟨by rfl, rfl⟩) hHeld1 ?_
            try simp only [Act.put, List.setIfInBounds_toArray, List.set_cons_zero, List.set_cons_succ, List.getElem_toArray, List.getElem_cons_zero, List.getElem_cons_succ]
            refine wpAnyH_take (i := 18) (v := undef) rfl (by kernel_rfl) (by kernel_rfl) (by kernel_rfl) (fun _ _ _ h => h) (Or.inr ⟨by rfl, rfl⟩) hHeld1 ?_
            try simp only [Act.put, List.setIfInBounds_toArray, List.set_cons_zero, List.set_cons_succ, List.getElem_toArray, List.getElem_cons_zero, List.getElem_cons_succ]
            refine wpAnyH_take (i := 19) (v := undef) rfl (by kernel_rfl) (by kernel_rfl) (by kernel_rfl) (fun _ _ _ h => h) (Or.inr ⟨by rfl, rfl⟩) hHeld1 ?_
            try simp only [Act.put, List.setIfInBounds_toArray, List.set_cons_zero, List.set_cons_succ, List.getElem_toArray, List.getElem_cons_zero, List.getElem_cons_succ]
            refine wpAnyH_take (i := 20) (v := undef) rfl (by kernel_rfl) (by kernel_rfl) (by kernel_rfl) (fun _ _ _ h => h) (Or.inr ⟨by rfl, rfl⟩) hHeld1 ?_
            try simp only [Act.put, List.setIfInBounds_toArray, List.set_cons_zero, List.set_cons_succ, List.getElem_toArray, List.getElem_cons_zero, List.getElem_cons_succ]
            refine wpAnyH_take (i := 21) (v := .bool false) rfl (by kernel_rfl) (by kernel_rfl) (by kernel_rfl) (fun _ _ _ h => h) (Or.inl ⟨by rfl, fun w0 s1 => ?_⟩) hHeld1 ?_
            · go_simp
            try simp only [Act.put, List.setIfInBounds_toArray, List.set_cons_zero, List.set_cons_succ, List.getElem_toArray, List.getElem_cons_zero, List.getElem_cons_succ]
            refine wpAnyH_take (i := 22) (v := .bool false) rfl (by kernel_rfl) (by kernel_rfl) (by kernel_rfl) (fun _ _ _ h => h) (Or.inl ⟨by rfl, fun w0 s1 => ?_⟩) hHeld1 ?_
            · go_simp
            try simp only [Act.put, List.setIfInBounds_toArray, List.set_cons_zero, List.set_cons_succ, List.getElem_toArray, List.getElem_cons_zero, List.getElem_cons_succ]
            refine wpAnyH_done (by kernel_rfl) ?_ _
            go_wp2_with fail
            go_roundw
            case rel => exact ⟨1, rfl, by omega, hb7⟩
            case measure => simp [intOf]; omega
          · obtain ⟨k, hk⟩ : ∃ k, i = k + 1 := ⟨i - 1, by omega⟩
            have hkl : k < l.length := by omega
            have ck0 := hcell.out k hkl
            have ck : wr.cell? ⟨x, k, none⟩ = some (.int .u64 ((l[k] : Nat) : Int)) := by rw [hbr.out.cell (p := ⟨x, k, none⟩) hxl.out]; exact ck0
            have hlt3 : l[k] < vi := by
              subst hk
              have := hlt2.out k hil
              omega
            obtain ⟨vk, hvk⟩ : ∃ v, l[k] = v := ⟨_, rfl⟩
            rw [hvk] at ck hlt3
            have ek : (i : Int) - 1 = (k : Int) := by omega
            have hwk : IntKind.i64.wrap (k : Int) = (k : Int) := by simp [IntKind.wrap, IntKind.signed, IntKind.bits]; omega
            have hpos : 0 < i := by omega
            have hpi : (0 : Int) < (i : Int) := by omega
            have hkL : k < L := by omega
            have hge : decide (vi ≤ vk) = false := by simp; omega
            have hge2 : ¬ (vi : Int) ≤ (vk : Int) := by omega
            replace hk := W_hid hk
            clear hm hvi hil hvk hkl ck0 hlt3
            go_wp2_with fail
            refine wp_region_held_drew (S := (fun w' => w'.cell? ⟨x, i, none⟩ = some (.int .u64 (vi : Int)) ∧ w'.cell? ⟨x, k, none⟩ = some (.int .u64 (vk : Int)))) (by kernel_rfl) ⟨ci, ck⟩ (fun hHeld => ?_)
            refine wpAnyH_take (i := 0) (v := .pointer (some ⟨pg, 0, none⟩)) rfl (by kernel_rfl) (by kernel_rfl) (by kernel_rfl) (fun _ _ _ h => h) (Or.inl ⟨by rfl, fun w0 ⟨s1, s2⟩ => ?_⟩) hHeld ?_
            · go_simp
            try simp only [Act.put, List.setIfInBounds_toArray, List.set_cons_zero, List.set_cons_succ, List.getElem_toArray, List.getElem_cons_zero, List.getElem_cons_succ]
            refine wpAnyH_take (i := 1) (v := .slice (some ⟨x, 0, none⟩) L cap) rfl (by kernel_rfl) (by kernel_rfl) (by kernel_rfl) (fun _ _ _ h => h) (Or.inl ⟨by rfl, fun w0 ⟨s1, s2⟩ => ?_⟩) hHeld ?_
            · go_simp
            try simp only [Act.put, List.setIfInBounds_toArray, List.set_cons_zero, List.set_cons_succ, List.getElem_toArray, List.getElem_cons_zero, List.getElem_cons_succ]
            refine wpAnyH_take (i := 2) (v := .int .i64 (i : Int)) rfl (by kernel_rfl) (by kernel_rfl) (by kernel_rfl) (fun _ _ _ h => h) (Or.inl ⟨by rfl, fun w0 ⟨s1, s2⟩ => ?_⟩) hHeld ?_
            · go_simp
            try simp only [Act.put, List.setIfInBounds_toArray, List.set_cons_zero, List.set_cons_succ, List.getElem_toArray, List.getElem_cons_zero, List.getElem_cons_succ]
            refine wpAnyH_take (i := 3) (v := .pointer (some ⟨x, i, none⟩)) rfl (by kernel_rfl) (by kernel_rfl) (by kernel_rfl) (fun _ _ _ h => h) (Or.inl ⟨by rfl, fun w0 ⟨s1, s2⟩ => ?_⟩) hHeld ?_
            · go_simp
            try simp only [Act.put, List.setIfInBounds_toArray, List.set_cons_zero, List.set_cons_succ, List.getElem_toArray, List.getElem_cons_zero, List.getElem_cons_succ]
            refine wpAnyH_take (i := 4) (v := .int .u64 (vi : Int)) rfl (by kernel_rfl) (by kernel_rfl) (by kernel_rfl) (fun _ _ _ h => h) (Or.inl ⟨by rfl, fun w0 ⟨s1, s2⟩ => ?_⟩) hHeld ?_
            · go_simp
            try simp only [Act.put, List.setIfInBounds_toArray, List.set_cons_zero, List.set_cons_succ, List.getElem_toArray, List.getElem_cons_zero, List.getElem_cons_succ]
            refine wpAnyH_ready (rs := [5]) (by kernel_rfl) (by simp) ?_
            refine AllReadyH.cons rfl (fun K hK => ?_) AllReadyH.nil
            go_simp
            refine (hTk.out _ (Below.drew hbr.out)).mono ?_
            rintro e w7 ⟨rfl, bel7⟩
            replace bel7 := Own.bundrew bel7
            have ci2 : w7.cell? ⟨x, i, none⟩ = some (.int .u64 (vi : Int)) := by rw [bel7.cell (World.block_lt_of_cell? wr _ ci)]; exact ci
            have ck2 : w7.cell? ⟨x, k, none⟩ = some (.int .u64 (vk : Int)) := by rw [bel7.cell (World.block_lt_of_cell? wr _ ck)]; exact ck
            have hb7 := W_hid (hbr.out.trans (bel7.mono hbr.out.size))
            clear bel7
            refine hK.out _ _ ⟨ci2, ck2⟩ (fun hHeld1 => ?_)
            clear hK K
            try simp only [Act.put, List.setIfInBounds_toArray, List.set_cons_zero, List.set_cons_succ, List.getElem_toArray, List.getElem_cons_zero, List.getElem_cons_succ]
            refine wpAnyH_take (i := 6) (v := .bool false) rfl (by kernel_rfl) (by kernel_rfl) (by kernel_rfl) (fun _ _ _ h => h) (Or.inl ⟨by rfl, fun w0 ⟨s1, s2⟩ => ?_⟩) hHeld1 ?_
            · go_simp
            try simp only [Act.put, List.setIfInBounds_toArray, List.set_cons_zero, List.set_cons_succ, List.getElem_toArray, List.getElem_cons_zero, List.getElem_cons_succ]
            refine wpAnyH_take (i := 7) (v := .bool false) rfl (by kernel_rfl) (by kernel_rfl) (by kernel_rfl) (fun _ _ _ h => h) (Or.inl ⟨by rfl, fun w0 ⟨s1, s2⟩ => ?_⟩) hHeld1 ?_
            · go_simp
            try simp only [Act.put, List.setIfInBounds_toArray, List.set_cons_zero, List.set_cons_succ, List.getElem_toArray, List.getElem_cons_zero, List.getElem_cons_succ]
            refine wpAnyH_take (i := 8) (v := .int .i64 (i : Int)) rfl (by kernel_rfl) (by kernel_rfl) (by kernel_rfl) (fun _ _ _ h => h) (Or.inl ⟨by rfl, fun w0 ⟨s1, s2⟩ => ?_⟩) hHeld1 ?_
            · go_simp
            try simp only [Act.put, List.setIfInBounds_toArray, List.set_cons_zero, List.set_cons_succ, List.getElem_toArray, List.getElem_cons_zero, List.getElem_cons_succ]
            refine wpAnyH_take (i := 9) (v := .bool true) rfl (by kernel_rfl) (by kernel_rfl) (by kernel_rfl) (fun _ _ _ h => h) (Or.inl ⟨by rfl, fun w0 ⟨s1, s2⟩ => ?_⟩) hHeld1 ?_
            · go_simp
            try simp only [Act.put, List.setIfInBounds_toArray, List.set_cons_zero, List.set_cons_succ, List.getElem_toArray, List.getElem_cons_zero, List.getElem_cons_succ]
            refine wpAnyH_take (i := 10) (v := .bool true) rfl (by kernel_rfl) (by kernel_rfl) (by kernel_rfl) (fun _ _ _ h => h) (Or.inl ⟨by rfl, fun w0 ⟨s1, s2⟩ => ?_⟩) hHeld1 ?_
            · go_simp
            try simp only [Act.put, List.setIfInBounds_toArray, List.set_cons_zero, List.set_cons_succ, List.getElem_toArray, List.getElem_cons_zero, List.getElem_cons_succ]
            refine wpAnyH_take (i := 11) (v := .slice (some ⟨x, 0, none⟩) L cap) rfl (by kernel_rfl) (by kernel_rfl) (by kernel_rfl) (fun _ _ _ h => h) (Or.inl ⟨by rfl, fun w0 ⟨s1, s2⟩ => ?_⟩) hHeld1 ?_
            · go_simp
            try simp only [Act.put, List.setIfInBounds_toArray, List.set_cons_zero, List.set_cons_succ, List.getElem_toArray, List.getElem_cons_zero, List.getElem_cons_succ]
            refine wpAnyH_take (i := 12) (v := .int .i64 (i : Int)) rfl (by kernel_rfl) (by kernel_rfl) (by kernel_rfl) (fun _ _ _ h => h) (Or.inl ⟨by rfl, fun w0 ⟨s1, s2⟩ => ?_⟩) hHeld1 ?_
            · go_simp
            try simp only [Act.put, List.setIfInBounds_toArray, List.set_cons_zero, List.set_cons_succ, List.getElem_toArray, List.getElem_cons_zero, List.getElem_cons_succ]
            refine wpAnyH_take (i := 13) (v := .int .i64 (k : Int)) rfl (by kernel_rfl) (by kernel_rfl) (by kernel_rfl) (fun _ _ _ h => h) (Or.inl ⟨by rfl, fun w0 ⟨s1, s2⟩ => ?_⟩) hHeld1 ?_
            · go_simp
            try simp only [Act.put, List.setIfInBounds_toArray, List.set_cons_zero, List.set_cons_succ, List.getElem_toArray, List.getElem_cons_zero, List.getElem_cons_succ]
            refine wpAnyH_take (i := 14) (v := .pointer (some ⟨x, k, none⟩)) rfl (by kernel_rfl) (by kernel_rfl) (by kernel_rfl) (fun _ _ _ h => h) (Or.inl ⟨by rfl, fun w0 ⟨s1, s2⟩ => ?_⟩) hHeld1 ?_
            · go_simp
            try simp only [Act.put, List.setIfInBounds_toArray, List.set_cons_zero, List.set_cons_succ, List.getElem_toArray, List.getElem_cons_zero, List.getElem_cons_succ]
            refine wpAnyH_take (i := 15) (v := .int .u64 (vk : Int)) rfl (by kernel_rfl) (by kernel_rfl) (by kernel_rfl) (fun _ _ _ h => h) (Or.inl ⟨by rfl, fun w0 ⟨s1, s2⟩ => ?_⟩) hHeld1 ?_
            · go_simp
            try simp only [Act.put, List.setIfInBounds_toArray, List.set_cons_zero, List.set_cons_succ, List.getElem_toArray, List.getElem_cons_zero, List.getElem_cons_succ]
            refine wpAnyH_take (i := 16) (v := .slice (some ⟨x, 0, none⟩) L cap) rfl (by kernel_rfl) (by kernel_rfl) (by kernel_rfl) (fun _ _ _ h => h) (Or.inl ⟨by rfl, fun w0 ⟨s1, s2⟩ => ?_⟩) hHeld1 ?_
            · go_simp
            try simp only [Act.put, List.setIfInBounds_toArray, List.set_cons_zero, List.set_cons_succ, List.getElem_toArray, List.getElem_cons_zero, List.getElem_cons_succ]
            refine wpAnyH_take (i := 17) (v := .int .i64 (i : Int)) rfl (by kernel_rfl) (by kernel_rfl) (by kernel_rfl) (fun _ _ _ h => h) (Or.inl ⟨by rfl, fun w0 ⟨s1, s2⟩ => ?_⟩) hHeld1 ?_
            · go_simp
            try simp only [Act.put, List.setIfInBounds_toArray, List.set_cons_zero, List.set_cons_succ, List.getElem_toArray, List.getElem_cons_zero, List.getElem_cons_succ]
            refine wpAnyH_take (i := 18) (v := .pointer (some ⟨x, i, none⟩)) rfl (by kernel_rfl) (by kernel_rfl) (by kernel_rfl) (fun _ _ _ h => h) (Or.inl ⟨by rfl, fun w0 ⟨s1, s2⟩ => ?_⟩) hHeld1 ?_
            · go_simp
            try simp only [Act.put, List.setIfInBounds_toArray, List.set_cons_zero, List.set_cons_succ, List.getElem_toArray, List.getElem_cons_zero, List.getElem_cons_succ]
            refine wpAnyH_take (i := 19) (v := .int .u64 (vi : Int)) rfl (by kernel_rfl) (by kernel_rfl) (by kernel_rfl) (fun _ _ _ h => h) (Or.inl ⟨by rfl, fun w0 ⟨s1, s2⟩ => ?_⟩) hHeld1 ?_
            · go_simp
            try simp only [Act.put, List.setIfInBounds_toArray, List.set_cons_zero, List.set_cons_succ, List.getElem_toArray, List.getElem_cons_zero, List.getElem_cons_succ]
            refine wpAnyH_take (i := 20) (v := .bool false) rfl (by kernel_rfl) (by kernel_rfl) (by kernel_rfl) (fun _ _ _ h => h) (Or.inl ⟨by rfl, fun w0 ⟨s1, s2⟩ => ?_⟩) hHeld1 ?_
            · go_simp
            try simp only [Act.put, List.setIfInBounds_toArray, List.set_cons_zero, List.set_cons_succ, List.getElem_toArray, List.getElem_cons_zero, List.getElem_cons_succ]
            refine wpAnyH_take (i := 21) (v := .bool false) rfl (by kernel_rfl) (by kernel_rfl) (by kernel_rfl) (fun _ _ _ h => h) (Or.inl ⟨by rfl, fun w0 ⟨s1, s2⟩ => ?_⟩) hHeld1 ?_
            · go_simp
            try simp only [Act.put, List.setIfInBounds_toArray, List.set_cons_zero, List.set_cons_succ, List.getElem_toArray, List.getElem_cons_zero, List.getElem_cons_succ]
            refine wpAnyH_take (i := 22) (v := .bool false) rfl (by kernel_rfl) (by kernel_rfl) (by kernel_rfl) (fun _ _ _ h => h) (Or.inl ⟨by rfl, fun w0 ⟨s1, s2⟩ => ?_⟩) hHeld1 ?_
            · go_simp
            try simp only [Act.put, List.setIfInBounds_toArray, List.set_cons_zero, List.set_cons_succ, List.getElem_toArray, List.getElem_cons_zero, List.getElem_cons_succ]
            refine wpAnyH_done (by kernel_rfl) ?_ _
            go_wp2_with fail
            go_roundw
            case rel => exact ⟨i + 1, by go_num, by omega, hb7⟩
            case measure => simp [intOf]; omega
        · obtain rfl : i = L := by omega
          obtain ⟨lf, hlf⟩ : ∃ lf, n - i = lf := ⟨_, rfl⟩
          have hlfi : (n : Int) - (i : Int) = (lf : Int) := by omega
          have hFr := hF5.out.keep hbr.out
          have hLft := Left_any pg pb n (words n) T wr hFr.tt.pl
          rw [hcnt.out, hlf] at hLft
          have hDr := W_hid (Drop_any g pg pb n (words n) 0 b T M1 F G wr hFr (by omega))
          have hneq : ((lf : Int) != (lf : Int)) = false := by simp
          replace hLft := W_hid hLft
          replace hbel := W_hid (hbel.out.trans (hbr.out.mono hbel.out.size))
          replace hlf := W_hid hlf
          clear hFr hF5 hbr
          go_wp2_with fail
          refine hLft.out.mono ?_
          rintro e w6 ⟨rfl, rfl⟩
          go_wp2_with fail
          refine hDr.out.mono ?_
          rintro e w7 ⟨rfl, ⟨l', hN', hP'⟩, hDT, hbut⟩
          have hb7 := W_hid (hbel.out.trans (hbut.below (B := w.heap.size) (by have := hgs.out; simp; omega) hbel.out.size))
          have hDp := W_hid (Drop_dropped g w7 hDT)
          have hc0 := hfree.out l' hN'
          have hrest := W_hid (fun w8 (hb : Below w7.heap.size w7 w8) => (⟨Left_any pg pb n (words n) (freeAll T l') w8 (hP'.keep hb), Pages_dropped g w8 (hDT.keep hb)⟩ : _ ∧ _))
          clear hP' hDT hbut hDr hLft
          go_wp2_with fail
          refine hDp.out.mono ?_
          rintro e w8 ⟨rfl, bel8⟩
          obtain ⟨hL8, hP8⟩ := hrest.out w8 bel8
          rw [hc0, Nat.sub_zero] at hL8
          have hb8 := W_hid (hb7.out.trans (bel8.mono hb7.out.size))
          replace hL8 := W_hid hL8
          replace hP8 := W_hid hP8
          clear bel8 hrest hDp hb7 hc0
          go_wp2_with fail
          refine hL8.out.mono ?_
          rintro e w9 ⟨rfl, rfl⟩
          go_wp2_with fail
          refine hP8.out.mono ?_
          rintro e w9 ⟨rfl, rfl⟩
          go_wp2_with fail
          go_ret
          exact ⟨rfl, hb8.out⟩

set_option maxRecDepth 100000 in
theorem RadixFrames_lifted (os : Os) (started : os.Started) (H : Type) (enc : TypeId × Value → H) :
    ReturnsInHanded {} Tryz.checked os 6 .any (fun w args => (Rows.radixFramesSpec.pre enc Tryz.prog Tryz.f6 [] false w args ∧ laidMetH Tryz.prog [("hayward/entry.kinds", Rows.laid_hayward_entry_kinds)] w) ∧ sizedMet enc Tryz.prog Tryz.f6 (OpenSpec.ofChange Rows.radixFramesSpec) false w args)
      (Rows.radixFramesSpec.post enc Tryz.prog Tryz.f6 false true false false) := by
  refine returnsInHanded_of_change_and (C := Tryz.checked) (X := fun w _ => laidMetH Tryz.prog [("hayward/entry.kinds", Rows.laid_hayward_entry_kinds)] w) (fun _ _ _ hh h => h.of_heap hh) (by kernel_rfl) started (by kernel_rfl) Tryz.func6
    (ChangeSpec.witness_shaped (enc := enc) (C := Tryz.checked) (os := os) (X := fun w _ => laidMetH Tryz.prog [("hayward/entry.kinds", Rows.laid_hayward_entry_kinds)] w) false (World.doorLaid Tryz.prog 400 os) #[.int .i64 0, .slice none 0 0] 8 rfl (World.shaped_of_RefB (by kernel_rfl) (by kernel_rfl)) (by kernel_rfl) (by kernel_rfl) (by kernel_rfl) (kinds_met os _)) ?_
  intro W base args ds gs before hval0 hW hcnd hsz0 hL _
  have hval : ∀ (j : Nat) t v, Tryz.f6.params[j]? = some t → args[j]? = some v → Value.okWide Tryz.prog W .any base t v := hval0
  have hW' := hW
  obtain ⟨p, q, hA0, hV, rfl, hfz, hnd⟩ := hW
  have hA : DataW.TrodAll enc Tryz.prog W 0 (fun _ => true) true Tryz.f6.params.toList args.toList ds p := hA0
  rw [Tryz.params6] at hA hval
  obtain ⟨v0, vs0, d0, ds0, p0, q0, hargs, rfl, rfl, h0, r0⟩ := trodAll_cons hA
  obtain ⟨v1, vs1, d1, ds1, p1, q1, rfl, rfl, rfl, h1, r1⟩ := trodAll_cons r0
  obtain ⟨rfl, rfl, rfl⟩ := trodAll_nil r1
  obtain rfl : args = #[v0, v1] := by cases args; simp_all
  obtain ⟨rfl, rfl⟩ := trodVars_none hV
  obtain ⟨a0, rfl, rfl, rfl, w0⟩ := open_int Tryz.underlying3 (hval 0 3 v0 rfl rfl) h0
  have k1 := h1
  have lt1 : ∀ x ∈ p1, x.block < W.heap.size := by obtain ⟨m, hm⟩ := k1; exact DataW.trod_lt m _ _ _ hm
  obtain ⟨o1, n1, c1, l1, rfl, w1⟩ := open_ops8 (hval 1 22 v1 rfl rfl) h1
  clear hA0 hval0
  refine (RadixFrames_walk a0 o1 n1 c1 l1 W (kt_of_laid hL) w0 w1).mono fun e W' ⟨he, bel⟩ => ?_
  subst he
  exact ⟨_, rfl, _, _, _, [], _, [], hW', trodAll_mk1 (shut_bool Tryz.underlying4 _), (trodAll_cons_mk (shut_int Tryz.underlying3 w0) (trodAll_cons_mk (Below.trod laidOut (by kernel_rfl) (of_decide_eq_true (by kernel_rfl)) k1 bel lt1) trodAll_mk0)), rfl, bel.frame _, fun h => by cases h⟩

/-- The given statement of RadixFrames. -/
theorem RadixFrames_holds : Rows.RadixFramesSaid :=
  OpenClaim.holds_of_wide 6 Tryz.f6 rfl rfl rfl rfl rfl rfl rfl ⟨rfl, rfl, rfl, rfl, rfl⟩ rfl rfl rfl rfl rfl (by kernel_rfl) Tryz.func6 (by kernel_rfl)
    (of_decide_eq_true (by kernel_rfl)) (by unfold Func.isWrapper; first | (rw [if_pos (by decide +kernel)]; kernel_rfl) | (rw [if_neg (by decide +kernel)]; exact ⟨rfl, rfl⟩))
    (fun os started H enc _ => RadixFrames_lifted os started H enc)

/-- The given card of RadixFrames: the row, with what it lists tied to the text of the program. -/
theorem RadixFrames_card_holds : Rows.RadixFramesCardSaid :=
  Claim7.holds_tied_plain_at .later [] [.data] true Rows.radixFramesCard.stood.harness Rows.radixFramesCard.stood.looks
    RadixFrames_holds (fun _ h => by cases h) (by kernel_rfl) (fun _ h => by cases h) radixFrames_row_tie rfl ⟨rfl, rfl⟩ (by kernel_rfl) rfl
    (fun f fn hf hfn => by
      obtain rfl : f = 6 := Option.some.inj ((show Tryz.prog.funcNamed "hayward/haywardlaw08.RadixFrames" = some 6 by kernel_rfl).symm.trans hf) |>.symm
      obtain rfl : fn = Tryz.f6 := (Option.some.inj (Tryz.func6.symm.trans hfn)).symm
      exact ⟨by kernel_rfl, fun j t ht => by
        rw [Tryz.params6] at ht
        have hm : t ∈ [3, 22] := by simpa using Array.mem_of_getElem? ht
        have hall : ([3, 22].all fun u => !Tryz.prog.wantsStandIn u) = true := by kernel_rfl
        exact (show Tryz.prog.wantsStandIn t = false by simpa using List.all_eq_true.1 hall t hm)⟩)
    (by kernel_rfl)
end Go.Proofs.YthdohimjcjkneaaGreatDoor

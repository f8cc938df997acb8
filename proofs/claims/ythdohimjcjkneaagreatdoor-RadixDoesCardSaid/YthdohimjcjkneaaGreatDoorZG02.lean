/- The law RadixDoes of layer 8 (package haywardlaw08): for every input it returns true, and its arguments read as before. What the row lists of package variables is tied to the program's text by the card; no further condition. -/
import Derived.Test.YthdohimjcjkneaaGreatDoorZF02
import Derived.Test.YthdohimjcjkneaaGreatDoorZG01
import Derived.Test.YthdohimjcjkneaaGreatDoorZL11
import Derived.Deep.CutRange
import Derived.Deep.CutBlock
import Derived.OrdersHeld

namespace Go.Proofs.YthdohimjcjkneaaGreatDoor
open Go.ChangeShapes Go.WideShapes Go.ChangeAt Go.RowKit
set_option linter.unusedVariables false
set_option linter.unusedSimpArgs false

theorem tb_nodup {F : RX.Tabs} {G : RX.Pags} {r n : Nat} {Tl : List RX.Tb} (I : RX.Inv F G r n) (h : RX.TB Tl F r) : (Tl.map (·.1)).Nodup := by
  unfold List.Nodup
  rw [List.pairwise_map]
  refine List.Pairwise.imp_of_mem (fun {a b} ha hb hab e => ?_) h.nd
  obtain ⟨j, h1, h2⟩ := (h.mem a).1 ha
  obtain ⟨j', h3, h4⟩ := (h.mem b).1 hb
  rw [← e] at h3
  obtain ⟨e1, e2⟩ := I.inj h1 h3
  apply hab
  obtain ⟨a1, a2, a3⟩ := a
  obtain ⟨b1, b2, b3⟩ := b
  simp only at e e1 e2 h2 h4
  subst e; subst e1; subst e2
  rw [h2, h4]
theorem tb_eq {F : RX.Tabs} {G : RX.Pags} {r n : Nat} {M : Nat → Option (Nat → Nat)} {Tl : List RX.Tb} {l O : List Nat} (I : RX.Inv F G r n) (R : RX.Rep M F G) (hN : Nums M l) (hp : l.Pairwise (· ≤ ·)) (h : RX.TB Tl F r) (hU : Up Tl Tl.length O) : l = O := by
  refine up_eq ?_ hU.rise fun f => ?_
  · refine List.pairwise_iff_getElem.2 fun i j hi hj hij => ?_
    have h3 := List.pairwise_iff_getElem.1 hp i j hi hj hij
    have h4 := List.pairwise_iff_getElem.1 hN.1 i j hi hj hij
    omega
  · rw [hU.mem, List.take_length, List.mem_map]
    constructor
    · intro hf
      by_cases e : ∃ k j, F k j = some f
      · obtain ⟨k, j, hkj⟩ := e
        exact ⟨(f, k, j * EN.sz k), (h.mem _).2 ⟨j, hkj, rfl⟩, rfl⟩
      · exact absurd (R.no fun k j hkj => e ⟨k, j, hkj⟩) ((hN.2 f).1 hf)
    · rintro ⟨x, hx, rfl⟩
      obtain ⟨j, hkj, -⟩ := (h.mem x).1 hx
      exact nums_of R hN hkj
theorem tb_pos {F : RX.Tabs} {r : Nat} {Tl : List RX.Tb} (h : RX.TB Tl F r) : 0 < Tl.length := by
  have := h.hd
  cases Tl with
  | nil => simp at this
  | cons x l => simp
theorem tb_zero {F : RX.Tabs} {r : Nat} {Tl : List RX.Tb} (h : RX.TB Tl F r) (h0 : 0 < Tl.length) : Tl[0] = (r, 4, 0) := by
  have := h.hd
  rw [List.getElem?_eq_getElem h0] at this
  exact Option.some.inj this
theorem nc_blk {w : World} {x : Nat} {l : List Nat} {rest : List Value} (h : Blk w x 36 (l.map nk ++ rest)) : NC w (some ⟨x, 0, none⟩) l := ⟨fun i hi => ⟨x, 0, rfl, by
  rw [Nat.zero_add]
  refine h.cell ?_
  rw [List.getElem?_append_left (by simpa using hi), List.getElem?_map, List.getElem?_eq_getElem hi]
  rfl⟩⟩

set_option maxRecDepth 100000 in
set_option maxHeartbeats 40000000 in
theorem RadixDoes_walk (a0 : Int) (o1 : Option Addr) (n1 c1 : Nat) (l1 : List OpT) (w : World) (hk : KT w) (w0 : (Lit.int .i64 a0).wf = true) (w1 : OS8 w o1 n1 c1 l1) :
    Calls Tryz.prog 3 #[.int .i64 a0, .slice o1 n1 c1] w fun e w' => e = .returned (.bool true) ∧ Below w.heap.size w w' := by
  obtain ⟨hlen, hll, hops⟩ := w1
  have hlen2 : (n1 : Int) ≤ 9223372036854775807 := by unfold maxLen at hlen; omega
  have hS := W_hid (shown_any w hk)
  replace hops := W_hid hops
  replace hll := W_hid hll
  replace hk := W_hid hk
  clear hlen w0
  go_enter Tryz.func3, Tryz.ntmps3
  go_wp2_with fail
  refine hS.out.mono ?_
  rintro e w1 ⟨rfl, bel1⟩
  replace bel1 := W_hid bel1
  clear hS
  by_cases hlo : a0 < 1
  · go_wp2_with fail
    go_ret
    exact ⟨rfl, bel1.out⟩
  · by_cases hhi : 2000 < a0
    · go_wp2_with fail
      go_ret
      exact ⟨rfl, bel1.out⟩
    · obtain ⟨n, rfl⟩ : ∃ n : Nat, a0 = n := ⟨a0.toNat, by omega⟩
      have hn1 : 1 ≤ n := by omega
      have hn2 : n ≤ 2000 := by omega
      have hO := W_hid (fun w hk => opened_any n hn1 (by omega) w hk)
      have hN := W_hid (rNew_yes n hn1 (by omega))
      have hT := W_hid (fun pg pb w h => rNew_tree pg pb n 0 (fresh n) w h (by omega) (low_fresh n hn1))
      go_wp2_with fail
      refine (hO.out w1 (hk.out.keep bel1.out)).mono ?_
      rintro e w2 ⟨g, pg, pb, b, M, rfl, hg, hpg, hpb, hb, hF, bel2⟩
      have hs1 := bel1.out.size
      have hs2 := bel2.size
      replace bel2 := W_hid (bel1.out.trans (bel2.mono bel1.out.size))
      replace hF := W_hid hF
      clear bel1 hO
      go_wp2_with fail
      refine (hN.out w2).mono ?_
      rintro e w3 ⟨rfl, hrl, bel3⟩
      replace hT := W_hid (hT.out _ _ w3 hrl)
      have hs3 := bel3.size
      replace bel3 := W_hid bel3
      clear hrl hN
      go_wp2_with fail
      refine hT.out.mono ?_
      rintro e w4 ⟨g2, tv, D0, rfl, hdm, hbut, hD0⟩
      have b34 := bel3.out.trans (hbut.below (B := w2.heap.size) (by simp) hs3)
      obtain ⟨D, hD, hds⟩ := ds_new (n := n) hn1 hF.out hdm b34 (fun x hx => by rcases hD0 x hx with e | e | e <;> omega)
      have hDw : Hid (∀ x ∈ D, w.heap.size ≤ x) := W_hid (fun x hx => by have := hD x hx; omega)
      have hB4 := W_hid (bel2.out.trans (b34.mono (by omega)))
      obtain ⟨pg2, hpg2⟩ : ∃ x, x = w2.heap.size + 1 := ⟨_, rfl⟩
      obtain ⟨pb2, hpb2⟩ : ∃ x, x = w2.heap.size := ⟨_, rfl⟩
      rw [← hpg2, ← hpb2] at hds
      replace hds := W_hid hds
      replace hpg2 := W_hid hpg2
      have hgs : Hid (w.heap.size ≤ g ∧ w.heap.size ≤ pg ∧ w.heap.size ≤ pb ∧ w.heap.size ≤ b) := W_hid (by omega)
      clear hT b34 hbut hdm hD0 hD hpb2 hF bel2 bel3 hg hpg hpb hb hs1 hs2 hs3
      go_upto_block 0 with fail
      go_cut [13, 14] from 41 to 96 (fun _ _ wx => ∃ (D : List Nat) (T : Nat → Bool) (F : RX.Tabs) (G : RX.Pags) (K : Nat), K ≤ 100 ∧ Hid (DS wx g pg pb n (words n) 0 b D g2 pg2 pb2 T T F F G G K) ∧ Hid (Below w.heap.size w wx))
      case first =>
        go_wp2_with fail
        go_loopw [13] (fun i wr => ∃ (j : Nat) (D : List Nat) (T : Nat → Bool) (F : RX.Tabs) (G : RX.Pags), j ≤ n1 ∧ j ≤ 100 ∧ i = .int .i64 (j : Int) ∧ Hid (DS wr g pg pb n (words n) 0 b D g2 pg2 pb2 T T F F G G j) ∧ Hid (∀ x ∈ D, w.heap.size ≤ x) ∧ Hid (Below w.heap.size w wr)) (fun i _ => n1 - (intOf i).toNat)
        case atStart => exact ⟨0, D, _, _, _, by omega, by omega, rfl, hds, hDw, hB4⟩
        case round =>
          clear hds hDw hB4
          obtain ⟨j, D, T, F, G, hj, hj2, rfl, hds, hDw, hbel⟩ := hrel
          by_cases hlt : j < n1 ∧ j < 100
          · obtain ⟨hl1, hl2⟩ := hlt
            obtain ⟨blk, off, rfl, hblk, hc0, hc1, hc2, hc3, hc4, hz1, hz2, hz3, hz4, hz5, hz6⟩ := hops.out j (by rw [hll.out]; exact hl1)
            obtain ⟨⟨kd, x, f, p, u⟩, hx⟩ : ∃ x, l1[j]'(by rw [hll.out]; exact hl1) = x := ⟨_, rfl⟩
            rw [hx] at hc0 hc1 hc2 hc3 hc4 hz1 hz2 hz3 hz4 hz5 hz6
            simp only at hc0 hc1 hc2 hc3 hc4 hz1 hz2 hz3 hz4 hz5 hz6
            have k0 : wr.cell? ⟨blk, off + j * 5, none⟩ = some (.int .i64 kd) := by rw [hbel.out.cell (p := ⟨blk, off + j * 5, none⟩) hblk]; exact hc0
            have k1 : wr.cell? ⟨blk, off + j * 5 + 1, none⟩ = some (.int .u64 x) := by rw [hbel.out.cell (p := ⟨blk, off + j * 5 + 1, none⟩) hblk]; exact hc1
            have k2 : wr.cell? ⟨blk, off + j * 5 + 2, none⟩ = some (.int .u64 f) := by rw [hbel.out.cell (p := ⟨blk, off + j * 5 + 2, none⟩) hblk]; exact hc2
            have k3 : wr.cell? ⟨blk, off + j * 5 + 3, none⟩ = some (.int .i64 p) := by rw [hbel.out.cell (p := ⟨blk, off + j * 5 + 3, none⟩) hblk]; exact hc3
            have k4 : wr.cell? ⟨blk, off + j * 5 + 4, none⟩ = some (.bool u) := by rw [hbel.out.cell (p := ⟨blk, off + j * 5 + 4, none⟩) hblk]; exact hc4
            have hdo := W_hid (does_any g pg pb n (words n) 0 b D g2 pg2 pb2 T F G j wr hds.out kd x f p u ⟨hz1, hz2⟩ hz3 hz4 hz5 hz6 (by omega))
            clear hx hc0 hc1 hc2 hc3 hc4 hz1 hz2 hz3 hz4 hz5 hz6
            go_wp2_with fail
            refine hdo.out.mono ?_
            rintro e w5 ⟨rfl, D', T', F', G', hd5, hb5, hD5⟩
            have hbl5 := W_hid (hbel.out.trans (hb5.below (B := w.heap.size) (fun y hy => by
              rcases List.mem_append.1 hy with h | h
              · have := hgs.out; simp at h; omega
              · exact hDw.out y h) hbel.out.size))
            have hDw5 : Hid (∀ x ∈ D', w.heap.size ≤ x) := W_hid (fun y hy => by
              rcases hD5 y hy with h | h
              · exact hDw.out y h
              · have := hbel.out.size; omega)
            replace hd5 := W_hid hd5
            clear hb5 hD5 hdo
            obtain ⟨M5, hF5⟩ := hd5.out.full
            obtain ⟨lv5, tv5, L5, Tl5, hDM5, -⟩ := hd5.out.doc
            have hL1 := Left_any pg pb n (words n) T' w5 hF5.tt.pl
            have hL2 := rLeft_any pg2 pb2 n T' w5 hDM5.rl
            rw [hpg2.out] at hL2
            obtain ⟨lf, hlf⟩ : ∃ lf, n - FR.cnt T' 0 n = lf := ⟨_, rfl⟩
            rw [hlf] at hL1 hL2
            have hneq : ((lf : Int) != (lf : Int)) = false := by simp
            replace hL1 := W_hid hL1
            replace hL2 := W_hid hL2
            clear hF5 hDM5 hlf
            go_wp2_with fail
            refine hL1.out.mono ?_
            rintro e w6 ⟨rfl, rfl⟩
            go_wp2_with fail
            refine hL2.out.mono ?_
            rintro e w6 ⟨rfl, q6, rfl⟩
            have hd6 := W_hid (hd5.out.keep (below_drewN (Below.refl _ _) q6))
            have hbl6 := W_hid (below_drewN hbl5.out q6)
            clear hL1 hL2
            go_wp2_with fail
            go_roundw
            case rel => exact ⟨j + 1, D', T', F', G', by omega, by omega, by go_num, hd6, hDw5, hbl6⟩
            case measure => simp [intOf]; omega
          · have hex : (¬ j < n1) ∨ (j < n1 ∧ ¬ j < 100) := by omega
            rcases hex with h1 | ⟨h1, h2⟩
            all_goals
              go_wp2_with fail
              go_meet
              exact ⟨D, T, F, G, j, hj2, hds, hbel⟩
      case rest =>
      clear hds hDw hB4
      obtain ⟨D, T, F, G, K, hK, hds, hbel⟩ := hcut
      obtain ⟨M1, hF1⟩ := hds.out.full
      obtain ⟨lv, tv, L, Tl, hDM, hPB, hTB, hLl, hTl⟩ := hds.out.doc
      have hnd := tb_nodup hF1.inv hTB
      have hTpos := tb_pos hTB
      obtain ⟨bt, ot, capt, htv, -, -, r0, -, -, -, -⟩ := hDM.tab (i := 0) hTpos
      have hr0 := tb_zero hTB hTpos
      rw [hr0] at r0
      simp only [Nat.zero_mul, Nat.add_zero] at r0
      have hLu := hPB.und hF1.inv
      have c1 := hDM.c1
      have c2 := hDM.c2
      have hPg := fun w (h : Below wc.heap.size wc w) => Pages_any g pg 0 b n M1 F G hF1.inv hF1.rep w (hF1.keep h).tt.tm
      simp only [← hLu] at hPg
      have hSame := W_hid (fun v1 v2 B1 B2 w h1 h2 => RadSame_yes v1 v2 B1 B2 L w (by omega) h1 h2)
      have hTab := W_hid (fun w h => Tables_all g pg 0 b M1 w h (fun ss hs => by have := nums_len hF1.inv hF1.rep hF1.tk hs; omega) (root_some hF1.inv hF1.rep))
      have hRT := W_hid (fun w (h : DM w D g2 pg2 pb2 n T lv tv L Tl) => rTables_any D g2 pg2 pb2 n T lv tv L Tl w h hnd (by omega))
      have hEq := W_hid (fun l O (h1 : Nums M1 l) h2 (h3 : Up Tl Tl.length O) => tb_eq hF1.inv hF1.rep h1 h2 hTB h3)
      have hlen3 := W_hid (fun l (h1 : Nums M1 l) => nums_len hF1.inv hF1.rep hF1.tk h1)
      replace hPg := W_hid hPg
      have hFk := W_hid (fun w (h : Below wc.heap.size wc w) => hF1.keep h)
      have hDk := W_hid (fun w (h : Below wc.heap.size wc w) => hDM.keep h)
      replace hF1 := W_hid hF1
      replace hDM := W_hid hDM
      subst htv
      obtain ⟨NT, hNT⟩ : ∃ NT, Tl.length = NT := ⟨_, rfl⟩
      rw [hNT] at c2
      have hNTp : 0 < NT := by rw [← hNT]; exact hTpos
      replace hNT := W_hid hNT
      clear hds hops hll hnd hPB hTB hLu hr0
      go_wp2_with fail
      refine wp_region_held_drew (S := (fun w' => w'.cell? ⟨g2, 1, none⟩ = some lv ∧ w'.cell? ⟨g2, 2, none⟩ = some (.slice (some ⟨bt, ot, none⟩) NT capt) ∧ w'.cell? ⟨bt, ot, none⟩ = some (.int .u64 ((0 : Nat) : Int)))) (by kernel_rfl) ⟨c1, c2, r0⟩ (fun hHeld => ?_)
      refine wpAnyH_take (i := 0) (v := .bool true) rfl (by kernel_rfl) (by kernel_rfl) (by kernel_rfl) (fun _ _ _ h => h) (Or.inl ⟨by rfl, fun w0 ⟨s1, s2, s3⟩ => ?_⟩) hHeld ?_
      · go_simp
      try simp only [Act.put, List.setIfInBounds_toArray, List.set_cons_zero, List.set_cons_succ, List.getElem_toArray, List.getElem_cons_zero, List.getElem_cons_succ]
      refine wpAnyH_take (i := 1) (v := .bool true) rfl (by kernel_rfl) (by kernel_rfl) (by kernel_rfl) (fun _ _ _ h => h) (Or.inl ⟨by rfl, fun w0 ⟨s1, s2, s3⟩ => ?_⟩) hHeld ?_
      · go_simp
      try simp only [Act.put, List.setIfInBounds_toArray, List.set_cons_zero, List.set_cons_succ, List.getElem_toArray, List.getElem_cons_zero, List.getElem_cons_succ]
      refine wpAnyH_take (i := 2) (v := .pointer (some ⟨g, 0, none⟩)) rfl (by kernel_rfl) (by kernel_rfl) (by kernel_rfl) (fun _ _ _ h => h) (Or.inl ⟨by rfl, fun w0 ⟨s1, s2, s3⟩ => ?_⟩) hHeld ?_
      · go_simp
      try simp only [Act.put, List.setIfInBounds_toArray, List.set_cons_zero, List.set_cons_succ, List.getElem_toArray, List.getElem_cons_zero, List.getElem_cons_succ]
      refine wpAnyH_take (i := 4) (v := .pointer (some ⟨g2, 0, none⟩)) rfl (by kernel_rfl) (by kernel_rfl) (by kernel_rfl) (fun _ _ _ h => h) (Or.inl ⟨by rfl, fun w0 ⟨s1, s2, s3⟩ => ?_⟩) hHeld ?_
      · go_simp
      try simp only [Act.put, List.setIfInBounds_toArray, List.set_cons_zero, List.set_cons_succ, List.getElem_toArray, List.getElem_cons_zero, List.getElem_cons_succ]
      refine wpAnyH_take (i := 5) (v := .pointer (some ⟨g2, 0, none⟩)) rfl (by kernel_rfl) (by kernel_rfl) (by kernel_rfl) (fun _ _ _ h => h) (Or.inl ⟨by rfl, fun w0 ⟨s1, s2, s3⟩ => ?_⟩) hHeld ?_
      · go_simp
      try simp only [Act.put, List.setIfInBounds_toArray, List.set_cons_zero, List.set_cons_succ, List.getElem_toArray, List.getElem_cons_zero, List.getElem_cons_succ]
      refine wpAnyH_take (i := 6) (v := .pointer (some ⟨g2, 1, none⟩)) rfl (by kernel_rfl) (by kernel_rfl) (by kernel_rfl) (fun _ _ _ h => h) (Or.inl ⟨by rfl, fun w0 ⟨s1, s2, s3⟩ => ?_⟩) hHeld ?_
      · go_simp
      try simp only [Act.put, List.setIfInBounds_toArray, List.set_cons_zero, List.set_cons_succ, List.getElem_toArray, List.getElem_cons_zero, List.getElem_cons_succ]
      refine wpAnyH_take (i := 7) (v := lv) rfl (by kernel_rfl) (by kernel_rfl) (by kernel_rfl) (fun _ _ _ h => h) (Or.inl ⟨by rfl, fun w0 ⟨s1, s2, s3⟩ => ?_⟩) hHeld ?_
      · go_simp
      try simp only [Act.put, List.setIfInBounds_toArray, List.set_cons_zero, List.set_cons_succ, List.getElem_toArray, List.getElem_cons_zero, List.getElem_cons_succ]
      refine wpAnyH_ready (rs := [3]) (by kernel_rfl) (by simp) ?_
      refine AllReadyH.cons rfl (fun K hK => ?_) AllReadyH.nil
      go_simp
      refine (hPg.out _ (Below.drew (Below.refl _ _))).mono ?_
      rintro e w3 ⟨v3, rfl, ho3, b3⟩
      replace b3 := Own.bundrew b3
      have d1 : w3.cell? ⟨g2, 1, none⟩ = some lv := cell_keep b3 rfl c1
      have d2 : w3.cell? ⟨g2, 2, none⟩ = some (.slice (some ⟨bt, ot, none⟩) NT capt) := cell_keep b3 rfl c2
      have d3 : w3.cell? ⟨bt, ot, none⟩ = some (.int .u64 ((0 : Nat) : Int)) := cell_keep b3 rfl r0
      have B3 := W_hid b3
      have O3 := W_hid ho3
      clear b3 ho3
      refine hK.out _ _ ⟨d1, d2, d3⟩ (fun hHeld1 => ?_)
      clear hK K
      try simp only [Act.put, List.setIfInBounds_toArray, List.set_cons_zero, List.set_cons_succ, List.getElem_toArray, List.getElem_cons_zero, List.getElem_cons_succ]
      refine wpAnyH_ready (rs := [8]) (by kernel_rfl) (by simp) ?_
      refine AllReadyH.cons rfl (fun K hK => ?_) AllReadyH.nil
      go_simp
      refine (hSame.out v3 lv _ _ w3 O3.out (hDk.out w3 B3.out).lo).mono ?_
      rintro e w4 ⟨rfl, b4⟩
      have B4 := W_hid (B3.out.trans (b4.mono B3.out.size))
      clear d1 d2 d3
      have d1 : w4.cell? ⟨g2, 1, none⟩ = some lv := cell_keep B4.out rfl c1
      have d2 : w4.cell? ⟨g2, 2, none⟩ = some (.slice (some ⟨bt, ot, none⟩) NT capt) := cell_keep B4.out rfl c2
      have d3 : w4.cell? ⟨bt, ot, none⟩ = some (.int .u64 ((0 : Nat) : Int)) := cell_keep B4.out rfl r0
      refine hK.out _ _ ⟨d1, d2, d3⟩ (fun hHeld2 => ?_)
      clear hK K
      try simp only [Act.put, List.setIfInBounds_toArray, List.set_cons_zero, List.set_cons_succ, List.getElem_toArray, List.getElem_cons_zero, List.getElem_cons_succ]
      refine wpAnyH_take (i := 9) (v := .bool true) rfl (by kernel_rfl) (by kernel_rfl) (by kernel_rfl) (fun _ _ _ h => h) (Or.inl ⟨by rfl, fun w0 ⟨s1, s2, s3⟩ => ?_⟩) hHeld2 ?_
      · go_simp
      try simp only [Act.put, List.setIfInBounds_toArray, List.set_cons_zero, List.set_cons_succ, List.getElem_toArray, List.getElem_cons_zero, List.getElem_cons_succ]
      refine wpAnyH_take (i := 10) (v := .bool true) rfl (by kernel_rfl) (by kernel_rfl) (by kernel_rfl) (fun _ _ _ h => h) (Or.inl ⟨by rfl, fun w0 ⟨s1, s2, s3⟩ => ?_⟩) hHeld2 ?_
      · go_simp
      try simp only [Act.put, List.setIfInBounds_toArray, List.set_cons_zero, List.set_cons_succ, List.getElem_toArray, List.getElem_cons_zero, List.getElem_cons_succ]
      refine wpAnyH_take (i := 11) (v := .pointer (some ⟨g, 0, none⟩)) rfl (by kernel_rfl) (by kernel_rfl) (by kernel_rfl) (fun _ _ _ h => h) (Or.inl ⟨by rfl, fun w0 ⟨s1, s2, s3⟩ => ?_⟩) hHeld2 ?_
      · go_simp
      try simp only [Act.put, List.setIfInBounds_toArray, List.set_cons_zero, List.set_cons_succ, List.getElem_toArray, List.getElem_cons_zero, List.getElem_cons_succ]
      refine wpAnyH_take (i := 13) (v := .pointer (some ⟨g2, 0, none⟩)) rfl (by kernel_rfl) (by kernel_rfl) (by kernel_rfl) (fun _ _ _ h => h) (Or.inl ⟨by rfl, fun w0 ⟨s1, s2, s3⟩ => ?_⟩) hHeld2 ?_
      · go_simp
      try simp only [Act.put, List.setIfInBounds_toArray, List.set_cons_zero, List.set_cons_succ, List.getElem_toArray, List.getElem_cons_zero, List.getElem_cons_succ]
      refine wpAnyH_ready (rs := [12]) (by kernel_rfl) (by simp) ?_
      refine AllReadyH.cons rfl (fun K hK => ?_) AllReadyH.nil
      go_simp
      refine (hTab.out w4 (hFk.out w4 B4.out).tt.tm).mono ?_
      rintro e w5 ⟨v5, l5, rfl, hN5, hp5, hl5, b5⟩
      have B5 := W_hid (B4.out.trans (b5.mono B4.out.size))
      clear d1 d2 d3
      have d1 : w5.cell? ⟨g2, 1, none⟩ = some lv := cell_keep B5.out rfl c1
      have d2 : w5.cell? ⟨g2, 2, none⟩ = some (.slice (some ⟨bt, ot, none⟩) NT capt) := cell_keep B5.out rfl c2
      have d3 : w5.cell? ⟨bt, ot, none⟩ = some (.int .u64 ((0 : Nat) : Int)) := cell_keep B5.out rfl r0
      refine hK.out _ _ ⟨d1, d2, d3⟩ (fun hHeld3 => ?_)
      clear hK K
      try simp only [Act.put, List.setIfInBounds_toArray, List.set_cons_zero, List.set_cons_succ, List.getElem_toArray, List.getElem_cons_zero, List.getElem_cons_succ]
      refine wpAnyH_ready (rs := [14]) (by kernel_rfl) (by simp) ?_
      refine AllReadyH.cons rfl (fun K hK => ?_) AllReadyH.nil
      go_simp
      refine (hRT.out w5 (hDk.out w5 B5.out)).mono ?_
      rintro e w6 ⟨v6, l6, rfl, hU6, hl6, b6⟩
      obtain rfl := hEq.out l5 l6 hN5 hp5 hU6
      have B6 := W_hid (B5.out.trans (b6.mono B5.out.size))
      obtain ⟨x5, cap5, rest5, rfl, hx1, hx2, hx3⟩ := (hl5.keep b6).ex
      obtain ⟨x6, cap6, rfl, -, -⟩ := own_lens hl6
      have N6 := NC.own hl6
      have N5 : NC w6 (some ⟨x5, 0, none⟩) l5 := nc_blk hx3
      have hll5 := hlen3.out l5 hN5
      clear d1 d2 d3
      have d1 : w6.cell? ⟨g2, 1, none⟩ = some lv := cell_keep B6.out rfl c1
      have d2 : w6.cell? ⟨g2, 2, none⟩ = some (.slice (some ⟨bt, ot, none⟩) NT capt) := cell_keep B6.out rfl c2
      have d3 : w6.cell? ⟨bt, ot, none⟩ = some (.int .u64 ((0 : Nat) : Int)) := cell_keep B6.out rfl r0
      refine hK.out _ _ ⟨d1, d2, d3⟩ (fun hHeld4 => ?_)
      clear hK K
      try simp only [Act.put, List.setIfInBounds_toArray, List.set_cons_zero, List.set_cons_succ, List.getElem_toArray, List.getElem_cons_zero, List.getElem_cons_succ]
      refine wpAnyH_ready (rs := [15]) (by kernel_rfl) (by simp) ?_
      refine AllReadyH.cons rfl (fun K hK => ?_) AllReadyH.nil
      go_simp
      refine (SameFrames_yes (some ⟨x5, 0, none⟩) x6 cap5 cap6 l5 w6 (by omega) N5 N6).mono ?_
      rintro e w7 ⟨rfl, b7⟩
      have B7 := W_hid (B6.out.trans (b7.mono B6.out.size))
      clear d1 d2 d3
      have d1 : w7.cell? ⟨g2, 1, none⟩ = some lv := cell_keep B7.out rfl c1
      have d2 : w7.cell? ⟨g2, 2, none⟩ = some (.slice (some ⟨bt, ot, none⟩) NT capt) := cell_keep B7.out rfl c2
      have d3 : w7.cell? ⟨bt, ot, none⟩ = some (.int .u64 ((0 : Nat) : Int)) := cell_keep B7.out rfl r0
      refine hK.out _ _ ⟨d1, d2, d3⟩ (fun hHeld5 => ?_)
      clear hK K
      try simp only [Act.put, List.setIfInBounds_toArray, List.set_cons_zero, List.set_cons_succ, List.getElem_toArray, List.getElem_cons_zero, List.getElem_cons_succ]
      refine wpAnyH_take (i := 16) (v := .bool true) rfl (by kernel_rfl) (by kernel_rfl) (by kernel_rfl) (fun _ _ _ h => h) (Or.inl ⟨by rfl, fun w0 ⟨s1, s2, s3⟩ => ?_⟩) hHeld5 ?_
      · go_simp
      try simp only [Act.put, List.setIfInBounds_toArray, List.set_cons_zero, List.set_cons_succ, List.getElem_toArray, List.getElem_cons_zero, List.getElem_cons_succ]
      refine wpAnyH_take (i := 17) (v := .bool true) rfl (by kernel_rfl) (by kernel_rfl) (by kernel_rfl) (fun _ _ _ h => h) (Or.inl ⟨by rfl, fun w0 ⟨s1, s2, s3⟩ => ?_⟩) hHeld5 ?_
      · go_simp
      try simp only [Act.put, List.setIfInBounds_toArray, List.set_cons_zero, List.set_cons_succ, List.getElem_toArray, List.getElem_cons_zero, List.getElem_cons_succ]
      refine wpAnyH_take (i := 18) (v := .pointer (some ⟨g, 0, none⟩)) rfl (by kernel_rfl) (by kernel_rfl) (by kernel_rfl) (fun _ _ _ h => h) (Or.inl ⟨by rfl, fun w0 ⟨s1, s2, s3⟩ => ?_⟩) hHeld5 ?_
      · go_simp
      try simp only [Act.put, List.setIfInBounds_toArray, List.set_cons_zero, List.set_cons_succ, List.getElem_toArray, List.getElem_cons_zero, List.getElem_cons_succ]
      refine wpAnyH_take (i := 20) (v := .pointer (some ⟨g2, 0, none⟩)) rfl (by kernel_rfl) (by kernel_rfl) (by kernel_rfl) (fun _ _ _ h => h) (Or.inl ⟨by rfl, fun w0 ⟨s1, s2, s3⟩ => ?_⟩) hHeld5 ?_
      · go_simp
      try simp only [Act.put, List.setIfInBounds_toArray, List.set_cons_zero, List.set_cons_succ, List.getElem_toArray, List.getElem_cons_zero, List.getElem_cons_succ]
      refine wpAnyH_take (i := 21) (v := .pointer (some ⟨g2, 0, none⟩)) rfl (by kernel_rfl) (by kernel_rfl) (by kernel_rfl) (fun _ _ _ h => h) (Or.inl ⟨by rfl, fun w0 ⟨s1, s2, s3⟩ => ?_⟩) hHeld5 ?_
      · go_simp
      try simp only [Act.put, List.setIfInBounds_toArray, List.set_cons_zero, List.set_cons_succ, List.getElem_toArray, List.getElem_cons_zero, List.getElem_cons_succ]
      refine wpAnyH_take (i := 22) (v := .pointer (some ⟨g2, 2, none⟩)) rfl (by kernel_rfl) (by kernel_rfl) (by kernel_rfl) (fun _ _ _ h => h) (Or.inl ⟨by rfl, fun w0 ⟨s1, s2, s3⟩ => ?_⟩) hHeld5 ?_
      · go_simp
      try simp only [Act.put, List.setIfInBounds_toArray, List.set_cons_zero, List.set_cons_succ, List.getElem_toArray, List.getElem_cons_zero, List.getElem_cons_succ]
      refine wpAnyH_take (i := 23) (v := .slice (some ⟨bt, ot, none⟩) NT capt) rfl (by kernel_rfl) (by kernel_rfl) (by kernel_rfl) (fun _ _ _ h => h) (Or.inl ⟨by rfl, fun w0 ⟨s1, s2, s3⟩ => ?_⟩) hHeld5 ?_
      · go_simp
      try simp only [Act.put, List.setIfInBounds_toArray, List.set_cons_zero, List.set_cons_succ, List.getElem_toArray, List.getElem_cons_zero, List.getElem_cons_succ]
      refine wpAnyH_take (i := 24) (v := .pointer (some ⟨bt, ot, none⟩)) rfl (by kernel_rfl) (by kernel_rfl) (by kernel_rfl) (fun _ _ _ h => h) (Or.inl ⟨by rfl, fun w0 ⟨s1, s2, s3⟩ => ?_⟩) hHeld5 ?_
      · go_simp
      try simp only [Act.put, List.setIfInBounds_toArray, List.set_cons_zero, List.set_cons_succ, List.getElem_toArray, List.getElem_cons_zero, List.getElem_cons_succ]
      refine wpAnyH_take (i := 25) (v := .pointer (some ⟨bt, ot, none⟩)) rfl (by kernel_rfl) (by kernel_rfl) (by kernel_rfl) (fun _ _ _ h => h) (Or.inl ⟨by rfl, fun w0 ⟨s1, s2, s3⟩ => ?_⟩) hHeld5 ?_
      · go_simp
      try simp only [Act.put, List.setIfInBounds_toArray, List.set_cons_zero, List.set_cons_succ, List.getElem_toArray, List.getElem_cons_zero, List.getElem_cons_succ]
      refine wpAnyH_take (i := 26) (v := .int .u64 ((0 : Nat) : Int)) rfl (by kernel_rfl) (by kernel_rfl) (by kernel_rfl) (fun _ _ _ h => h) (Or.inl ⟨by rfl, fun w0 ⟨s1, s2, s3⟩ => ?_⟩) hHeld5 ?_
      · go_simp
      try simp only [Act.put, List.setIfInBounds_toArray, List.set_cons_zero, List.set_cons_succ, List.getElem_toArray, List.getElem_cons_zero, List.getElem_cons_succ]
      refine wpAnyH_ready (rs := [19]) (by kernel_rfl) (by simp) ?_
      refine AllReadyH.cons rfl (fun K hK => ?_) AllReadyH.nil
      go_simp
      refine (Root_any g pg 0 b M1 w7 (hFk.out w7 B7.out).tt.tm).mono ?_
      rintro e w8 ⟨rfl, rfl⟩
      refine hK.out _ _ ⟨d1, d2, d3⟩ (fun hHeld6 => ?_)
      clear hK K
      try simp only [Act.put, List.setIfInBounds_toArray, List.set_cons_zero, List.set_cons_succ, List.getElem_toArray, List.getElem_cons_zero, List.getElem_cons_succ]
      refine wpAnyH_take (i := 27) (v := .bool true) rfl (by kernel_rfl) (by kernel_rfl) (by kernel_rfl) (fun _ _ _ h => h) (Or.inl ⟨by rfl, fun w0 ⟨s1, s2, s3⟩ => ?_⟩) hHeld6 ?_
      · go_simp
      try simp only [Act.put, List.setIfInBounds_toArray, List.set_cons_zero, List.set_cons_succ, List.getElem_toArray, List.getElem_cons_zero, List.getElem_cons_succ]
      refine wpAnyH_take (i := 28) (v := .bool true) rfl (by kernel_rfl) (by kernel_rfl) (by kernel_rfl) (fun _ _ _ h => h) (Or.inl ⟨by rfl, fun w0 ⟨s1, s2, s3⟩ => ?_⟩) hHeld6 ?_
      · go_simp
      try simp only [Act.put, List.setIfInBounds_toArray, List.set_cons_zero, List.set_cons_succ, List.getElem_toArray, List.getElem_cons_zero, List.getElem_cons_succ]
      refine wpAnyH_take (i := 29) (v := .bool true) rfl (by kernel_rfl) (by kernel_rfl) (by kernel_rfl) (fun _ _ _ h => h) (Or.inl ⟨by rfl, fun w0 ⟨s1, s2, s3⟩ => ?_⟩) hHeld6 ?_
      · go_simp
      try simp only [Act.put, List.setIfInBounds_toArray, List.set_cons_zero, List.set_cons_succ, List.getElem_toArray, List.getElem_cons_zero, List.getElem_cons_succ]
      refine wpAnyH_done (by kernel_rfl) ?_ _
      go_wp2_with fail
      go_ret
      exact ⟨rfl, hbel.out.trans (B7.out.mono hbel.out.size)⟩

set_option maxRecDepth 100000 in
theorem RadixDoes_lifted (os : Os) (started : os.Started) (H : Type) (enc : TypeId × Value → H) :
    ReturnsInHanded {} Tryz.checked os 3 .any (fun w args => (Rows.radixDoesSpec.pre enc Tryz.prog Tryz.f3 [] false w args ∧ laidMetH Tryz.prog [("hayward/entry.kinds", Rows.laid_hayward_entry_kinds)] w) ∧ sizedMet enc Tryz.prog Tryz.f3 (OpenSpec.ofChange Rows.radixDoesSpec) false w args)
      (Rows.radixDoesSpec.post enc Tryz.prog Tryz.f3 false true false false) := by
  refine returnsInHanded_of_change_and (C := Tryz.checked) (X := fun w _ => laidMetH Tryz.prog [("hayward/entry.kinds", Rows.laid_hayward_entry_kinds)] w) (fun _ _ _ hh h => h.of_heap hh) (by kernel_rfl) started (by kernel_rfl) Tryz.func3
    (ChangeSpec.witness_shaped (enc := enc) (C := Tryz.checked) (os := os) (X := fun w _ => laidMetH Tryz.prog [("hayward/entry.kinds", Rows.laid_hayward_entry_kinds)] w) false (World.doorLaid Tryz.prog 400 os) #[.int .i64 0, .slice none 0 0] 8 rfl (World.shaped_of_RefB (by kernel_rfl) (by kernel_rfl)) (by kernel_rfl) (by kernel_rfl) (by kernel_rfl) (kinds_met os _)) ?_
  intro W base args ds gs before hval0 hW hcnd hsz0 hL _
  have hval : ∀ (j : Nat) t v, Tryz.f3.params[j]? = some t → args[j]? = some v → Value.okWide Tryz.prog W .any base t v := hval0
  have hW' := hW
  obtain ⟨p, q, hA0, hV, rfl, hfz, hnd⟩ := hW
  have hA : DataW.TrodAll enc Tryz.prog W 0 (fun _ => true) true Tryz.f3.params.toList args.toList ds p := hA0
  rw [Tryz.params3] at hA hval
  obtain ⟨v0, vs0, d0, ds0, p0, q0, hargs, rfl, rfl, h0, r0⟩ := trodAll_cons hA
  obtain ⟨v1, vs1, d1, ds1, p1, q1, rfl, rfl, rfl, h1, r1⟩ := trodAll_cons r0
  obtain ⟨rfl, rfl, rfl⟩ := trodAll_nil r1
  obtain rfl : args = #[v0, v1] := by cases args; simp_all
  obtain ⟨rfl, rfl⟩ := trodVars_none hV
  obtain ⟨a0, rfl, rfl, rfl, w0⟩ := open_int Tryz.underlying3 (hval 0 3 v0 rfl rfl) h0
  have k1 := h1
  have lt1 : ∀ x ∈ p1, x.block < W.heap.size := by obtain ⟨m, hm⟩ := k1; exact DataW.trod_lt m _ _ _ hm
  obtain ⟨o1, n1, c1, l1, rfl, w1⟩ := open_ops8 (hval 1 22 v1 rfl rfl) h1
  clear hA0 hval0
  refine (RadixDoes_walk a0 o1 n1 c1 l1 W (kt_of_laid hL) w0 w1).mono fun e W' ⟨he, bel⟩ => ?_
  subst he
  exact ⟨_, rfl, _, _, _, [], _, [], hW', trodAll_mk1 (shut_bool Tryz.underlying4 _), (trodAll_cons_mk (shut_int Tryz.underlying3 w0) (trodAll_cons_mk (Below.trod laidOut (by kernel_rfl) (of_decide_eq_true (by kernel_rfl)) k1 bel lt1) trodAll_mk0)), rfl, bel.frame _, fun h => by cases h⟩

/-- The given statement of RadixDoes. -/
theorem RadixDoes_holds : Rows.RadixDoesSaid :=
  OpenClaim.holds_of_wide 3 Tryz.f3 rfl rfl rfl rfl rfl rfl rfl ⟨rfl, rfl, rfl, rfl, rfl⟩ rfl rfl rfl rfl rfl (by kernel_rfl) Tryz.func3 (by kernel_rfl)
    (of_decide_eq_true (by kernel_rfl)) (by unfold Func.isWrapper; first | (rw [if_pos (by decide +kernel)]; kernel_rfl) | (rw [if_neg (by decide +kernel)]; exact ⟨rfl, rfl⟩))
    (fun os started H enc _ => RadixDoes_lifted os started H enc)

/-- The given card of RadixDoes: the row, with what it lists tied to the text of the program. -/
theorem RadixDoes_card_holds : Rows.RadixDoesCardSaid :=
  Claim7.holds_tied_plain_at .later [] [.data] true Rows.radixDoesCard.stood.harness Rows.radixDoesCard.stood.looks
    RadixDoes_holds (fun _ h => by cases h) (by kernel_rfl) (fun _ h => by cases h) radixDoes_row_tie rfl ⟨rfl, rfl⟩ (by kernel_rfl) rfl
    (fun f fn hf hfn => by
      obtain rfl : f = 3 := Option.some.inj ((show Tryz.prog.funcNamed "hayward/haywardlaw08.RadixDoes" = some 3 by kernel_rfl).symm.trans hf) |>.symm
      obtain rfl : fn = Tryz.f3 := (Option.some.inj (Tryz.func3.symm.trans hfn)).symm
      exact ⟨by kernel_rfl, fun j t ht => by
        rw [Tryz.params3] at ht
        have hm : t ∈ [3, 22] := by simpa using Array.mem_of_getElem? ht
        have hall : ([3, 22].all fun u => !Tryz.prog.wantsStandIn u) = true := by kernel_rfl
        exact (show Tryz.prog.wantsStandIn t = false by simpa using List.all_eq_true.1 hall t hm)⟩)
    (by kernel_rfl)
end Go.Proofs.YthdohimjcjkneaaGreatDoor

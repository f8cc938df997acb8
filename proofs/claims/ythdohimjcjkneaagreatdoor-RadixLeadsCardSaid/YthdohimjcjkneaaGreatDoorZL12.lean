/- The law RadixLeads of layer 8 (package haywardlaw08): for every input it returns true, and its arguments read as before. What the row lists of package variables is tied to the program's text by the card; no further condition. -/
import Derived.Test.YthdohimjcjkneaaGreatDoorZL11

namespace Go.Proofs.YthdohimjcjkneaaGreatDoor
open Go.ChangeShapes Go.WideShapes Go.ChangeAt Go.RowKit
set_option linter.unusedVariables false
set_option linter.unusedSimpArgs false

theorem at_adrew {P : Program} {f : FuncId} {a : Array Value} {W : World} {o : Obj} {Q : Ending → World → Prop} (h : Calls P f a (W.alloc o).drew Q) : Calls P f a (W.alloc o).drew Q := h

set_option maxRecDepth 100000 in
set_option maxHeartbeats 40000000 in
theorem RadixLeads_walk (o0 : Option Addr) (n0 c0 : Nat) (l0 : List OpT) (a1 : Int) (w : World) (hk : KT w) (w0 : OS8 w o0 n0 c0 l0) (w1 : (Lit.int .u64 a1).wf = true) :
    Calls Tryz.prog 5 #[.slice o0 n0 c0, .int .u64 a1] w fun e w' => e = .returned (.bool true) ∧ Below w.heap.size w w' := by
  obtain ⟨hlen, hll, hops⟩ := w0
  have hlen2 : (n0 : Int) ≤ 9223372036854775807 := by unfold maxLen at hlen; omega
  have hbd := bounds_u64 w1
  obtain ⟨va, rfl⟩ : ∃ va : Nat, a1 = va := ⟨a1.toNat, by omega⟩
  have hva : va < 18446744073709551616 := by omega
  have hS := W_hid (shown_any w hk)
  have hO := W_hid (fun w hk => opened_any 200 (by omega) (by omega) w hk)
  have hN := W_hid (rNew_yes 200 (by omega) (by omega))
  have hT := W_hid (fun pg pb w h => rNew_tree pg pb 200 0 (fresh 200) w h (by omega) (low_fresh 200 (by omega)))
  replace hops := W_hid hops
  replace hll := W_hid hll
  replace hk := W_hid hk
  clear w1 hlen hbd
  go_enter Tryz.func5, Tryz.ntmps5
  go_wp2_with fail
  refine hS.out.mono ?_
  rintro e w1 ⟨rfl, bel1⟩
  go_wp2_with fail
  refine (hO.out w1 (hk.out.keep bel1)).mono ?_
  rintro e w2 ⟨g, pg, pb, b, M, rfl, hg, hpg, hpb, hb, hF, bel2⟩
  replace bel2 := bel1.trans (bel2.mono bel1.size)
  have hs1 := bel1.size
  have hs2 := bel2.size
  replace bel2 := W_hid bel2
  replace hF := W_hid hF
  clear bel1 hS hO
  go_wp2_with fail
  refine (hN.out w2).mono ?_
  rintro e w3 ⟨rfl, hrl, bel3⟩
  replace hT := W_hid (hT.out _ _ w3 hrl)
  have hs3 := bel3.size
  replace bel3 := W_hid bel3
  clear hrl hN
  go_wp2_with fail
  refine hT.out.mono ?_
  rintro e w4 ⟨g2, tv, D0, rfl, hdm, hbut, hD0⟩
  have b34 := bel3.out.trans (hbut.below (B := w2.heap.size) (by simp) hs3)
  obtain ⟨D, hD, hds⟩ := ds_new (n := 200) (by omega) hF.out hdm b34 (fun x hx => by rcases hD0 x hx with e | e | e <;> omega)
  have hDw : Hid (∀ x ∈ D, w.heap.size ≤ x) := W_hid (fun x hx => by have := hD x hx; omega)
  have hB4 := W_hid (bel2.out.trans (b34.mono hs2))
  obtain ⟨pg2, hpg2⟩ : ∃ x, x = w2.heap.size + 1 := ⟨_, rfl⟩
  obtain ⟨pb2, hpb2⟩ : ∃ x, x = w2.heap.size := ⟨_, rfl⟩
  rw [← hpg2, ← hpb2] at hds
  replace hds := W_hid hds
  have hgs : Hid (w.heap.size ≤ g ∧ w.heap.size ≤ pg ∧ w.heap.size ≤ pb ∧ w.heap.size ≤ b) := W_hid (by omega)
  clear hT b34 hbut hdm hD0 hD hpg2 hpb2 hF bel2 bel3 hg hpg hpb hb hs1 hs2 hs3
  go_wp2_with fail
  go_loopw [13] (fun i wr => ∃ (j : Nat) (D : List Nat) (T : Nat → Bool) (F : RX.Tabs) (G : RX.Pags), j ≤ n0 ∧ j ≤ 60 ∧ i = .int .i64 (j : Int) ∧ Hid (DS wr g pg pb 200 (words 200) 0 b D g2 pg2 pb2 T T F F G G j) ∧ Hid (∀ x ∈ D, w.heap.size ≤ x) ∧ Hid (Below w.heap.size w wr)) (fun i _ => n0 - (intOf i).toNat)
  case atStart => exact ⟨0, D, _, _, _, by omega, by omega, rfl, hds, hDw, hB4⟩
  case round =>
    clear hds hDw hB4
    obtain ⟨j, D, T, F, G, hj, hj2, rfl, hds, hDw, hbel⟩ := hrel
    by_cases hlt : j < n0 ∧ j < 60
    · obtain ⟨hl1, hl2⟩ := hlt
      obtain ⟨blk, off, rfl, hblk, hc0, hc1, hc2, hc3, hc4, hz1, hz2, hz3, hz4, hz5, hz6⟩ := hops.out j (by rw [hll.out]; exact hl1)
      obtain ⟨⟨kd, x, f, p, u⟩, hx⟩ : ∃ x, l0[j]'(by rw [hll.out]; exact hl1) = x := ⟨_, rfl⟩
      rw [hx] at hc0 hc1 hc2 hc3 hc4 hz1 hz2 hz3 hz4 hz5 hz6
      simp only at hc0 hc1 hc2 hc3 hc4 hz1 hz2 hz3 hz4 hz5 hz6
      have k0 : wr.cell? ⟨blk, off + j * 5, none⟩ = some (.int .i64 kd) := by rw [hbel.out.cell (p := ⟨blk, off + j * 5, none⟩) hblk]; exact hc0
      have k1 : wr.cell? ⟨blk, off + j * 5 + 1, none⟩ = some (.int .u64 x) := by rw [hbel.out.cell (p := ⟨blk, off + j * 5 + 1, none⟩) hblk]; exact hc1
      have k2 : wr.cell? ⟨blk, off + j * 5 + 2, none⟩ = some (.int .u64 f) := by rw [hbel.out.cell (p := ⟨blk, off + j * 5 + 2, none⟩) hblk]; exact hc2
      have k3 : wr.cell? ⟨blk, off + j * 5 + 3, none⟩ = some (.int .i64 p) := by rw [hbel.out.cell (p := ⟨blk, off + j * 5 + 3, none⟩) hblk]; exact hc3
      have k4 : wr.cell? ⟨blk, off + j * 5 + 4, none⟩ = some (.bool u) := by rw [hbel.out.cell (p := ⟨blk, off + j * 5 + 4, none⟩) hblk]; exact hc4
      have hdo := W_hid (does_any g pg pb 200 (words 200) 0 b D g2 pg2 pb2 T F G j wr hds.out kd x f p u ⟨hz1, hz2⟩ hz3 hz4 hz5 hz6 (by omega))
      clear hx hc0 hc1 hc2 hc3 hc4 hz1 hz2 hz3 hz4 hz5 hz6
      go_wp2_with fail
      refine hdo.out.mono ?_
      rintro e w5 ⟨rfl, D', T', F', G', hd5, hb5, hD5⟩
      have hbl5 := W_hid (hbel.out.trans (hb5.below (B := w.heap.size) (fun y hy => by
        rcases List.mem_append.1 hy with h | h
        · have := hgs.out; simp at h; omega
        · exact hDw.out y h) hbel.out.size))
      have hDw5 : Hid (∀ x ∈ D', w.heap.size ≤ x) := W_hid (fun y hy => by
        rcases hD5 y hy with h | h
        · exact hDw.out y h
        · have := hbel.out.size; omega)
      replace hd5 := W_hid hd5
      clear hb5 hD5 hdo
      go_wp2_with fail
      go_roundw
      case rel => exact ⟨j + 1, D', T', F', G', by omega, by omega, by go_num, hd5, hDw5, hbl5⟩
      case measure => simp [intOf]; omega
    · obtain ⟨wa, rfl⟩ : ∃ wa, wa = wr := ⟨wr, rfl⟩
      obtain ⟨M1, hF1⟩ := hds.out.full
      have hI := W_hid hF1.inv
      have hPg := W_hid (Pages_any g pg 0 b 200 M1 F G hF1.inv hF1.rep wa hF1.tt.tm)
      have hwk := W_hid (fun va w h hva => walked_any g pg pb 200 (words 200) 0 b va T M1 F G w h hva)
      have hwy := W_hid (fun va w h hok => Walk_yes g pg pb 200 (words 200) 0 b va 0 T M1 F G w h hok)
      have hSz := W_hid rSize_any
      have hlast := W_hid (fun x hx => @wk_last F G 0 200 x hF1.inv hx)
      have hcs := W_hid (wk_cases hF1.inv va)
      replace hF1 := W_hid hF1
      have hex : (¬ j < n0) ∨ (j < n0 ∧ ¬ j < 60) := by omega
      clear hlt hops hll hds hDw hgs
      obtain ⟨Lp, hLp⟩ : ∃ L, L = RX.und F G 4 0 := ⟨_, rfl⟩
      rw [← hLp] at hPg hlast
      rcases hex with h1 | ⟨h1, h2⟩
      all_goals
        go_wp2_with fail
        refine hPg.out.mono ?_
        rintro e w5 ⟨v, rfl, hv5, bel5⟩
        have hF5 := W_hid (hF1.out.keep bel5)
        have hB5 := W_hid (hbel.out.trans (bel5.mono hbel.out.size))
        obtain ⟨ao, cap, rfl, hn1, hn2⟩ := own_lens hv5
        have hv5 := W_hid hv5
        unfold maxLen at hn2
        clear bel5 hF1 hbel hPg
        obtain ⟨N, hN⟩ : ∃ N, Lp.length = N := ⟨_, rfl⟩
        rw [hN] at hn1 ⊢
        replace hN := W_hid hN
        have hN63 : (N : Int) ≤ 9223372036854775807 := by omega
        go_wp2_with fail
        go_loopw [15] (fun i w6 => ∃ j : Nat, j ≤ N ∧ i = .int .i64 (j : Int) ∧ Hid (Full w6 g pg pb 200 (words 200) T 0 b M1 F G) ∧ Hid (w6.ownsRow wa.heap.size 38 4 (.slice ao Lp.length cap) Lp.length (pcl Lp)) ∧ Hid (Below w.heap.size w w6)) (fun i _ => N - (intOf i).toNat)
        case atStart => exact ⟨0, by omega, rfl, hF5, hv5, hB5⟩
        case round =>
          clear hF5 hv5 hB5
          obtain ⟨i, hi, rfl, hF6, hv6, hB6⟩ := hrel
          by_cases hlt : i < N
          · obtain ⟨bb, oo, cap', hv', k0, k1, k2, k3⟩ := row_page hv6.out (show i < Lp.length by rw [hN.out]; exact hlt)
            simp only [Value.slice.injEq] at hv'
            obtain ⟨rfl, -, rfl⟩ := hv'
            obtain ⟨h1', h2', h3', h4', h5'⟩ := hlast.out _ (List.getElem_mem (show i < Lp.length by rw [hN.out]; exact hlt))
            obtain ⟨⟨x1, f1, p1, u1⟩, hx⟩ : ∃ x, Lp[i]'(show i < Lp.length by rw [hN.out]; exact hlt) = x := ⟨_, rfl⟩
            rw [hx] at k0 k1 k2 k3 h1' h2' h3' h4' h5'
            simp only at k0 k1 k2 k3 h1' h2' h3' h4' h5'
            obtain ⟨sz1, sz2⟩ := psz_b u1
            have hS2 := W_hid (fun w => hSz.out (x1 : Int) (f1 : Int) p1 u1 w)
            obtain ⟨sz, hsz⟩ : ∃ sz, sz = RX.psz u1 := ⟨_, rfl⟩
            rw [← hsz] at hS2 sz1 sz2 h1' h4' h5'
            have hwr : IntKind.u64.wrap (IntKind.u64.wrap ((x1 : Int) + (sz : Int)) - 1) = ((x1 + sz - 1 : Nat) : Int) := by
              rw [IntWalk.u64_in ((x1 : Int) + (sz : Int)) (by omega), IntWalk.u64_in _ (by omega)]
              omega
            have hW2 := W_hid (fun w h => hwk.out _ w h h1')
            rw [h4', h5', ← hwr] at hW2
            have hck : Hid (∀ (W W' : World), Below W.heap.size W W' → (W.cell? ⟨bb, oo + i * 4, none⟩ = some (.int .u64 (x1 : Int)) ∧ W.cell? ⟨bb, oo + i * 4 + 1, none⟩ = some (.int .u64 (f1 : Int)) ∧ W.cell? ⟨bb, oo + i * 4 + 2, none⟩ = some (.int .i64 p1) ∧ W.cell? ⟨bb, oo + i * 4 + 3, none⟩ = some (.bool u1)) → (W'.cell? ⟨bb, oo + i * 4, none⟩ = some (.int .u64 (x1 : Int)) ∧ W'.cell? ⟨bb, oo + i * 4 + 1, none⟩ = some (.int .u64 (f1 : Int)) ∧ W'.cell? ⟨bb, oo + i * 4 + 2, none⟩ = some (.int .i64 p1) ∧ W'.cell? ⟨bb, oo + i * 4 + 3, none⟩ = some (.bool u1))) := by
              intro W W' b ⟨c0, c1, c2, c3⟩
              exact ⟨by rw [b.cell (World.block_lt_of_cell? W _ c0)]; exact c0, by rw [b.cell (World.block_lt_of_cell? W _ c1)]; exact c1, by rw [b.cell (World.block_lt_of_cell? W _ c2)]; exact c2, by rw [b.cell (World.block_lt_of_cell? W _ c3)]; exact c3⟩
            have hS3 : Hid (∀ W, ((W.cell? ⟨bb, oo + i * 4, none⟩ = some (.int .u64 (x1 : Int)) ∧ W.cell? ⟨bb, oo + i * 4 + 1, none⟩ = some (.int .u64 (f1 : Int)) ∧ W.cell? ⟨bb, oo + i * 4 + 2, none⟩ = some (.int .i64 p1) ∧ W.cell? ⟨bb, oo + i * 4 + 3, none⟩ = some (.bool u1)) ∧ Below wr.heap.size wr W) → Calls Tryz.prog 30 #[.agg #[.int .u64 (x1 : Int), .int .u64 (f1 : Int), .int .i64 p1, .bool u1]] W fun e W' => e = .returned (.int .u64 (sz : Int)) ∧ Below W.heap.size W W' ∧ ((W'.cell? ⟨bb, oo + i * 4, none⟩ = some (.int .u64 (x1 : Int)) ∧ W'.cell? ⟨bb, oo + i * 4 + 1, none⟩ = some (.int .u64 (f1 : Int)) ∧ W'.cell? ⟨bb, oo + i * 4 + 2, none⟩ = some (.int .i64 p1) ∧ W'.cell? ⟨bb, oo + i * 4 + 3, none⟩ = some (.bool u1)) ∧ Below wr.heap.size wr W')) := by
              rintro W ⟨hc, hb⟩
              refine (hS2.out W).mono ?_
              rintro e W' ⟨rfl, b⟩
              exact ⟨rfl, b, hck.out W W' b hc, hb.trans (b.mono hb.size)⟩
            have hW3 : Hid (∀ W, ((W.cell? ⟨bb, oo + i * 4, none⟩ = some (.int .u64 (x1 : Int)) ∧ W.cell? ⟨bb, oo + i * 4 + 1, none⟩ = some (.int .u64 (f1 : Int)) ∧ W.cell? ⟨bb, oo + i * 4 + 2, none⟩ = some (.int .i64 p1) ∧ W.cell? ⟨bb, oo + i * 4 + 3, none⟩ = some (.bool u1)) ∧ Below wr.heap.size wr W) → Calls Tryz.prog 29 #[.pointer (some ⟨g, 0, none⟩), .int .u64 (IntKind.u64.wrap (IntKind.u64.wrap ((x1 : Int) + (sz : Int)) - 1))] W fun e W' => e = .returned (.tuple #[.agg #[.int .u64 (x1 : Int), .int .u64 (f1 : Int), .int .i64 p1, .bool u1], .bool true]) ∧ Below W.heap.size W W' ∧ ((W'.cell? ⟨bb, oo + i * 4, none⟩ = some (.int .u64 (x1 : Int)) ∧ W'.cell? ⟨bb, oo + i * 4 + 1, none⟩ = some (.int .u64 (f1 : Int)) ∧ W'.cell? ⟨bb, oo + i * 4 + 2, none⟩ = some (.int .i64 p1) ∧ W'.cell? ⟨bb, oo + i * 4 + 3, none⟩ = some (.bool u1)) ∧ Below wr.heap.size wr W')) := by
              rintro W ⟨hc, hb⟩
              refine (hW2.out W (hF6.out.keep hb)).mono ?_
              rintro e W' ⟨rfl, b⟩
              exact ⟨rfl, b, hck.out W W' b hc, hb.trans (b.mono hb.size)⟩
            have S0 : Hid ((wr.cell? ⟨bb, oo + i * 4, none⟩ = some (.int .u64 (x1 : Int)) ∧ wr.cell? ⟨bb, oo + i * 4 + 1, none⟩ = some (.int .u64 (f1 : Int)) ∧ wr.cell? ⟨bb, oo + i * 4 + 2, none⟩ = some (.int .i64 p1) ∧ wr.cell? ⟨bb, oo + i * 4 + 3, none⟩ = some (.bool u1)) ∧ Below wr.heap.size wr wr) := ⟨⟨k0, k1, k2, k3⟩, Below.refl _ _⟩
            have sdr : Hid (∀ W, ((W.cell? ⟨bb, oo + i * 4, none⟩ = some (.int .u64 (x1 : Int)) ∧ W.cell? ⟨bb, oo + i * 4 + 1, none⟩ = some (.int .u64 (f1 : Int)) ∧ W.cell? ⟨bb, oo + i * 4 + 2, none⟩ = some (.int .i64 p1) ∧ W.cell? ⟨bb, oo + i * 4 + 3, none⟩ = some (.bool u1)) ∧ Below wr.heap.size wr W) → ((W.drew.cell? ⟨bb, oo + i * 4, none⟩ = some (.int .u64 (x1 : Int)) ∧ W.drew.cell? ⟨bb, oo + i * 4 + 1, none⟩ = some (.int .u64 (f1 : Int)) ∧ W.drew.cell? ⟨bb, oo + i * 4 + 2, none⟩ = some (.int .i64 p1) ∧ W.drew.cell? ⟨bb, oo + i * 4 + 3, none⟩ = some (.bool u1)) ∧ Below wr.heap.size wr W.drew)) := fun W h => ⟨h.1, Below.drew h.2⟩
            have sal : Hid (∀ W o, ((W.cell? ⟨bb, oo + i * 4, none⟩ = some (.int .u64 (x1 : Int)) ∧ W.cell? ⟨bb, oo + i * 4 + 1, none⟩ = some (.int .u64 (f1 : Int)) ∧ W.cell? ⟨bb, oo + i * 4 + 2, none⟩ = some (.int .i64 p1) ∧ W.cell? ⟨bb, oo + i * 4 + 3, none⟩ = some (.bool u1)) ∧ Below wr.heap.size wr W) → (((W.alloc o).cell? ⟨bb, oo + i * 4, none⟩ = some (.int .u64 (x1 : Int)) ∧ (W.alloc o).cell? ⟨bb, oo + i * 4 + 1, none⟩ = some (.int .u64 (f1 : Int)) ∧ (W.alloc o).cell? ⟨bb, oo + i * 4 + 2, none⟩ = some (.int .i64 p1) ∧ (W.alloc o).cell? ⟨bb, oo + i * 4 + 3, none⟩ = some (.bool u1)) ∧ Below wr.heap.size wr (W.alloc o))) := fun W o h => ⟨hck.out W (W.alloc o) (Below.alloc (Below.refl _ _) (Nat.le_refl _) o) h.1, h.2.alloc h.2.size o⟩
            have hbb := World.block_lt_of_cell? wr _ k0
            have sset : Hid (∀ W q a b c d, wr.heap.size ≤ q → ((W.cell? ⟨bb, oo + i * 4, none⟩ = some (.int .u64 (x1 : Int)) ∧ W.cell? ⟨bb, oo + i * 4 + 1, none⟩ = some (.int .u64 (f1 : Int)) ∧ W.cell? ⟨bb, oo + i * 4 + 2, none⟩ = some (.int .i64 p1) ∧ W.cell? ⟨bb, oo + i * 4 + 3, none⟩ = some (.bool u1)) ∧ Below wr.heap.size wr W) → ((((((W.setCell ⟨q, 0, none⟩ a).setCell ⟨q, 1, none⟩ b).setCell ⟨q, 2, none⟩ c).setCell ⟨q, 3, none⟩ d).cell? ⟨bb, oo + i * 4, none⟩ = some (.int .u64 (x1 : Int)) ∧ ((((W.setCell ⟨q, 0, none⟩ a).setCell ⟨q, 1, none⟩ b).setCell ⟨q, 2, none⟩ c).setCell ⟨q, 3, none⟩ d).cell? ⟨bb, oo + i * 4 + 1, none⟩ = some (.int .u64 (f1 : Int)) ∧ ((((W.setCell ⟨q, 0, none⟩ a).setCell ⟨q, 1, none⟩ b).setCell ⟨q, 2, none⟩ c).setCell ⟨q, 3, none⟩ d).cell? ⟨bb, oo + i * 4 + 2, none⟩ = some (.int .i64 p1) ∧ ((((W.setCell ⟨q, 0, none⟩ a).setCell ⟨q, 1, none⟩ b).setCell ⟨q, 2, none⟩ c).setCell ⟨q, 3, none⟩ d).cell? ⟨bb, oo + i * 4 + 3, none⟩ = some (.bool u1)) ∧ Below wr.heap.size wr ((((W.setCell ⟨q, 0, none⟩ a).setCell ⟨q, 1, none⟩ b).setCell ⟨q, 2, none⟩ c).setCell ⟨q, 3, none⟩ d))) := by
              rintro W q a b c d hq ⟨⟨c0, c1, c2, c3⟩, hb⟩
              have hne : bb ≠ q := by have : bb < wr.heap.size := hbb; omega
              have e : ((((W.setCell ⟨q, 0, none⟩ a).setCell ⟨q, 1, none⟩ b).setCell ⟨q, 2, none⟩ c).setCell ⟨q, 3, none⟩ d).heap[bb]? = W.heap[bb]? := by
                rw [Below.heap_setCell _ _ _ _ hne, Below.heap_setCell _ _ _ _ hne, Below.heap_setCell _ _ _ _ hne, Below.heap_setCell _ _ _ _ hne]
              exact ⟨⟨(World.cell?_of_block (w := W) e).trans c0, (World.cell?_of_block (w := W) e).trans c1, (World.cell?_of_block (w := W) e).trans c2, (World.cell?_of_block (w := W) e).trans c3⟩, (((hb.setCell (p := ⟨q, 0, none⟩) hq a).setCell (p := ⟨q, 1, none⟩) hq b).setCell (p := ⟨q, 2, none⟩) hq c).setCell (p := ⟨q, 3, none⟩) hq d⟩
            have hneq : ∀ w, (binOp .neq 38 (.agg #[.int .u64 (x1 : Int), .int .u64 (f1 : Int), .int .i64 p1, .bool u1]) (.agg #[.int .u64 (x1 : Int), .int .u64 (f1 : Int), .int .i64 p1, .bool u1])).run Tryz.prog w = .ok (.bool false) w := by
              intro w
              simp [go_sem]
            have hbb2 : Hid (bb < wr.heap.size) := hbb
            have hm1 : ¬ bb = wr.heap.size := fun e => by have : bb < wr.heap.size := hbb; omega
            have hm2 : ¬ wr.heap.size = bb := fun e => hm1 e.symm
            clear hW2 hwr hS2 hbb
            clear hx h4' h5' hsz
            go_wp2_with fail
            go_region_held3 (fun w' => ((w'.cell? ⟨bb, oo + i * 4, none⟩ = some (.int .u64 (x1 : Int)) ∧ w'.cell? ⟨bb, oo + i * 4 + 1, none⟩ = some (.int .u64 (f1 : Int)) ∧ w'.cell? ⟨bb, oo + i * 4 + 2, none⟩ = some (.int .i64 p1) ∧ w'.cell? ⟨bb, oo + i * 4 + 3, none⟩ = some (.bool u1)) ∧ Below wr.heap.size wr w'))
              (with_reducible (first | exact S0.out | exact sdr.out _ S0.out | exact sal.out _ _ S0.out | exact sdr.out _ (sal.out _ _ S0.out) | exact sal.out _ _ (sdr.out _ S0.out) | exact hS7 | exact sal.out _ _ hS7 | exact hS8 | exact sal.out _ _ hS8 | exact sset.out _ _ _ _ _ _ hq8 hS8))
              (first
                | (go_at_call 30; (with_reducible (refine at_adrew ?_)); refine (hS3.out _ (sdr.out _ (sal.out _ _ S0.out))).mono ?_; rintro e w7 ⟨rfl, bk7, hS7⟩; have kB7 := W_hid (Blk.keep (Blk.new wr 38 noMap rfl) (Own.bundrew bk7)); have kB7c := kB7.out; have s0 := kB7c.cell (j := 0) rfl; have s1 := kB7c.cell (j := 1) rfl; have s2 := kB7c.cell (j := 2) rfl; have s3 := kB7c.cell (j := 3) rfl; have sf := kB7c.fz; clear kB7c bk7)
                | (go_at_call 30; refine (hS3.out _ (sdr.out _ S0.out)).mono ?_; rintro e w7 ⟨rfl, bk7, hS7⟩; clear bk7)
                | (go_at_call 29; (with_reducible (refine at_alloc ?_)); refine (hW3.out _ (sal.out _ _ hS7)).mono ?_; rintro e w8 ⟨rfl, bk8, hS8⟩; have kB8 := W_hid (Blk.keep (Blk.new w7 38 noMap rfl) bk8); have hq8 : wr.heap.size ≤ w7.heap.size := hS7.2.size; have hn1 : ¬ bb = w7.heap.size := (fun e => by have := hbb2.out; omega); have hn2 : ¬ w7.heap.size = bb := (fun e => hn1 e.symm); have kB8c := kB8.out; have s0 := kB8c.cell (j := 0) rfl; have s1 := kB8c.cell (j := 1) rfl; have s2 := kB8c.cell (j := 2) rfl; have s3 := kB8c.cell (j := 3) rfl; have sf := kB8c.fz; clear kB8c bk8)
                | (go_at_call 29; refine (hW3.out _ hS7).mono ?_; rintro e w8 ⟨rfl, bk8, hS8⟩; try (have kB8 := W_hid (Blk.keep kB7.out bk8); have hq8 : wr.heap.size ≤ wr.heap.size := Nat.le_refl _; have kB8c := kB8.out; have s0 := kB8c.cell (j := 0) rfl; have s1 := kB8c.cell (j := 1) rfl; have s2 := kB8c.cell (j := 2) rfl; have s3 := kB8c.cell (j := 3) rfl; have sf := kB8c.fz; clear kB8c)))
            · have hBf : Blk (w8.alloc (.cells #[.int .u64 (x1 : Int), .int .u64 (f1 : Int), .int .i64 p1, .bool u1] 38)) w8.heap.size 38 [.int .u64 (x1 : Int), .int .u64 (f1 : Int), .int .i64 p1, .bool u1] := Blk.new w8 _ [.int .u64 (x1 : Int), .int .u64 (f1 : Int), .int .i64 p1, .bool u1] rfl
              have hSf := sal.out w8 (.cells #[.int .u64 (x1 : Int), .int .u64 (f1 : Int), .int .i64 p1, .bool u1] 38) hS8
              obtain ⟨Wf, hWf⟩ : ∃ W, w8.alloc (.cells #[.int .u64 (x1 : Int), .int .u64 (f1 : Int), .int .i64 p1, .bool u1] 38) = W := ⟨_, rfl⟩
              rw [hWf] at hBf hSf ⊢
              clear hWf
              have r0 := hBf.cell (j := 0) rfl
              have r1 := hBf.cell (j := 1) rfl
              have r2 := hBf.cell (j := 2) rfl
              have r3 := hBf.cell (j := 3) rfl
              obtain ⟨⟨z0, z1, z2, z3⟩, hbF⟩ := hSf
              replace hbF := W_hid hbF
              clear hBf hS7 hS8 k0 k1 k2 k3 S0 sdr sal sset hW3 hS3 hck hm1 hm2
              go_wp2_with fail
              go_quiet (fail)
              go_wp2_with fail
              go_roundw
              case rel => exact ⟨i + 1, by omega, by go_num, W_hid (hF6.out.keep (below_drewN hbF.out _)), W_hid (Own.below hv6.out (below_drewN hbF.out _)), W_hid (hB6.out.trans ((below_drewN hbF.out _).mono hB6.out.size))⟩
              case measure => first | (simp [intOf]; omega) | simp [intOf]
            · have hBf : Blk ((((w8.setCell ⟨w7.heap.size, 0, none⟩ (.int .u64 (x1 : Int))).setCell ⟨w7.heap.size, 1, none⟩ (.int .u64 (f1 : Int))).setCell ⟨w7.heap.size, 2, none⟩ (.int .i64 p1)).setCell ⟨w7.heap.size, 3, none⟩ (.bool u1)) w7.heap.size 38 [.int .u64 (x1 : Int), .int .u64 (f1 : Int), .int .i64 p1, .bool u1] := (((kB8.out.set 0 _).set 1 _).set 2 _).set 3 _
              have hSf := sset.out w8 w7.heap.size (.int .u64 (x1 : Int)) (.int .u64 (f1 : Int)) (.int .i64 p1) (.bool u1) hq8 hS8
              obtain ⟨Wf, hWf⟩ : ∃ W, ((((w8.setCell ⟨w7.heap.size, 0, none⟩ (.int .u64 (x1 : Int))).setCell ⟨w7.heap.size, 1, none⟩ (.int .u64 (f1 : Int))).setCell ⟨w7.heap.size, 2, none⟩ (.int .i64 p1)).setCell ⟨w7.heap.size, 3, none⟩ (.bool u1)) = W := ⟨_, rfl⟩
              rw [hWf] at hBf hSf ⊢
              clear hWf kB8
              have r0 := hBf.cell (j := 0) rfl
              have r1 := hBf.cell (j := 1) rfl
              have r2 := hBf.cell (j := 2) rfl
              have r3 := hBf.cell (j := 3) rfl
              obtain ⟨⟨z0, z1, z2, z3⟩, hbF⟩ := hSf
              replace hbF := W_hid hbF
              clear hBf hS7 hS8 k0 k1 k2 k3 S0 sdr sal sset hW3 hS3 hck hm1 hm2
              go_wp2_with fail
              go_quiet (fail)
              go_wp2_with fail
              go_roundw
              case rel => exact ⟨i + 1, by omega, by go_num, W_hid (hF6.out.keep (below_drewN hbF.out _)), W_hid (Own.below hv6.out (below_drewN hbF.out _)), W_hid (hB6.out.trans ((below_drewN hbF.out _).mono hB6.out.size))⟩
              case measure => first | (simp [intOf]; omega) | simp [intOf]
            · have hBf : Blk ((((w8.setCell ⟨wr.heap.size, 0, none⟩ (.int .u64 (x1 : Int))).setCell ⟨wr.heap.size, 1, none⟩ (.int .u64 (f1 : Int))).setCell ⟨wr.heap.size, 2, none⟩ (.int .i64 p1)).setCell ⟨wr.heap.size, 3, none⟩ (.bool u1)) wr.heap.size 38 [.int .u64 (x1 : Int), .int .u64 (f1 : Int), .int .i64 p1, .bool u1] := (((kB8.out.set 0 _).set 1 _).set 2 _).set 3 _
              have hSf := sset.out w8 wr.heap.size (.int .u64 (x1 : Int)) (.int .u64 (f1 : Int)) (.int .i64 p1) (.bool u1) hq8 hS8
              obtain ⟨Wf, hWf⟩ : ∃ W, ((((w8.setCell ⟨wr.heap.size, 0, none⟩ (.int .u64 (x1 : Int))).setCell ⟨wr.heap.size, 1, none⟩ (.int .u64 (f1 : Int))).setCell ⟨wr.heap.size, 2, none⟩ (.int .i64 p1)).setCell ⟨wr.heap.size, 3, none⟩ (.bool u1)) = W := ⟨_, rfl⟩
              rw [hWf] at hBf hSf ⊢
              clear hWf kB8 kB7
              have r0 := hBf.cell (j := 0) rfl
              have r1 := hBf.cell (j := 1) rfl
              have r2 := hBf.cell (j := 2) rfl
              have r3 := hBf.cell (j := 3) rfl
              obtain ⟨⟨z0, z1, z2, z3⟩, hbF⟩ := hSf
              replace hbF := W_hid hbF
              clear hBf hS7 hS8 k0 k1 k2 k3 S0 sdr sal sset hW3 hS3 hck hm1 hm2
              go_wp2_with fail
              go_quiet (fail)
              go_wp2_with fail
              go_roundw
              case rel => exact ⟨i + 1, by omega, by go_num, W_hid (hF6.out.keep (below_drewN hbF.out _)), W_hid (Own.below hv6.out (below_drewN hbF.out _)), W_hid (hB6.out.trans ((below_drewN hbF.out _).mono hB6.out.size))⟩
              case measure => first | (simp [intOf]; omega) | simp [intOf]
          · obtain rfl : i = N := by omega
            have hB6' := hB6.out
            by_cases hva2 : va < 140737488355328
            · have hok : walkOk va 0 = true := by
                unfold walkOk
                rw [decide_eq_true hva2]
                decide
              have hW := hwk.out va wr hF6.out hva2
              have hY := fun w h => hwy.out va w h hok
              rcases hcs.out with ⟨c1, c2, c3⟩ | ⟨q, f, p, hu, hq, hf, hd0, c1, c2, c3, c4⟩
              · rw [c1, c2] at hW
                rw [c3] at hY
                have hW2 : Hid (Calls Tryz.prog 29 #[.pointer (some ⟨g, 0, none⟩), .int .u64 (va : Int)] wr fun e w' => e = .returned (.tuple #[.agg #[.int .u64 0, .int .u64 0, .int .i64 0, .bool false], .bool false]) ∧ Below wr.heap.size wr w') := hW
                replace hY := W_hid hY
                replace hB6' := W_hid hB6'
                obtain ⟨VA, hVA⟩ : ∃ x : Int, x = (va : Int) := ⟨_, rfl⟩
                have hV0 : 0 ≤ VA ∧ VA < 140737488355328 := by omega
                rw [← hVA] at hW2 hY ⊢
                replace hVA := W_hid hVA
                obtain ⟨A, hA⟩ : ∃ A : Nat, walkA G va 0 = A := ⟨_, rfl⟩
                rw [hA] at hY
                clear hW hA c1 c2 c3 hcs hwy hwk hlast hSz hI hv6 hB6 hok hva2 hva
                go_wp2_with fail
                refine hW2.out.mono ?_
                rintro e w7 ⟨rfl, bel7⟩
                have hF7 := W_hid ((hF6.out.keep bel7).keep (Below.alloc (Below.refl _ _) (Nat.le_refl _) (.cells #[.int .u64 0, .int .u64 0, .int .i64 0, .bool false] 38)))
                have hb7 := W_hid ((hB6'.out.trans (bel7.mono hB6'.out.size)).alloc (hB6'.out.trans (bel7.mono hB6'.out.size)).size (.cells #[.int .u64 0, .int .u64 0, .int .i64 0, .bool false] 38))
                clear bel7 hF6 hB6' hW2
                go_wp2_with fail
                refine (hY.out _ hF7.out).mono ?_
                rintro e w8 ⟨rfl, bel8⟩
                have hb8 := W_hid (hb7.out.trans (bel8.mono hb7.out.size))
                clear bel8 hb7 hF7 hY
                go_wp2_with fail
                go_ret
                exact ⟨rfl, hb8.out⟩
              · rw [c1, c2] at hW
                rw [c3, c4] at hY
                obtain ⟨d, hd⟩ : ∃ d, va - q = d := ⟨_, rfl⟩
                have hdi : (va : Int) - (q : Int) = (d : Int) := by omega
                rw [hd] at hY hd0
                rw [show ((4096 * f + d : Nat) : Int) = 4096 * (f : Int) + (d : Int) by omega] at hY
                have hW2 : Hid (Calls Tryz.prog 29 #[.pointer (some ⟨g, 0, none⟩), .int .u64 (va : Int)] wr fun e w' => e = .returned (.tuple #[.agg #[.int .u64 (q : Int), .int .u64 (f : Int), .int .i64 p, .bool hu], .bool true]) ∧ Below wr.heap.size wr w') := hW
                replace hY := W_hid hY
                replace hB6' := W_hid hB6'
                replace hd := W_hid hd
                obtain ⟨VA, hVA⟩ : ∃ x : Int, x = (va : Int) := ⟨_, rfl⟩
                have hV0 : 0 ≤ VA ∧ VA < 140737488355328 := by omega
                rw [← hVA] at hW2 hY hdi ⊢
                replace hVA := W_hid hVA
                clear hW c1 c2 c3 c4 hcs hwy hwk hlast hSz hI hv6 hB6 hok hva2 hva hq
                go_wp2_with fail
                refine hW2.out.mono ?_
                rintro e w7 ⟨rfl, bel7⟩
                have hF7 := W_hid ((hF6.out.keep bel7).keep (Below.alloc (Below.refl _ _) (Nat.le_refl _) (.cells #[.int .u64 (q : Int), .int .u64 (f : Int), .int .i64 p, .bool hu] 38)))
                have hb7 := W_hid ((hB6'.out.trans (bel7.mono hB6'.out.size)).alloc (hB6'.out.trans (bel7.mono hB6'.out.size)).size (.cells #[.int .u64 (q : Int), .int .u64 (f : Int), .int .i64 p, .bool hu] 38))
                have hBm := W_hid (Blk.new w7 38 [.int .u64 (q : Int), .int .u64 (f : Int), .int .i64 p, .bool hu] rfl)
                clear bel7 hF6 hB6' hW2
                go_wp2_with fail
                refine (hY.out _ hF7.out).mono ?_
                rintro e w8 ⟨rfl, bel8⟩
                have hb8 := W_hid (hb7.out.trans (bel8.mono hb7.out.size))
                have hBm8 := hBm.out.keep bel8
                have m0 := hBm8.cell (j := 0) rfl
                have m1 := hBm8.cell (j := 1) rfl
                clear bel8 hb7 hF7 hY hBm hBm8
                go_wp2_with fail
                go_ret
                exact ⟨rfl, hb8.out⟩
            · have hge : (140737488355328 : Int) ≤ (va : Int) := by omega
              replace hB6' := W_hid hB6'
              clear hcs hwy hwk hlast hSz hI hv6 hB6 hF6
              go_wp2_with fail
              go_ret
              exact ⟨rfl, hB6'.out⟩

end Go.Proofs.YthdohimjcjkneaaGreatDoor

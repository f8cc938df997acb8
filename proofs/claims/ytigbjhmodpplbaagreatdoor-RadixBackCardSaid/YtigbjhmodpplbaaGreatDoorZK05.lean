/- The law RadixBack of layer 8 (package haywardlaw08): for every input it returns true, and its arguments read as before. What the row lists of package variables is tied to the program's text by the card; no further condition. -/
import Derived.Test.YtigbjhmodpplbaaGreatDoorZH04
import Derived.Test.YtigbjhmodpplbaaGreatDoorZK04
import Derived.Lib.SmallJoins
import Derived.Deep.CutRange
import Derived.Deep.CutBlock
import Derived.OrdersHeld

namespace Go.Proofs.YtigbjhmodpplbaaGreatDoor
open Go.ChangeShapes Go.WideShapes Go.ChangeAt Go.RowKit
set_option linter.unusedVariables false
set_option linter.unusedSimpArgs false

def MFit (a b c : Int) : Prop := 0 ≤ a ∧ a < 18446744073709551616 ∧ 0 ≤ b ∧ b < 18446744073709551616 ∧ -9223372036854775808 ≤ c ∧ c ≤ 9223372036854775807
set_option maxRecDepth 100000 in
/-- A page that came in. -/
theorem open_mapping {H : Type} {enc : TypeId × Value → H} {W : World} {r : Reach} {b0 : Nat} {v : Value} {d : DataW H} {p : List MemPlace} (hv : Value.okWide Tryz.prog W r b0 38 v)
    (h : DataW.Trod enc Tryz.prog W 0 (fun _ => true) true 38 v d p) :
    ∃ (a b c : Int) (d : Bool), v = .agg #[.int .u64 a, .int .u64 b, .int .i64 c, .bool d] ∧ MFit a b c := by
  obtain ⟨v0, v1, v2, v3, y0, y1, y2, y3, m, rfl, -, -, h0, h1, h2, h3⟩ := Joins.open_agg4 Tryz.underlying38 (by kernel_rfl) (by kernel_rfl) hv h
  obtain ⟨a, e0, -, b0⟩ := DataW.trod_int Tryz.underlying23 h0
  obtain ⟨b, e1, -, b1⟩ := DataW.trod_int Tryz.underlying23 h1
  obtain ⟨c, e2, -, b2⟩ := DataW.trod_int Tryz.underlying3 h2
  obtain ⟨d, e3, -⟩ := DataW.trod_bool Tryz.underlying4 h3
  obtain rfl : v0 = .int .u64 a := by simpa using e0
  obtain rfl : v1 = .int .u64 b := by simpa using e1
  obtain rfl : v2 = .int .i64 c := by simpa using e2
  obtain rfl : v3 = .bool d := by simpa using e3
  have c0 := bounds_u64 b0
  have c1 := bounds_u64 b1
  have c2 := bounds_i64 b2
  exact ⟨a, b, c, d, rfl, by unfold MFit; omega⟩


theorem mapR_cases {F F' : RX.Tabs} {G G' : RX.Pags} {T T' : Nat → Bool} {n va l f : Nat} {p c : Int} (h : MapR F G T n va l f p c F' G' T') : c = 0 ∨ (c ≠ 0 ∧ F' = F ∧ G' = G ∧ T' = T) := by
  cases h with
  | busy L fr hd hp => exact .inr ⟨by decide, rfl, rfl, rfl⟩
  | full L fr hd hp fs hl ht hn => exact .inr ⟨by decide, rfl, rfl, rfl⟩
  | done L fr hd hp fs hl ht => exact .inl rfl
/-- Map, whatever its argument. -/
theorem Map_all (g pg pb n m r b va f : Nat) (h : Bool) (p : Int) (T : Nat → Bool) (M : Nat → Option (Nat → Nat)) (F : RX.Tabs) (G : RX.Pags) (w : World) (hF : Full w g pg pb n m T r b M F G) (hf : f < 18446744073709551616) (hva : va < 18446744073709551616) :
    ∃ (c : Int) (T1 : Nat → Bool) (F1 : RX.Tabs) (G1 : RX.Pags),
      Calls Tryz.prog 22 #[.pointer (some ⟨g, 0, none⟩), .agg #[.int .u64 (va : Int), .int .u64 (f : Int), .int .i64 p, .bool h]] w (fun e w' => e = .returned (.int .i64 c) ∧ (∃ M', Full w' g pg pb n m T1 r b M' F1 G1) ∧ But [pg, pb, b] w w') ∧
      ((c ≠ 0 ∧ T1 = T ∧ F1 = F ∧ G1 = G) ∨ (c = 0 ∧ MapR F G T n va (lv h) f p 0 F1 G1 T1 ∧ va % EN.sz (lv h - 1) = 0 ∧ va < 140737488355328)) := by
  have hlv := lv_le h
  by_cases hok : EN.right false h p f (lv h : Nat) ∧ va % EN.sz (lv h - 1) = 0 ∧ va < 140737488355328
  · obtain ⟨hr, hs, hv⟩ := hok
    obtain ⟨c, F1, G1, T1, hR⟩ := mapR_some hF.inv T va (lv h) f p hv (by omega) (by omega)
    refine ⟨c, T1, F1, G1, Map_yes g pg pb n m r b va f h p c T T1 M F F1 G G1 w hF hv hr hs hR, ?_⟩
    rcases mapR_cases hR with rfl | ⟨h1, h2, h3, h4⟩
    · exact .inr ⟨rfl, hR, hs, hv⟩
    · exact .inl ⟨h1, h4, h2, h3⟩
  · refine ⟨2, T, F, G, (Map_arg g pg r b va f h p M w hF.tt.tm hf hva hok).mono ?_, .inl ⟨by decide, rfl, rfl, rfl⟩⟩
    rintro e w' ⟨he, hb⟩
    exact ⟨he, ⟨M, hF.keep hb⟩, But.of hb⟩
theorem nums_eq {M M' : Nat → Option (Nat → Nat)} {F : RX.Tabs} {G : RX.Pags} {l l' : List Nat} (R : RX.Rep M F G) (R' : RX.Rep M' F G) (h : Nums M l) (h' : Nums M' l') (hp : l.Pairwise (· ≤ ·)) (hp' : l'.Pairwise (· ≤ ·)) : l = l' := by
  have strict : ∀ {l : List Nat}, l.Nodup → l.Pairwise (· ≤ ·) → l.Pairwise (· < ·) := fun {l} hn hp => List.pairwise_iff_getElem.2 fun i j hi hj hij => by
    have h3 := List.pairwise_iff_getElem.1 hp i j hi hj hij
    have h4 := List.pairwise_iff_getElem.1 hn i j hi hj hij
    omega
  have dom : ∀ {M : Nat → Option (Nat → Nat)}, RX.Rep M F G → ∀ f, M f ≠ none ↔ ∃ k j, F k j = some f := fun {M} R f => by
    constructor
    · intro hf
      by_cases e : ∃ k j, F k j = some f
      · exact e
      · exact absurd (R.no (fun k j hk => e ⟨k, j, hk⟩)) hf
    · rintro ⟨k, j, hk⟩
      obtain ⟨ws, hw, -⟩ := R.yes hk
      rw [hw]; simp
  exact up_eq (strict h.1 hp) (strict h'.1 hp') fun f => by rw [h.2 f, h'.2 f, dom R f, dom R' f]
theorem psz_lv (h : Bool) : RX.psz h = EN.sz (lv h - 1) := by cases h <;> rfl

set_option maxRecDepth 100000 in
set_option maxHeartbeats 40000000 in
theorem RadixBack_walk (a0 : Int) (o1 : Option Addr) (n1 c1 : Nat) (l1 : List OpT) (a2 b2 c2 : Int) (d2 : Bool) (w : World) (hk : KT w) (w0 : (Lit.int .i64 a0).wf = true) (w1 : OS8 w o1 n1 c1 l1) (w2 : MFit a2 b2 c2) :
    Calls Tryz.prog 4 #[.int .i64 a0, .slice o1 n1 c1, .agg #[.int .u64 a2, .int .u64 b2, .int .i64 c2, .bool d2]] w fun e w' => e = .returned (.bool true) ∧ Below w.heap.size w w' := by
  unfold MFit at w2
  obtain ⟨va2, rfl⟩ : ∃ x : Nat, a2 = x := ⟨a2.toNat, by omega⟩
  obtain ⟨f2, rfl⟩ : ∃ x : Nat, b2 = x := ⟨b2.toNat, by omega⟩
  have hva2 : va2 < 18446744073709551616 := by omega
  have hf2 : f2 < 18446744073709551616 := by omega
  obtain ⟨wA, hwA⟩ : ∃ x, w.alloc (.cells #[.int .u64 (va2 : Int), .int .u64 (f2 : Int), .int .i64 c2, .bool d2] 38) = x := ⟨_, rfl⟩
  have hbA : Below w.heap.size w wA := by rw [← hwA]; exact (Below.refl _ _).alloc (Nat.le_refl _) _
  have hXA : Blk wA w.heap.size 38 [.int .u64 (va2 : Int), .int .u64 (f2 : Int), .int .i64 c2, .bool d2] := by rw [← hwA]; exact Blk.new w _ [.int .u64 (va2 : Int), .int .u64 (f2 : Int), .int .i64 c2, .bool d2] rfl
  obtain ⟨hlen, hll, hops0⟩ := w1
  have hlen2 : (n1 : Int) ≤ 9223372036854775807 := by unfold maxLen at hlen; omega
  have hops : Hid (∀ j (hj : j < l1.length), ∃ blk off, o1 = some ⟨blk, off, none⟩ ∧ blk < wA.heap.size ∧ wA.cell? ⟨blk, off + j * 5, none⟩ = some (.int .i64 l1[j].1) ∧
    wA.cell? ⟨blk, off + j * 5 + 1, none⟩ = some (.int .u64 (l1[j].2.1 : Int)) ∧ wA.cell? ⟨blk, off + j * 5 + 2, none⟩ = some (.int .u64 (l1[j].2.2.1 : Int)) ∧ wA.cell? ⟨blk, off + j * 5 + 3, none⟩ = some (.int .i64 l1[j].2.2.2.1) ∧ wA.cell? ⟨blk, off + j * 5 + 4, none⟩ = some (.bool l1[j].2.2.2.2) ∧ OpFit l1[j]) := W_hid (fun j hj => by
    obtain ⟨blk, off, h0, h1, h2, h3, h4, h5, h6, h7⟩ := hops0 j hj
    have kk : ∀ {a : Nat} {u : Value}, w.cell? ⟨blk, a, none⟩ = some u → wA.cell? ⟨blk, a, none⟩ = some u := fun {a u} hc => by rw [hbA.cell (p := ⟨blk, a, none⟩) h1]; exact hc
    exact ⟨blk, off, h0, Nat.lt_of_lt_of_le h1 hbA.size, kk h2, kk h3, kk h4, kk h5, kk h6, h7⟩)
  have hS := W_hid (shown_any wA (hk.keep hbA))
  replace hll := W_hid hll
  have hk := W_hid (hk.keep hbA)
  have hwl : Hid (w.heap.size < wA.heap.size) := W_hid hXA.lt
  replace hbA := W_hid hbA
  replace hXA := W_hid hXA
  clear hlen w0 hops0
  go_enter Tryz.func4, Tryz.ntmps4
  go_wp2_with fail
  replace hwA := W_hid hwA
  refine hS.out.mono ?_
  rintro e w1 ⟨rfl, bel1⟩
  replace bel1 := W_hid bel1
  clear hS
  by_cases hlo : a0 < 1
  · go_wp2_with fail
    go_ret
    exact ⟨rfl, hbA.out.trans (bel1.out.mono (Nat.le_of_lt hwl.out))⟩
  · by_cases hhi : 2000 < a0
    · go_wp2_with fail
      go_ret
      exact ⟨rfl, hbA.out.trans (bel1.out.mono (Nat.le_of_lt hwl.out))⟩
    · obtain ⟨n, rfl⟩ : ∃ n : Nat, a0 = n := ⟨a0.toNat, by omega⟩
      have hn1 : 1 ≤ n := by omega
      have hn2 : n ≤ 2000 := by omega
      have hO := W_hid (fun w hk => opened_any n hn1 (by omega) w hk)
      have hN := W_hid (rNew_yes n hn1 (by omega))
      have hT := W_hid (fun pg pb w h => rNew_tree pg pb n 0 (fresh n) w h (by omega) (low_fresh n hn1))
      go_wp2_with fail
      refine (hO.out w1 (hk.out.keep bel1.out)).mono ?_
      rintro e w2 ⟨g, pg, pb, b, M, rfl, hg, hpg, hpb, hb, hF, bel2⟩
      have hs1 := bel1.out.size
      have hs2 := bel2.size
      replace bel2 := W_hid (bel1.out.trans (bel2.mono bel1.out.size))
      replace hF := W_hid hF
      clear bel1 hO
      go_wp2_with fail
      refine (hN.out w2).mono ?_
      rintro e w3 ⟨rfl, hrl, bel3⟩
      replace hT := W_hid (hT.out _ _ w3 hrl)
      have hs3 := bel3.size
      replace bel3 := W_hid bel3
      clear hrl hN
      go_wp2_with fail
      refine hT.out.mono ?_
      rintro e w4 ⟨g2, tv, D0, rfl, hdm, hbut, hD0⟩
      have b34 := bel3.out.trans (hbut.below (B := w2.heap.size) (by simp) hs3)
      obtain ⟨D, hD, hds⟩ := ds_new (n := n) hn1 hF.out hdm b34 (fun x hx => by rcases hD0 x hx with e | e | e <;> omega)
      have hDw : Hid (∀ x ∈ D, wA.heap.size ≤ x) := W_hid (fun x hx => by have := hD x hx; omega)
      have hB4 := W_hid (bel2.out.trans (b34.mono (by omega)))
      obtain ⟨pg2, hpg2⟩ : ∃ x, x = w2.heap.size + 1 := ⟨_, rfl⟩
      obtain ⟨pb2, hpb2⟩ : ∃ x, x = w2.heap.size := ⟨_, rfl⟩
      rw [← hpg2, ← hpb2] at hds
      replace hds := W_hid hds
      replace hpg2 := W_hid hpg2
      have hgs : Hid (wA.heap.size ≤ g ∧ wA.heap.size ≤ pg ∧ wA.heap.size ≤ pb ∧ wA.heap.size ≤ b) := W_hid (by omega)
      clear hT b34 hbut hdm hD0 hD hpb2 hF bel2 bel3 hg hpg hpb hb hs1 hs2 hs3
      go_upto_block 0 with fail
      go_cut [15] from 48 to 113 (fun _ wx => ∃ (D : List Nat) (T : Nat → Bool) (F : RX.Tabs) (G : RX.Pags) (K : Nat), K ≤ 60 ∧ Hid (DS wx g pg pb n (words n) 0 b D g2 pg2 pb2 T T F F G G K) ∧ Hid (∀ x ∈ D, wA.heap.size ≤ x) ∧ Hid (Below wA.heap.size wA wx))
      case first =>
        go_wp2_with fail
        go_loopw [15] (fun i wr => ∃ (j : Nat) (D : List Nat) (T : Nat → Bool) (F : RX.Tabs) (G : RX.Pags), j ≤ n1 ∧ j ≤ 60 ∧ i = .int .i64 (j : Int) ∧ Hid (DS wr g pg pb n (words n) 0 b D g2 pg2 pb2 T T F F G G j) ∧ Hid (∀ x ∈ D, wA.heap.size ≤ x) ∧ Hid (Below wA.heap.size wA wr)) (fun i _ => n1 - (intOf i).toNat)
        case atStart => exact ⟨0, D, _, _, _, by omega, by omega, rfl, hds, hDw, hB4⟩
        case round =>
          clear hds hDw hB4
          obtain ⟨j, D, T, F, G, hj, hj2, rfl, hds, hDw, hbel⟩ := hrel
          by_cases hlt : j < n1 ∧ j < 60
          · obtain ⟨hl1, hl2⟩ := hlt
            obtain ⟨blk, off, rfl, hblk, hc0, hc1, hc2, hc3, hc4, hz1, hz2, hz3, hz4, hz5, hz6⟩ := hops.out j (by rw [hll.out]; exact hl1)
            obtain ⟨⟨kd, x, f, p, u⟩, hx⟩ : ∃ x, l1[j]'(by rw [hll.out]; exact hl1) = x := ⟨_, rfl⟩
            rw [hx] at hc0 hc1 hc2 hc3 hc4 hz1 hz2 hz3 hz4 hz5 hz6
            simp only at hc0 hc1 hc2 hc3 hc4 hz1 hz2 hz3 hz4 hz5 hz6
            have k0 : wr.cell? ⟨blk, off + j * 5, none⟩ = some (.int .i64 kd) := by rw [hbel.out.cell (p := ⟨blk, off + j * 5, none⟩) hblk]; exact hc0
            have k1 : wr.cell? ⟨blk, off + j * 5 + 1, none⟩ = some (.int .u64 x) := by rw [hbel.out.cell (p := ⟨blk, off + j * 5 + 1, none⟩) hblk]; exact hc1
            have k2 : wr.cell? ⟨blk, off + j * 5 + 2, none⟩ = some (.int .u64 f) := by rw [hbel.out.cell (p := ⟨blk, off + j * 5 + 2, none⟩) hblk]; exact hc2
            have k3 : wr.cell? ⟨blk, off + j * 5 + 3, none⟩ = some (.int .i64 p) := by rw [hbel.out.cell (p := ⟨blk, off + j * 5 + 3, none⟩) hblk]; exact hc3
            have k4 : wr.cell? ⟨blk, off + j * 5 + 4, none⟩ = some (.bool u) := by rw [hbel.out.cell (p := ⟨blk, off + j * 5 + 4, none⟩) hblk]; exact hc4
            have hdo := W_hid (does_any g pg pb n (words n) 0 b D g2 pg2 pb2 T F G j wr hds.out kd x f p u ⟨hz1, hz2⟩ hz3 hz4 hz5 hz6 (by omega))
            clear hx hc0 hc1 hc2 hc3 hc4 hz1 hz2 hz3 hz4 hz5 hz6
            go_wp2_with fail
            refine hdo.out.mono ?_
            rintro e w5 ⟨rfl, D', T', F', G', hd5, hb5, hD5⟩
            have hbl5 := W_hid (hbel.out.trans (hb5.below (B := wA.heap.size) (fun y hy => by
              rcases List.mem_append.1 hy with h | h
              · have := hgs.out; simp at h; omega
              · exact hDw.out y h) hbel.out.size))
            have hDw5 : Hid (∀ x ∈ D', wA.heap.size ≤ x) := W_hid (fun y hy => by
              rcases hD5 y hy with h | h
              · exact hDw.out y h
              · have := hbel.out.size; omega)
            replace hd5 := W_hid hd5
            clear hb5 hD5 hdo
            go_wp2_with fail
            go_roundw
            case rel => exact ⟨j + 1, D', T', F', G', by omega, by omega, by go_num, hd5, hDw5, hbl5⟩
            case measure => simp [intOf]; omega
          · have hex : (¬ j < n1) ∨ (j < n1 ∧ ¬ j < 60) := by omega
            rcases hex with h1 | ⟨h1, h2⟩
            all_goals
              go_wp2_with fail
              go_meet
              exact ⟨D, T, F, G, j, hj2, hds, hDw, hbel⟩
      case rest =>
      clear hds hDw hB4
      obtain ⟨D, T, F, G, K, hK, hds, hDw, hbel⟩ := hcut
      obtain ⟨M1, hF1⟩ := hds.out.full
      have hgood := W_hid hds.out.good
      obtain ⟨lv0, tv0, L, Tl, hDM, hPB, hTB, hLl, hTl⟩ := hds.out.doc
      have hLu := hPB.und hF1.inv
      have hPlen : Hid ((RX.und F G 4 0).length ≤ 60) := W_hid (by rw [← hLu]; omega)
      have hL1 := Left_any pg pb n (words n) T wc hF1.tt.pl
      obtain ⟨lf, hlf⟩ : ∃ lf, n - FR.cnt T 0 n = lf := ⟨_, rfl⟩
      rw [hlf] at hL1
      replace hlf := W_hid hlf
      replace hL1 := W_hid hL1
      have hPg := W_hid (Pages_any g pg 0 b n M1 F G hF1.inv hF1.rep wc hF1.tt.tm)
      have hTab := W_hid (fun w (h : Below wc.heap.size wc w) => Tables_all g pg 0 b M1 w (hF1.keep h).tt.tm (fun ss hs => by have := nums_len hF1.inv hF1.rep hF1.tk hs; omega) (root_some hF1.inv hF1.rep))
      have hlen3 := W_hid (fun l (h1 : Nums M1 l) => nums_len hF1.inv hF1.rep hF1.tk h1)
      have hXc : Hid (Blk wc w.heap.size 38 [.int .u64 (va2 : Int), .int .u64 (f2 : Int), .int .i64 c2, .bool d2]) := W_hid (hXA.out.below hbel.out hwl.out)
      have hwcs := hbel.out.size
      replace hF1 := W_hid hF1
      clear hds hops hll hDM hPB hTB hLu hDw
      go_wp2_with fail
      refine hL1.out.mono ?_
      rintro e w3 ⟨rfl, rfl⟩
      go_wp2_with fail
      refine hPg.out.mono ?_
      rintro e w4 ⟨v4, rfl, ho4, b4⟩
      have hTab4 := W_hid (hTab.out w4 b4)
      have B4 := W_hid b4
      have O4 := W_hid ho4
      clear hL1 hPg hTab b4 ho4
      go_wp2_with fail
      refine hTab4.out.mono ?_
      rintro e w5 ⟨v5, l5, rfl, hN5, hp5, hl5, b5⟩
      have O5 := W_hid (Own.below O4.out b5)
      have B5 := W_hid (B4.out.trans (b5.mono B4.out.size))
      have hll5 := hlen3.out l5 hN5
      have hF5 := W_hid (hF1.out.keep B5.out)
      have hX5 := hXc.out.keep B5.out
      have x0 := hX5.cell (j := 0) rfl
      have x1 := hX5.cell (j := 1) rfl
      have x2 := hX5.cell (j := 2) rfl
      have x3 := hX5.cell (j := 3) rfl
      obtain ⟨cM, T1, F1, G1, hM, hMR⟩ := Map_all g pg pb n (words n) 0 b va2 f2 d2 c2 T M1 F G w5 hF5.out hf2 hva2
      have hs45 := b5.size
      have hl5' := W_hid hl5
      obtain ⟨xa5, ca5, re5, rfl, hxa1, hxa2, hxa3⟩ := hl5.ex
      obtain ⟨ao4, co4, rfl⟩ := Own.form O5.out
      have hX5 := W_hid hX5
      replace hM := W_hid hM
      replace hMR := W_hid hMR
      replace hN5 := W_hid hN5
      replace hp5 := W_hid hp5
      replace hxa3 := W_hid hxa3
      clear hl5 b5 hTab4 hlen3
      go_wp2_with fail
      refine hM.out.mono ?_
      rintro e w6 ⟨rfl, ⟨M6, hF6⟩, bt6⟩
      have hF6 := W_hid hF6
      have bt6 := W_hid bt6
      have hX6 := hX5.out.but bt6.out (by have := hgs.out; have := hwl.out; simp; omega)
      have y0 := hX6.cell (j := 0) rfl
      have y1 := hX6.cell (j := 1) rfl
      have y2 := hX6.cell (j := 2) rfl
      have y3 := hX6.cell (j := 3) rfl
      have hX6 := W_hid hX6
      clear hM x0 x1 x2 x3
      obtain ⟨wo, rfl⟩ : ∃ wo, wo = wc := ⟨wc, rfl⟩
      go_upto_if 75 with fail
      go_cut [20, 21] from 76 to 113 (fun _ _ wx => ∃ (M7 : Nat → Option (Nat → Nat)) (T7 : Nat → Bool), Hid (Full wx g pg pb n (words n) T7 0 b M7 F G) ∧ Hid (∀ f, f < n → T7 f = T f) ∧ Hid (But [pg, pb, b] w5 wx))
      case first =>
        by_cases hc0 : cM = 0
        · subst hc0
          obtain ⟨hMap0, hal, hvl⟩ : MapR F G T n va2 (lv d2) f2 c2 0 F1 G1 T1 ∧ va2 % EN.sz (lv d2 - 1) = 0 ∧ va2 < 140737488355328 := by
            rcases hMR.out with h | ⟨-, h⟩
            · exact absurd rfl h.1
            · exact h
          have hMap := W_hid hMap0
          have hlv1 := lv_le d2
          have hI := W_hid hF5.out.inv
          have hTk := W_hid hF5.out.tk
          have hI1 := W_hid hF6.out.inv
          have hG1 := W_hid (good_mapR hI.out hgood.out (by omega) hMap0)
          obtain ⟨sz, hsz⟩ : ∃ sz, RX.psz d2 = sz := ⟨_, rfl⟩
          have hsz2 : EN.sz (lv d2 - 1) = sz := by rw [← psz_lv]; exact hsz
          have hszc : (sz = 4096 ∨ sz = 2097152) := by rw [← hsz]; cases d2 <;> simp [RX.psz]
          obtain ⟨vu, hvu⟩ : ∃ vu, va2 + EN.sz (lv d2 - 1) - 1 = vu := ⟨_, rfl⟩
          have hvl2 : va2 + sz ≤ 140737488355328 := by rw [hsz2] at hal; rcases hszc with e | e <;> subst e <;> omega
          have hvu2 : va2 + sz - 1 = vu := by rw [← hvu, hsz2]
          obtain ⟨cc, ml, F2, G2, T2, hUn0⟩ := unmapR_some hF6.out.inv T1 vu (by omega)
          have hUn1 := hUn0
          rw [← hvu] at hUn1
          have hUn := W_hid hUn1
          have hG2 := W_hid (good_unmapR hI1.out hG1.out hUn0)
          have cUn := W_hid (fun W (h : Full W g pg pb n (words n) T1 0 b M6 F1 G1) => Unmap_yes g pg pb n (words n) 0 b vu cc ml T1 T2 M6 F1 F2 G1 G2 W h (by omega) hUn0)
          have cSz := W_hid (fun W => rSize_any (va2 : Int) (f2 : Int) c2 d2 W)
          rw [hsz] at cSz
          have hw1 : IntKind.u64.wrap ((va2 : Int) + (sz : Int)) = (va2 : Int) + (sz : Int) := IntWalk.u64_in _ (by omega)
          have hw2 : IntKind.u64.wrap ((va2 : Int) + (sz : Int) - 1) = (vu : Int) := by rw [IntWalk.u64_in _ (by omega)]; omega
          have hxn : Hid (w.heap.size ∉ [pg, pb, b]) := W_hid (by have := hgs.out; have := hwl.out; simp; omega)
          have hXw := W_hid (show Blk w6.drew w.heap.size 38 [.int .u64 (va2 : Int), .int .u64 (f2 : Int), .int .i64 c2, .bool d2] from hX6.out)
          have hFw := W_hid (show Full w6.drew g pg pb n (words n) T1 0 b M6 F1 G1 from hF6.out.drewN 1)
          have hBw := W_hid (show But [pg, pb, b] w5 w6.drew from bt6.out.drew 1)
          replace hsz := W_hid hsz
          replace hsz2 := W_hid hsz2
          replace hvu := W_hid hvu
          replace hvu2 := W_hid hvu2
          replace hvl2 := W_hid hvl2
          clear hMap0 hUn0 hUn1 hszc y0 y1 y2 y3 hMR
          go_wp2_with fail
          refine wp_region_held_drew (S := (fun w' => Blk w' w.heap.size 38 [.int .u64 (va2 : Int), .int .u64 (f2 : Int), .int .i64 c2, .bool d2])) (by kernel_rfl) hXw.out (fun hHeld => ?_)
          refine wpAnyH_take (i := 0) (v := .pointer (some ⟨g, 0, none⟩)) rfl (by kernel_rfl) (by kernel_rfl) (by kernel_rfl) (fun _ _ _ h => h) (Or.inl ⟨by rfl, fun w0 s1 => ?_⟩) hHeld ?_
          · go_simp
          try simp only [Act.put, List.setIfInBounds_toArray, List.set_cons_zero, List.set_cons_succ, List.getElem_toArray, List.getElem_cons_zero, List.getElem_cons_succ]
          refine wpAnyH_take (i := 1) (v := .pointer (some ⟨w.heap.size, 0, none⟩)) rfl (by kernel_rfl) (by kernel_rfl) (by kernel_rfl) (fun _ _ _ h => h) (Or.inl ⟨by rfl, fun w0 s1 => ?_⟩) hHeld ?_
          · go_simp
          try simp only [Act.put, List.setIfInBounds_toArray, List.set_cons_zero, List.set_cons_succ, List.getElem_toArray, List.getElem_cons_zero, List.getElem_cons_succ]
          refine wpAnyH_take (i := 2) (v := .int .u64 (va2 : Int)) rfl (by kernel_rfl) (by kernel_rfl) (by kernel_rfl) (fun _ _ _ h => h) (Or.inl ⟨by rfl, fun w0 s1 => ?_⟩) hHeld ?_
          · (have q := Blk.cell (j := 0) s1 rfl; go_simp)
          try simp only [Act.put, List.setIfInBounds_toArray, List.set_cons_zero, List.set_cons_succ, List.getElem_toArray, List.getElem_cons_zero, List.getElem_cons_succ]
          refine wpAnyH_take (i := 3) (v := .agg #[.int .u64 (va2 : Int), .int .u64 (f2 : Int), .int .i64 c2, .bool d2]) rfl (by kernel_rfl) (by kernel_rfl) (by kernel_rfl) (fun _ _ _ h => h) (Or.inl ⟨by rfl, fun w0 s1 => ?_⟩) hHeld ?_
          · (have q0 := Blk.cell (j := 0) s1 rfl; have q1 := Blk.cell (j := 1) s1 rfl; have q2 := Blk.cell (j := 2) s1 rfl; have q3 := Blk.cell (j := 3) s1 rfl; go_simp)
          try simp only [Act.put, List.setIfInBounds_toArray, List.set_cons_zero, List.set_cons_succ, List.getElem_toArray, List.getElem_cons_zero, List.getElem_cons_succ]
          refine wpAnyH_ready (rs := [4, 11]) (by kernel_rfl) (by simp) ?_
          refine AllReadyH.cons rfl (fun K hK => ?_) (AllReadyH.cons rfl (fun K hK => ?_) AllReadyH.nil)
          · go_simp
            refine (cSz.out _).mono ?_
            rintro e w7 ⟨rfl, b7⟩
            have hF7 := W_hid (Full.keep hFw.out b7)
            have hX7 := W_hid (Blk.keep hXw.out b7)
            have hB7 := W_hid (But.keep hBw.out b7)
            refine hK.out _ _ hX7.out (fun hHeld1 => ?_)
            clear hK K
            try simp only [Act.put, List.setIfInBounds_toArray, List.set_cons_zero, List.set_cons_succ, List.getElem_toArray, List.getElem_cons_zero, List.getElem_cons_succ]
            refine wpAnyH_take (i := 5) (v := .int .u64 ((va2 : Int) + (sz : Int))) rfl (by kernel_rfl) (by kernel_rfl) (by kernel_rfl) (fun _ _ _ h => h) (Or.inl ⟨by rfl, fun w0 s1 => ?_⟩) hHeld1 ?_
            · go_simp
            try simp only [Act.put, List.setIfInBounds_toArray, List.set_cons_zero, List.set_cons_succ, List.getElem_toArray, List.getElem_cons_zero, List.getElem_cons_succ]
            refine wpAnyH_take (i := 6) (v := .int .u64 (vu : Int)) rfl (by kernel_rfl) (by kernel_rfl) (by kernel_rfl) (fun _ _ _ h => h) (Or.inl ⟨by rfl, fun w0 s1 => ?_⟩) hHeld1 ?_
            · go_simp
            try simp only [Act.put, List.setIfInBounds_toArray, List.set_cons_zero, List.set_cons_succ, List.getElem_toArray, List.getElem_cons_zero, List.getElem_cons_succ]
            refine wpAnyH_ready (rs := [7, 11]) (by kernel_rfl) (by simp) ?_
            refine AllReadyH.cons rfl (fun K hK => ?_) (AllReadyH.cons rfl (fun K hK => ?_) AllReadyH.nil)
            · go_simp
              refine (cUn.out _ hF7.out).mono ?_
              rintro e w8 ⟨rfl, ⟨M8, hF8⟩, b8⟩
              obtain ⟨rfl, rfl, rfl, rfl, hTT⟩ := map_back hI.out hgood.out hTk.out hlv1 hMap.out hal hI1.out hG1.out hUn.out hF8.inv hG2.out hF8.tk
              rw [lv_dec]
              unfold mapL
              have hTT := W_hid hTT
              have hX8 := W_hid (hX7.out.but b8 hxn.out)
              have hB8 := W_hid (hB7.out.trans b8)
              have hF8 := W_hid hF8
              refine hK.out _ _ hX8.out (fun hHeld2 => ?_)
              clear hK K
              try simp only [Act.put, List.setIfInBounds_toArray, List.set_cons_zero, List.set_cons_succ, List.getElem_toArray, List.getElem_cons_zero, List.getElem_cons_succ]
              refine wpAnyH_take (i := 8) (v := .tuple #[.agg #[.int .u64 (va2 : Int), .int .u64 (f2 : Int), .int .i64 c2, .bool d2], .int .i64 0]) rfl (by kernel_rfl) (by kernel_rfl) (by kernel_rfl) (fun _ _ _ h => h) (Or.inl ⟨by rfl, fun w0 s1 => ?_⟩) hHeld2 ?_
              · go_simp
              try simp only [Act.put, List.setIfInBounds_toArray, List.set_cons_zero, List.set_cons_succ, List.getElem_toArray, List.getElem_cons_zero, List.getElem_cons_succ]
              refine wpAnyH_take (i := 9) (v := .agg #[.int .u64 (va2 : Int), .int .u64 (f2 : Int), .int .i64 c2, .bool d2]) rfl (by kernel_rfl) (by kernel_rfl) (by kernel_rfl) (fun _ _ _ h => h) (Or.inl ⟨by rfl, fun w0 s1 => ?_⟩) hHeld2 ?_
              · go_simp
              try simp only [Act.put, List.setIfInBounds_toArray, List.set_cons_zero, List.set_cons_succ, List.getElem_toArray, List.getElem_cons_zero, List.getElem_cons_succ]
              refine wpAnyH_take (i := 10) (v := .int .i64 0) rfl (by kernel_rfl) (by kernel_rfl) (by kernel_rfl) (fun _ _ _ h => h) (Or.inl ⟨by rfl, fun w0 s1 => ?_⟩) hHeld2 ?_
              · go_simp
              try simp only [Act.put, List.setIfInBounds_toArray, List.set_cons_zero, List.set_cons_succ, List.getElem_toArray, List.getElem_cons_zero, List.getElem_cons_succ]
              refine wpAnyH_ready (rs := [11]) (by kernel_rfl) (by simp) ?_
              refine AllReadyH.cons rfl (fun K hK => ?_) AllReadyH.nil
              go_simp
              refine hK.out _ _ (hX8.out.alloc _) (fun hHeld9 => ?_)
              clear hK K
              try simp only [Act.put, List.setIfInBounds_toArray, List.set_cons_zero, List.set_cons_succ, List.getElem_toArray, List.getElem_cons_zero, List.getElem_cons_succ]
              have xn0 := (Blk.new w8 38 [.int .u64 0, .int .u64 0, .int .i64 0, .bool false] rfl).fz
              have xn1 := (Blk.new w8 38 [.int .u64 0, .int .u64 0, .int .i64 0, .bool false] rfl).cell (j := 0) rfl
              have xn2 := (Blk.new w8 38 [.int .u64 0, .int .u64 0, .int .i64 0, .bool false] rfl).cell (j := 1) rfl
              have xn3 := (Blk.new w8 38 [.int .u64 0, .int .u64 0, .int .i64 0, .bool false] rfl).cell (j := 2) rfl
              have xn4 := (Blk.new w8 38 [.int .u64 0, .int .u64 0, .int .i64 0, .bool false] rfl).cell (j := 3) rfl
              refine wpAnyH_ready (rs := [12]) (by kernel_rfl) (by simp) ?_
              refine AllReadyH.cons rfl (fun K hK => ?_) AllReadyH.nil
              go_simp
              refine hK.out _ _ (hX8.out.alloc _) (fun hHeld10 => ?_)
              clear hK K
              try simp only [Act.put, List.setIfInBounds_toArray, List.set_cons_zero, List.set_cons_succ, List.getElem_toArray, List.getElem_cons_zero, List.getElem_cons_succ]
              refine wpAnyH_take (i := 13) (v := .int .i64 0) rfl (by kernel_rfl) (by kernel_rfl) (by kernel_rfl) (fun _ _ _ h => h) (Or.inl ⟨by rfl, fun w0 s1 => ?_⟩) hHeld10 ?_
              · go_simp
              try simp only [Act.put, List.setIfInBounds_toArray, List.set_cons_zero, List.set_cons_succ, List.getElem_toArray, List.getElem_cons_zero, List.getElem_cons_succ]
              have hXf := W_hid (hX8.out.alloc (.cells #[.int .u64 (va2 : Int), .int .u64 (f2 : Int), .int .i64 c2, .bool d2] 38))
              have hBf := W_hid (Blk.new w8 38 [.int .u64 (va2 : Int), .int .u64 (f2 : Int), .int .i64 c2, .bool d2] rfl)
              have hFf := W_hid (hF8.out.keep ((Below.refl w8.heap.size w8).alloc (Nat.le_refl _) (.cells #[.int .u64 (va2 : Int), .int .u64 (f2 : Int), .int .i64 c2, .bool d2] 38)))
              have hbf := W_hid (hB8.out.alloc (.cells #[.int .u64 (va2 : Int), .int .u64 (f2 : Int), .int .i64 c2, .bool d2] 38))
              refine wpAnyH_done (by kernel_rfl) ?_ _
              have xm0 := hXf.out.cell (j := 0) rfl
              have xm1 := hXf.out.cell (j := 1) rfl
              have xm2 := hXf.out.cell (j := 2) rfl
              have xm3 := hXf.out.cell (j := 3) rfl
              have xb0 := hBf.out.cell (j := 0) rfl
              have xb1 := hBf.out.cell (j := 1) rfl
              have xb2 := hBf.out.cell (j := 2) rfl
              have xb3 := hBf.out.cell (j := 3) rfl
              have hq := map_neq va2 f2 c2 d2
              go_wp2_with fail
              go_meet
              exact ⟨M8, _, hFf, hTT, hbf⟩
            · have hN := W_hid (Blk.new w7 38 [.int .u64 0, .int .u64 0, .int .i64 0, .bool false] rfl)
              have hal2 := (Below.refl w7.heap.size w7).alloc (Nat.le_refl _) (.cells #[.int .u64 0, .int .u64 0, .int .i64 0, .bool false] 38)
              have hlts := hF7.out.lts
              have hxl := hX5.out.lt
              have hszz := hB7.out.size
              have hxo : Hid (w7.heap.size ≠ g ∧ w7.heap.size ≠ pg ∧ w7.heap.size ≠ pb ∧ w7.heap.size ≠ b ∧ w7.heap.size ≠ 0) := W_hid (by omega)
              have hxx : Hid (w.heap.size ≠ w7.heap.size) := W_hid (by omega)
              have hxg : Hid (w5.heap.size ≤ w7.heap.size) := W_hid (by omega)
              have hnn : Hid (w7.heap.size ∉ [pg, pb, b]) := W_hid (by have := hxo.out; simp; omega)
              have hFn := W_hid (hF7.out.keep hal2)
              have hXn := W_hid (hX7.out.keep hal2)
              have hBn := W_hid (hB7.out.keep hal2)
              go_simp
              refine hK.out _ _ hXn.out (fun hHeld2 => ?_)
              clear hK K
              try simp only [Act.put, List.setIfInBounds_toArray, List.set_cons_zero, List.set_cons_succ, List.getElem_toArray, List.getElem_cons_zero, List.getElem_cons_succ]
              refine wpAnyH_ready (rs := [7]) (by kernel_rfl) (by simp) ?_
              refine AllReadyH.cons rfl (fun K hK => ?_) AllReadyH.nil
              go_simp
              refine (cUn.out _ hFn.out).mono ?_
              rintro e w8 ⟨rfl, ⟨M8, hF8⟩, b8⟩
              obtain ⟨rfl, rfl, rfl, rfl, hTT⟩ := map_back hI.out hgood.out hTk.out hlv1 hMap.out hal hI1.out hG1.out hUn.out hF8.inv hG2.out hF8.tk
              rw [lv_dec]
              unfold mapL
              have hTT := W_hid hTT
              have hX8 := W_hid (hXn.out.but b8 hxn.out)
              have hB8 := W_hid (hBn.out.trans b8)
              have hF8 := W_hid hF8
              have hN8 := W_hid (hN.out.but b8 hnn.out)
              refine hK.out _ _ hX8.out (fun hHeld3 => ?_)
              clear hK K
              try simp only [Act.put, List.setIfInBounds_toArray, List.set_cons_zero, List.set_cons_succ, List.getElem_toArray, List.getElem_cons_zero, List.getElem_cons_succ]
              refine wpAnyH_take (i := 8) (v := .tuple #[.agg #[.int .u64 (va2 : Int), .int .u64 (f2 : Int), .int .i64 c2, .bool d2], .int .i64 0]) rfl (by kernel_rfl) (by kernel_rfl) (by kernel_rfl) (fun _ _ _ h => h) (Or.inl ⟨by rfl, fun w0 s1 => ?_⟩) hHeld3 ?_
              · go_simp
              try simp only [Act.put, List.setIfInBounds_toArray, List.set_cons_zero, List.set_cons_succ, List.getElem_toArray, List.getElem_cons_zero, List.getElem_cons_succ]
              refine wpAnyH_take (i := 9) (v := .agg #[.int .u64 (va2 : Int), .int .u64 (f2 : Int), .int .i64 c2, .bool d2]) rfl (by kernel_rfl) (by kernel_rfl) (by kernel_rfl) (fun _ _ _ h => h) (Or.inl ⟨by rfl, fun w0 s1 => ?_⟩) hHeld3 ?_
              · go_simp
              try simp only [Act.put, List.setIfInBounds_toArray, List.set_cons_zero, List.set_cons_succ, List.getElem_toArray, List.getElem_cons_zero, List.getElem_cons_succ]
              refine wpAnyH_take (i := 10) (v := .int .i64 0) rfl (by kernel_rfl) (by kernel_rfl) (by kernel_rfl) (fun _ _ _ h => h) (Or.inl ⟨by rfl, fun w0 s1 => ?_⟩) hHeld3 ?_
              · go_simp
              try simp only [Act.put, List.setIfInBounds_toArray, List.set_cons_zero, List.set_cons_succ, List.getElem_toArray, List.getElem_cons_zero, List.getElem_cons_succ]
              have xn0 := hN8.out.fz
              have xn1 := hN8.out.cell (j := 0) rfl
              have xn2 := hN8.out.cell (j := 1) rfl
              have xn3 := hN8.out.cell (j := 2) rfl
              have xn4 := hN8.out.cell (j := 3) rfl
              have hXf : Hid (Blk ((((w8.setCell ⟨w7.heap.size, 0, none⟩ (.int .u64 (va2 : Int))).setCell ⟨w7.heap.size, 1, none⟩ (.int .u64 (f2 : Int))).setCell ⟨w7.heap.size, 2, none⟩ (.int .i64 c2)).setCell ⟨w7.heap.size, 3, none⟩ (.bool d2)) w.heap.size 38 [.int .u64 (va2 : Int), .int .u64 (f2 : Int), .int .i64 c2, .bool d2]) := W_hid ((((hX8.out.far (p := ⟨w7.heap.size, 0, none⟩) hxx.out _).far (p := ⟨w7.heap.size, 1, none⟩) hxx.out _).far (p := ⟨w7.heap.size, 2, none⟩) hxx.out _).far (p := ⟨w7.heap.size, 3, none⟩) hxx.out _)
              refine wpAnyH_ready (rs := [12]) (by kernel_rfl) (by simp) ?_
              refine AllReadyH.cons rfl (fun K hK => ?_) AllReadyH.nil
              go_simp
              refine hK.out _ _ hXf.out (fun hHeld10 => ?_)
              clear hK K
              try simp only [Act.put, List.setIfInBounds_toArray, List.set_cons_zero, List.set_cons_succ, List.getElem_toArray, List.getElem_cons_zero, List.getElem_cons_succ]
              refine wpAnyH_take (i := 13) (v := .int .i64 0) rfl (by kernel_rfl) (by kernel_rfl) (by kernel_rfl) (fun _ _ _ h => h) (Or.inl ⟨by rfl, fun w0 s1 => ?_⟩) hHeld10 ?_
              · go_simp
              try simp only [Act.put, List.setIfInBounds_toArray, List.set_cons_zero, List.set_cons_succ, List.getElem_toArray, List.getElem_cons_zero, List.getElem_cons_succ]
              have hBf : Hid (Blk ((((w8.setCell ⟨w7.heap.size, 0, none⟩ (.int .u64 (va2 : Int))).setCell ⟨w7.heap.size, 1, none⟩ (.int .u64 (f2 : Int))).setCell ⟨w7.heap.size, 2, none⟩ (.int .i64 c2)).setCell ⟨w7.heap.size, 3, none⟩ (.bool d2)) w7.heap.size 38 [.int .u64 (va2 : Int), .int .u64 (f2 : Int), .int .i64 c2, .bool d2]) := W_hid ((((hN8.out.set 0 (.int .u64 (va2 : Int))).set 1 (.int .u64 (f2 : Int))).set 2 (.int .i64 c2)).set 3 (.bool d2))
              have hFf : Hid (Full ((((w8.setCell ⟨w7.heap.size, 0, none⟩ (.int .u64 (va2 : Int))).setCell ⟨w7.heap.size, 1, none⟩ (.int .u64 (f2 : Int))).setCell ⟨w7.heap.size, 2, none⟩ (.int .i64 c2)).setCell ⟨w7.heap.size, 3, none⟩ (.bool d2)) g pg pb n (words n) _ 0 b M8 _ _) := W_hid (hF8.out.aside (x := w7.heap.size) (((((Two.refl _ _ w8).setCell (p := ⟨w7.heap.size, 0, none⟩) (.inl rfl) _).setCell (p := ⟨w7.heap.size, 1, none⟩) (.inl rfl) _).setCell (p := ⟨w7.heap.size, 2, none⟩) (.inl rfl) _).setCell (p := ⟨w7.heap.size, 3, none⟩) (.inl rfl) _) hxo.out)
              have hbf : Hid (But [pg, pb, b] w5 ((((w8.setCell ⟨w7.heap.size, 0, none⟩ (.int .u64 (va2 : Int))).setCell ⟨w7.heap.size, 1, none⟩ (.int .u64 (f2 : Int))).setCell ⟨w7.heap.size, 2, none⟩ (.int .i64 c2)).setCell ⟨w7.heap.size, 3, none⟩ (.bool d2))) := W_hid ((((hB8.out.set (p := ⟨w7.heap.size, 0, none⟩) (.inr hxg.out) _).set (p := ⟨w7.heap.size, 1, none⟩) (.inr hxg.out) _).set (p := ⟨w7.heap.size, 2, none⟩) (.inr hxg.out) _).set (p := ⟨w7.heap.size, 3, none⟩) (.inr hxg.out) _)
              refine wpAnyH_done (by kernel_rfl) ?_ _
              have xm0 := hXf.out.cell (j := 0) rfl
              have xm1 := hXf.out.cell (j := 1) rfl
              have xm2 := hXf.out.cell (j := 2) rfl
              have xm3 := hXf.out.cell (j := 3) rfl
              have xb0 := hBf.out.cell (j := 0) rfl
              have xb1 := hBf.out.cell (j := 1) rfl
              have xb2 := hBf.out.cell (j := 2) rfl
              have xb3 := hBf.out.cell (j := 3) rfl
              have hq := map_neq va2 f2 c2 d2
              go_wp2_with fail
              go_meet
              exact ⟨M8, _, hFf, hTT, hbf⟩
          · have hN := W_hid (Blk.new w6 38 [.int .u64 0, .int .u64 0, .int .i64 0, .bool false] rfl)
            have hal2 := (Below.refl w6.heap.size w6).alloc (Nat.le_refl _) (.cells #[.int .u64 0, .int .u64 0, .int .i64 0, .bool false] 38)
            have hlts := hF6.out.lts
            have hxl := hX5.out.lt
            have hszz := bt6.out.size
            have hxo : Hid (w6.heap.size ≠ g ∧ w6.heap.size ≠ pg ∧ w6.heap.size ≠ pb ∧ w6.heap.size ≠ b ∧ w6.heap.size ≠ 0) := W_hid (by omega)
            have hxx : Hid (w.heap.size ≠ w6.heap.size) := W_hid (by omega)
            have hxg : Hid (w5.heap.size ≤ w6.heap.size) := W_hid (by omega)
            have hnn : Hid (w6.heap.size ∉ [pg, pb, b]) := W_hid (by have := hxo.out; simp; omega)
            have hal3 : Below w6.drew.heap.size w6.drew (w6.drew.alloc (.cells #[.int .u64 0, .int .u64 0, .int .i64 0, .bool false] 38)) := (Below.refl w6.drew.heap.size w6.drew).alloc (Nat.le_refl _) _
            have hFn := W_hid (hFw.out.keep hal3)
            have hXn := W_hid (hXw.out.keep hal3)
            have hBn := W_hid (hBw.out.keep hal3)
            go_simp
            refine hK.out _ _ hXn.out (fun hHeld1 => ?_)
            clear hK K
            try simp only [Act.put, List.setIfInBounds_toArray, List.set_cons_zero, List.set_cons_succ, List.getElem_toArray, List.getElem_cons_zero, List.getElem_cons_succ]
            refine wpAnyH_ready (rs := [4]) (by kernel_rfl) (by simp) ?_
            refine AllReadyH.cons rfl (fun K hK => ?_) AllReadyH.nil
            go_simp
            refine (cSz.out _).mono ?_
            rintro e w7 ⟨rfl, b7⟩
            have hF7 := W_hid (Full.keep hFn.out b7)
            have hX7 := W_hid (Blk.keep hXn.out b7)
            have hB7 := W_hid (But.keep hBn.out b7)
            have hN7 := W_hid (Blk.keep (w := w6.drew.alloc (.cells #[.int .u64 0, .int .u64 0, .int .i64 0, .bool false] 38)) hN.out b7)
            refine hK.out _ _ hX7.out (fun hHeld2 => ?_)
            clear hK K
            try simp only [Act.put, List.setIfInBounds_toArray, List.set_cons_zero, List.set_cons_succ, List.getElem_toArray, List.getElem_cons_zero, List.getElem_cons_succ]
            refine wpAnyH_take (i := 5) (v := .int .u64 ((va2 : Int) + (sz : Int))) rfl (by kernel_rfl) (by kernel_rfl) (by kernel_rfl) (fun _ _ _ h => h) (Or.inl ⟨by rfl, fun w0 s1 => ?_⟩) hHeld2 ?_
            · go_simp
            try simp only [Act.put, List.setIfInBounds_toArray, List.set_cons_zero, List.set_cons_succ, List.getElem_toArray, List.getElem_cons_zero, List.getElem_cons_succ]
            refine wpAnyH_take (i := 6) (v := .int .u64 (vu : Int)) rfl (by kernel_rfl) (by kernel_rfl) (by kernel_rfl) (fun _ _ _ h => h) (Or.inl ⟨by rfl, fun w0 s1 => ?_⟩) hHeld2 ?_
            · go_simp
            try simp only [Act.put, List.setIfInBounds_toArray, List.set_cons_zero, List.set_cons_succ, List.getElem_toArray, List.getElem_cons_zero, List.getElem_cons_succ]
            refine wpAnyH_ready (rs := [7]) (by kernel_rfl) (by simp) ?_
            refine AllReadyH.cons rfl (fun K hK => ?_) AllReadyH.nil
            go_simp
            refine (cUn.out _ hF7.out).mono ?_
            rintro e w8 ⟨rfl, ⟨M8, hF8⟩, b8⟩
            obtain ⟨rfl, rfl, rfl, rfl, hTT⟩ := map_back hI.out hgood.out hTk.out hlv1 hMap.out hal hI1.out hG1.out hUn.out hF8.inv hG2.out hF8.tk
            rw [lv_dec]
            unfold mapL
            have hTT := W_hid hTT
            have hX8 := W_hid (hX7.out.but b8 hxn.out)
            have hB8 := W_hid (hB7.out.trans b8)
            have hF8 := W_hid hF8
            have hN8 := W_hid (hN7.out.but b8 hnn.out)
            refine hK.out _ _ hX8.out (fun hHeld3 => ?_)
            clear hK K
            try simp only [Act.put, List.setIfInBounds_toArray, List.set_cons_zero, List.set_cons_succ, List.getElem_toArray, List.getElem_cons_zero, List.getElem_cons_succ]
            refine wpAnyH_take (i := 8) (v := .tuple #[.agg #[.int .u64 (va2 : Int), .int .u64 (f2 : Int), .int .i64 c2, .bool d2], .int .i64 0]) rfl (by kernel_rfl) (by kernel_rfl) (by kernel_rfl) (fun _ _ _ h => h) (Or.inl ⟨by rfl, fun w0 s1 => ?_⟩) hHeld3 ?_
            · go_simp
            try simp only [Act.put, List.setIfInBounds_toArray, List.set_cons_zero, List.set_cons_succ, List.getElem_toArray, List.getElem_cons_zero, List.getElem_cons_succ]
            refine wpAnyH_take (i := 9) (v := .agg #[.int .u64 (va2 : Int), .int .u64 (f2 : Int), .int .i64 c2, .bool d2]) rfl (by kernel_rfl) (by kernel_rfl) (by kernel_rfl) (fun _ _ _ h => h) (Or.inl ⟨by rfl, fun w0 s1 => ?_⟩) hHeld3 ?_
            · go_simp
            try simp only [Act.put, List.setIfInBounds_toArray, List.set_cons_zero, List.set_cons_succ, List.getElem_toArray, List.getElem_cons_zero, List.getElem_cons_succ]
            refine wpAnyH_take (i := 10) (v := .int .i64 0) rfl (by kernel_rfl) (by kernel_rfl) (by kernel_rfl) (fun _ _ _ h => h) (Or.inl ⟨by rfl, fun w0 s1 => ?_⟩) hHeld3 ?_
            · go_simp
            try simp only [Act.put, List.setIfInBounds_toArray, List.set_cons_zero, List.set_cons_succ, List.getElem_toArray, List.getElem_cons_zero, List.getElem_cons_succ]
            have xn0 := hN8.out.fz
            have xn1 := hN8.out.cell (j := 0) rfl
            have xn2 := hN8.out.cell (j := 1) rfl
            have xn3 := hN8.out.cell (j := 2) rfl
            have xn4 := hN8.out.cell (j := 3) rfl
            have hXf : Hid (Blk ((((w8.setCell ⟨w6.heap.size, 0, none⟩ (.int .u64 (va2 : Int))).setCell ⟨w6.heap.size, 1, none⟩ (.int .u64 (f2 : Int))).setCell ⟨w6.heap.size, 2, none⟩ (.int .i64 c2)).setCell ⟨w6.heap.size, 3, none⟩ (.bool d2)) w.heap.size 38 [.int .u64 (va2 : Int), .int .u64 (f2 : Int), .int .i64 c2, .bool d2]) := W_hid ((((hX8.out.far (p := ⟨w6.heap.size, 0, none⟩) hxx.out _).far (p := ⟨w6.heap.size, 1, none⟩) hxx.out _).far (p := ⟨w6.heap.size, 2, none⟩) hxx.out _).far (p := ⟨w6.heap.size, 3, none⟩) hxx.out _)
            refine wpAnyH_ready (rs := [12]) (by kernel_rfl) (by simp) ?_
            refine AllReadyH.cons rfl (fun K hK => ?_) AllReadyH.nil
            go_simp
            refine hK.out _ _ hXf.out (fun hHeld10 => ?_)
            clear hK K
            try simp only [Act.put, List.setIfInBounds_toArray, List.set_cons_zero, List.set_cons_succ, List.getElem_toArray, List.getElem_cons_zero, List.getElem_cons_succ]
            refine wpAnyH_take (i := 13) (v := .int .i64 0) rfl (by kernel_rfl) (by kernel_rfl) (by kernel_rfl) (fun _ _ _ h => h) (Or.inl ⟨by rfl, fun w0 s1 => ?_⟩) hHeld10 ?_
            · go_simp
            try simp only [Act.put, List.setIfInBounds_toArray, List.set_cons_zero, List.set_cons_succ, List.getElem_toArray, List.getElem_cons_zero, List.getElem_cons_succ]
            have hBf : Hid (Blk ((((w8.setCell ⟨w6.heap.size, 0, none⟩ (.int .u64 (va2 : Int))).setCell ⟨w6.heap.size, 1, none⟩ (.int .u64 (f2 : Int))).setCell ⟨w6.heap.size, 2, none⟩ (.int .i64 c2)).setCell ⟨w6.heap.size, 3, none⟩ (.bool d2)) w6.heap.size 38 [.int .u64 (va2 : Int), .int .u64 (f2 : Int), .int .i64 c2, .bool d2]) := W_hid ((((hN8.out.set 0 (.int .u64 (va2 : Int))).set 1 (.int .u64 (f2 : Int))).set 2 (.int .i64 c2)).set 3 (.bool d2))
            have hFf : Hid (Full ((((w8.setCell ⟨w6.heap.size, 0, none⟩ (.int .u64 (va2 : Int))).setCell ⟨w6.heap.size, 1, none⟩ (.int .u64 (f2 : Int))).setCell ⟨w6.heap.size, 2, none⟩ (.int .i64 c2)).setCell ⟨w6.heap.size, 3, none⟩ (.bool d2)) g pg pb n (words n) _ 0 b M8 _ _) := W_hid (hF8.out.aside (x := w6.heap.size) (((((Two.refl _ _ w8).setCell (p := ⟨w6.heap.size, 0, none⟩) (.inl rfl) _).setCell (p := ⟨w6.heap.size, 1, none⟩) (.inl rfl) _).setCell (p := ⟨w6.heap.size, 2, none⟩) (.inl rfl) _).setCell (p := ⟨w6.heap.size, 3, none⟩) (.inl rfl) _) hxo.out)
            have hbf : Hid (But [pg, pb, b] w5 ((((w8.setCell ⟨w6.heap.size, 0, none⟩ (.int .u64 (va2 : Int))).setCell ⟨w6.heap.size, 1, none⟩ (.int .u64 (f2 : Int))).setCell ⟨w6.heap.size, 2, none⟩ (.int .i64 c2)).setCell ⟨w6.heap.size, 3, none⟩ (.bool d2))) := W_hid ((((hB8.out.set (p := ⟨w6.heap.size, 0, none⟩) (.inr hxg.out) _).set (p := ⟨w6.heap.size, 1, none⟩) (.inr hxg.out) _).set (p := ⟨w6.heap.size, 2, none⟩) (.inr hxg.out) _).set (p := ⟨w6.heap.size, 3, none⟩) (.inr hxg.out) _)
            refine wpAnyH_done (by kernel_rfl) ?_ _
            have xm0 := hXf.out.cell (j := 0) rfl
            have xm1 := hXf.out.cell (j := 1) rfl
            have xm2 := hXf.out.cell (j := 2) rfl
            have xm3 := hXf.out.cell (j := 3) rfl
            have xb0 := hBf.out.cell (j := 0) rfl
            have xb1 := hBf.out.cell (j := 1) rfl
            have xb2 := hBf.out.cell (j := 2) rfl
            have xb3 := hBf.out.cell (j := 3) rfl
            have hq := map_neq va2 f2 c2 d2
            go_wp2_with fail
            go_meet
            exact ⟨M8, _, hFf, hTT, hbf⟩
        · go_wp2_with fail
          go_meet
          obtain ⟨e1, e2, e3, e4⟩ : cM ≠ 0 ∧ T1 = T ∧ F1 = F ∧ G1 = G := by
            rcases hMR.out with h | ⟨h, -⟩
            · exact h
            · exact absurd h hc0
          subst e2; subst e3; subst e4
          exact ⟨M6, T1, hF6, W_hid (fun f hf => rfl), bt6⟩
      case rest =>
      obtain ⟨M7, T7, hF7, hTT, hbt⟩ := hcut
      have hlts := hF1.out.lts
      have hB5s := B5.out.size
      have hB4s := B4.out.size
      have hL7 := Left_any pg pb n (words n) T7 wc hF7.out.tt.pl
      rw [cnt_same n hTT.out, hlf.out] at hL7
      replace hL7 := W_hid hL7
      have hPg := W_hid (Pages_any g pg 0 b n M7 F G hF7.out.inv hF7.out.rep wc hF7.out.tt.tm)
      have hTab := W_hid (fun w (h : Below wc.heap.size wc w) => Tables_all g pg 0 b M7 w (hF7.out.keep h).tt.tm (fun ss hs => by have := nums_len hF7.out.inv hF7.out.rep hF7.out.tk hs; omega) (root_some hF7.out.inv hF7.out.rep))
      have hEq := W_hid (fun l (h1 : Nums M7 l) (h2 : l.Pairwise (· ≤ ·)) => nums_eq hF7.out.rep hF1.out.rep h1 hN5.out h2 hp5.out)
      have hO7 := W_hid (own_but O5.out hbt.out (fun x hx => by have := Own.ge O5.out x hx; simp; omega))
      have hX7 := W_hid (hxa3.out.but hbt.out (by simp; omega))
      have hNC := W_hid (show NC wc (some ⟨xa5, 0, none⟩) l5 from ⟨fun i hi => ⟨xa5, 0, rfl, by
        rw [Nat.zero_add]
        refine hX7.out.cell ?_
        rw [List.getElem?_append_left (by simpa using hi), List.getElem?_map, List.getElem?_eq_getElem hi]
        rfl⟩⟩)
      have hbw : Hid (Below wA.heap.size wA wc) := W_hid ((hbel.out.trans (B5.out.mono hwcs)).trans (hbt.out.below (fun x hx => by have := hgs.out; simp at hx; omega) (by omega)))
      have hPl := hPlen.out
      go_wp2_with fail
      refine hL7.out.mono ?_
      rintro e w8 ⟨rfl, rfl⟩
      go_wp2_with fail
      refine hPg.out.mono ?_
      rintro e w9 ⟨v9, rfl, ho9, b9⟩
      have cSm := W_hid (RadSame_yes v9 _ _ _ (RX.und F G 4 0) w9 (by omega) ho9 (Own.below hO7.out b9))
      obtain ⟨a9, c9, rfl⟩ := Own.form ho9
      have B9 := W_hid b9
      clear hL7 hPg ho9 b9
      go_wp2_with fail
      refine cSm.out.mono ?_
      rintro e w10 ⟨rfl, b10⟩
      have B10 := W_hid (B9.out.trans (b10.mono B9.out.size))
      have hTab10 := W_hid (hTab.out w10 B10.out)
      clear cSm b10
      go_wp2_with fail
      refine hTab10.out.mono ?_
      rintro e w11 ⟨v11, l11, rfl, hN11, hp11, hl11, b11⟩
      obtain rfl := hEq.out l11 hN11 hp11
      have B11 := W_hid (B10.out.trans (b11.mono B10.out.size))
      obtain ⟨xa, ca, re, rfl, hx1, hx2, hx3⟩ := hl11.ex
      have hNC2 : NC w11 (some ⟨xa, 0, none⟩) l11 := ⟨fun i hi => ⟨xa, 0, rfl, by
        rw [Nat.zero_add]
        refine hx3.cell ?_
        rw [List.getElem?_append_left (by simpa using hi), List.getElem?_map, List.getElem?_eq_getElem hi]
        rfl⟩⟩
      have cSF := W_hid (SameFrames_yes (some ⟨xa, 0, none⟩) (some ⟨xa5, 0, none⟩) ca ca5 l11 w11 (by omega) hNC2 (hNC.out.keep B11.out))
      replace hx3 := W_hid hx3
      clear hTab10 hTab hl11 b11 hNC2 hN11 hp11
      go_wp2_with fail
      refine cSF.out.mono ?_
      rintro e w12 ⟨rfl, b12⟩
      have B12 := W_hid (B11.out.trans (b12.mono B11.out.size))
      clear cSF b12
      go_wp2_with fail
      go_ret
      exact ⟨rfl, hbA.out.trans ((hbw.out.trans (B12.out.mono hbw.out.size)).mono (Nat.le_of_lt hwl.out))⟩

set_option maxRecDepth 100000 in
theorem RadixBack_lifted (os : Os) (started : os.Started) (H : Type) (enc : TypeId × Value → H) :
    ReturnsInHanded {} Tryz.checked os 4 .any (fun w args => (Rows.radixBackSpec.pre enc Tryz.prog Tryz.f4 [] false w args ∧ laidMetH Tryz.prog [("hayward/entry.kinds", Rows.laid_hayward_entry_kinds)] w) ∧ sizedMet enc Tryz.prog Tryz.f4 (OpenSpec.ofChange Rows.radixBackSpec) false w args)
      (Rows.radixBackSpec.post enc Tryz.prog Tryz.f4 false true false false) := by
  refine returnsInHanded_of_change_and (C := Tryz.checked) (X := fun w _ => laidMetH Tryz.prog [("hayward/entry.kinds", Rows.laid_hayward_entry_kinds)] w) (fun _ _ _ hh h => h.of_heap hh) (by kernel_rfl) started (by kernel_rfl) Tryz.func4
    (ChangeSpec.witness_shaped (enc := enc) (C := Tryz.checked) (os := os) (X := fun w _ => laidMetH Tryz.prog [("hayward/entry.kinds", Rows.laid_hayward_entry_kinds)] w) false (World.doorLaid Tryz.prog 400 os) #[.int .i64 0, .slice none 0 0, .agg #[.int .u64 0, .int .u64 0, .int .i64 0, .bool false]] 8 rfl (World.shaped_of_RefB (by kernel_rfl) (by kernel_rfl)) (by kernel_rfl) (by kernel_rfl) (by kernel_rfl) (kinds_met os _)) ?_
  intro W base args ds gs before hval0 hW hcnd hsz0 hL _
  have hval : ∀ (j : Nat) t v, Tryz.f4.params[j]? = some t → args[j]? = some v → Value.okWide Tryz.prog W .any base t v := hval0
  have hW' := hW
  obtain ⟨p, q, hA0, hV, rfl, hfz, hnd⟩ := hW
  have hA : DataW.TrodAll enc Tryz.prog W 0 (fun _ => true) true Tryz.f4.params.toList args.toList ds p := hA0
  rw [Tryz.params4] at hA hval
  obtain ⟨v0, vs0, d0, ds0, p0, q0, hargs, rfl, rfl, h0, r0⟩ := trodAll_cons hA
  obtain ⟨v1, vs1, d1, ds1, p1, q1, rfl, rfl, rfl, h1, r1⟩ := trodAll_cons r0
  obtain ⟨v2, vs2, d2, ds2, p2, q2, rfl, rfl, rfl, h2, r2⟩ := trodAll_cons r1
  obtain ⟨rfl, rfl, rfl⟩ := trodAll_nil r2
  obtain rfl : args = #[v0, v1, v2] := by cases args; simp_all
  obtain ⟨rfl, rfl⟩ := trodVars_none hV
  obtain ⟨a0, rfl, rfl, rfl, w0⟩ := open_int Tryz.underlying3 (hval 0 3 v0 rfl rfl) h0
  have k1 := h1
  have lt1 : ∀ x ∈ p1, x.block < W.heap.size := by obtain ⟨m, hm⟩ := k1; exact DataW.trod_lt m _ _ _ hm
  obtain ⟨o1, n1, c1, l1, rfl, w1⟩ := open_ops8 (hval 1 22 v1 rfl rfl) h1
  have k2 := h2
  have lt2 : ∀ x ∈ p2, x.block < W.heap.size := by obtain ⟨m, hm⟩ := k2; exact DataW.trod_lt m _ _ _ hm
  obtain ⟨a2, b2, c2, d2, rfl, w2⟩ := open_mapping (hval 2 38 v2 rfl rfl) h2
  clear hA0 hval0
  refine (RadixBack_walk a0 o1 n1 c1 l1 a2 b2 c2 d2 W (kt_of_laid hL) w0 w1 w2).mono fun e W' ⟨he, bel⟩ => ?_
  subst he
  exact ⟨_, rfl, _, _, _, [], _, [], hW', trodAll_mk1 (shut_bool Tryz.underlying4 _), (trodAll_cons_mk (shut_int Tryz.underlying3 w0) (trodAll_cons_mk (Below.trod laidOut (by kernel_rfl) (of_decide_eq_true (by kernel_rfl)) k1 bel lt1) (trodAll_cons_mk (Below.trod laidOut (by kernel_rfl) (of_decide_eq_true (by kernel_rfl)) k2 bel lt2) trodAll_mk0))), rfl, bel.frame _, fun h => by cases h⟩

/-- The given statement of RadixBack. -/
theorem RadixBack_holds : Rows.RadixBackSaid :=
  OpenClaim.holds_of_wide 4 Tryz.f4 rfl rfl rfl rfl rfl rfl rfl ⟨rfl, rfl, rfl, rfl, rfl⟩ rfl rfl rfl rfl rfl (by kernel_rfl) Tryz.func4 (by kernel_rfl)
    (of_decide_eq_true (by kernel_rfl)) (by unfold Func.isWrapper; first | (rw [if_pos (by decide +kernel)]; kernel_rfl) | (rw [if_neg (by decide +kernel)]; exact ⟨rfl, rfl⟩))
    (fun os started H enc _ => RadixBack_lifted os started H enc)

/-- The given card of RadixBack: the row, with what it lists tied to the text of the program. -/
theorem RadixBack_card_holds : Rows.RadixBackCardSaid :=
  Claim7.holds_tied_plain_at .later [] [.data] true Rows.radixBackCard.stood.harness Rows.radixBackCard.stood.looks
    RadixBack_holds (fun _ h => by cases h) (by kernel_rfl) (fun _ h => by cases h) radixBack_row_tie rfl ⟨rfl, rfl⟩ (by kernel_rfl) rfl
    (fun f fn hf hfn => by
      obtain rfl : f = 4 := Option.some.inj ((show Tryz.prog.funcNamed "hayward/haywardlaw08.RadixBack" = some 4 by kernel_rfl).symm.trans hf) |>.symm
      obtain rfl : fn = Tryz.f4 := (Option.some.inj (Tryz.func4.symm.trans hfn)).symm
      exact ⟨by kernel_rfl, fun j t ht => by
        rw [Tryz.params4] at ht
        have hm : t ∈ [3, 22, 38] := by simpa using Array.mem_of_getElem? ht
        have hall : ([3, 22, 38].all fun u => !Tryz.prog.wantsStandIn u) = true := by kernel_rfl
        exact (show Tryz.prog.wantsStandIn t = false by simpa using List.all_eq_true.1 hall t hm)⟩)
    (by kernel_rfl)

end Go.Proofs.YtigbjhmodpplbaaGreatDoor

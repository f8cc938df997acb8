/- Layer 14: shown, calls that came in, ran. -/
import Derived.Test.YtahcpimpmedbiaaPrcDoes
namespace Go.Proofs.Ytahcpimpmedbiaa
open Go.ChangeShapes Go.WideShapes Go.ChangeAt Go.RowKit Go.Maps
set_option linter.unusedVariables false
set_option linter.unusedSimpArgs false
/-- A call. -/
abbrev OpT14 := Int × Int × Int
/-- What the walk is told of a slice of calls that came in. -/
def OS14 (w : World) (a : Option Addr) (len cap : Nat) (l : List OpT14) : Prop :=
  len ≤ maxLen ∧ l.length = len ∧ ∀ j (hj : j < l.length), ∃ blk off, a = some ⟨blk, off, none⟩ ∧ blk < w.heap.size ∧ w.cell? ⟨blk, off + j * 3, none⟩ = some (.int .i64 l[j].1) ∧ w.cell? ⟨blk, off + j * 3 + 1, none⟩ = some (.int .i64 l[j].2.1) ∧ w.cell? ⟨blk, off + j * 3 + 2, none⟩ = some (.int .i64 l[j].2.2) ∧ -9223372036854775808 ≤ l[j].1 ∧ l[j].1 ≤ 9223372036854775807 ∧ -9223372036854775808 ≤ l[j].2.1 ∧ l[j].2.1 ≤ 9223372036854775807 ∧ -9223372036854775808 ≤ l[j].2.2 ∧ l[j].2.2 ≤ 9223372036854775807

set_option maxRecDepth 100000 in
theorem open_ops14 {H : Type} {enc : TypeId × Value → H} {W : World} {r : Reach} {b0 : Nat} {v : Value} {d : DataW H} {p : List MemPlace} (hv : Value.okWide Try.prog W r b0 22 v)
    (h : DataW.Trod enc Try.prog W 0 (fun _ => true) true 22 v d p) :
    ∃ (ao : Option Addr) (n cap : Nat) (l : List OpT14), v = .slice ao n cap ∧ OS14 W ao n cap l := by
  obtain ⟨a, len, cap, rfl⟩ := okWide_slice Try.underlying22 hv
  obtain ⟨fuel, hf⟩ := h
  rcases Deep.open_slice Try.underlying22 hf with ⟨e1, -⟩ | ⟨x, len', cap', m, n, D, Pl, e1, hb, hl, hm, hmm, -, hx⟩
  · simp [Value.cells] at e1
    obtain ⟨rfl, rfl, rfl⟩ := e1
    exact ⟨none, 0, 0, [], rfl, Nat.zero_le _, rfl, fun j hj => by simp at hj⟩
  · simp [Value.cells] at e1
    obtain ⟨rfl, rfl, rfl⟩ := e1
    have hlm : len ≤ m := by rw [hmm]; split <;> omega
    have each : ∀ i, i < len → ∃ q : OpT14, W.cell? (x.add (i * 3)) = some (.int .i64 q.1) ∧ W.cell? (x.add (i * 3 + 1)) = some (.int .i64 q.2.1) ∧ W.cell? (x.add (i * 3 + 2)) = some (.int .i64 q.2.2) ∧ -9223372036854775808 ≤ q.1 ∧ q.1 ≤ 9223372036854775807 ∧ -9223372036854775808 ≤ q.2.1 ∧ q.2.1 ≤ 9223372036854775807 ∧ -9223372036854775808 ≤ q.2.2 ∧ q.2.2 ≤ 9223372036854775807 := by
      intro i hi
      obtain ⟨cs', h1, h2⟩ := hx i (by omega)
      rw [show Try.prog.cellsOf 33 = 3 from by kernel_rfl] at h1
      obtain ⟨_, hlen, hcell⟩ := World.cells?_some h1
      obtain ⟨xs, k, hk, hxy, _, hxl, hff⟩ := DataW.trod_struct Try.underlying33 h2
      match xs, hxl, cs', hlen with
      | [y0, y1, y2], _, [v0, v1, v2], _ =>
        have g0 := hff 0 _ rfl
        have g1 := hff 1 _ rfl
        have g2 := hff 2 _ rfl
        have t0 : Try.prog.cellsOf 3 = 1 := by kernel_rfl
        simp [t0] at g0 g1 g2
        have e0 := hcell 0 (by omega)
        have e1 := hcell 1 (by omega)
        have e2 := hcell 2 (by omega)
        rw [Deep.add_add] at e0 e1 e2
        obtain ⟨z0, q0, -, b0⟩ := DataW.trod_int Try.underlying3 g0
        have b0' := bounds_i64 b0
        obtain ⟨z1, q1, -, b1⟩ := DataW.trod_int Try.underlying3 g1
        have b1' := bounds_i64 b1
        obtain ⟨z2, q2, -, b2⟩ := DataW.trod_int Try.underlying3 g2
        have b2' := bounds_i64 b2
        simp at q0 q1 q2
        subst q0 q1 q2
        exact ⟨(z0, z1, z2), by simpa using e0, by simpa using e1, by simpa using e2, b0'.1, b0'.2, b1'.1, b1'.2, b2'.1, b2'.2⟩
    have key : ∀ k, k ≤ len → ∃ l : List OpT14, l.length = k ∧ ∀ j (hj : j < l.length), W.cell? (x.add (j * 3)) = some (.int .i64 l[j].1) ∧ W.cell? (x.add (j * 3 + 1)) = some (.int .i64 l[j].2.1) ∧ W.cell? (x.add (j * 3 + 2)) = some (.int .i64 l[j].2.2) ∧ -9223372036854775808 ≤ l[j].1 ∧ l[j].1 ≤ 9223372036854775807 ∧ -9223372036854775808 ≤ l[j].2.1 ∧ l[j].2.1 ≤ 9223372036854775807 ∧ -9223372036854775808 ≤ l[j].2.2 ∧ l[j].2.2 ≤ 9223372036854775807 := by
      intro k
      induction k with
      | zero => exact fun _ => ⟨[], rfl, fun j hj => by simp at hj⟩
      | succ k ih =>
        intro hk
        obtain ⟨l, h1, h2⟩ := ih (by omega)
        obtain ⟨q, hq⟩ := each k (by omega)
        refine ⟨l ++ [q], by simp [h1], fun j hj => ?_⟩
        by_cases hjl : j < l.length
        · rw [List.getElem_append_left hjl]; exact h2 j hjl
        · have : j = k := by simp at hj; omega
          subst this
          rw [List.getElem_append_right (by omega)]
          simpa [h1] using hq
    obtain ⟨l, h1, h2⟩ := key len (Nat.le_refl _)
    refine ⟨some x, len, cap, l, rfl, Nat.le_trans hl hm, h1, fun j hj => ?_⟩
    obtain ⟨c0, c1, c2, hbn⟩ := h2 j hj
    obtain ⟨b, off, spot⟩ := x
    have h0 := (h2 0 (by omega)).1
    have hs : spot = none := by simpa [Addr.add] using World.cell?_spot h0
    subst hs
    rw [Addr.add_lit] at c0 c1 c2
    exact ⟨b, off, rfl, cell_lt c0, c0, by rw [← Nat.add_assoc] at c1; exact c1, by rw [← Nat.add_assoc] at c2; exact c2, hbn⟩


set_option maxRecDepth 100000
namespace PC
open IS (I64)
open IN (Keeps lt_of_some)

theorem J.make {b : Nat} {w0 w1 w2 : World} {tb rb N : Nat} {L L2 : List Pr} {Z Y : Nat → Prop} (h : P1 b w0 tb N L Z w1) (hD : DW w1.heap.size w2 rb N L2 Y) (hb : Below w1.heap.size w1 w2) (hY : ∀ k, Y k → w1.heap.size ≤ k) (hG : Good N L2) : J b w0 tb rb N L L2 Z w2 := by
  obtain ⟨X, h1, h2, h3, h4⟩ := h
  exact ⟨X, Y, h1.keep hb, hD.lower h1.base_le, fun k hx hy => by have := h1.lt k hx; have := hY k hy; omega, fun k hk => ⟨(h3 k hk).1, fun hy => by have := hY k hy; have := (h3 k hk).2; omega, Nat.lt_of_lt_of_le (h3 k hk).2 hb.size⟩, h2, hG, h4.trans (bel_mono hb h1.base_le)⟩
def I0 : Pr := ⟨1, 0, 1, 0, 0⟩
set_option maxRecDepth 100000 in
set_option maxHeartbeats 4000000 in
theorem shown14 (w : World) : Calls Try.prog 10 #[] w fun e w' => e = .returned (.bool true) ∧ Below w.heap.size w w' := by
  have cN := W_hid (P1.new 3 (by omega) (by omega) w.heap.size w w (Below.refl _ _) (Nat.le_refl _))
  go_enter Try.func10, Try.ntmps10
  go_wp2_with fail
  refine cN.out.mono ?_
  rintro e w1 ⟨tb, rfl, h1⟩
  have c1 := W_hid (h1.Spawn 1 0 ⟨by decide, by decide⟩)
  rw [show spawnR 3 [⟨1, 0, 1, 0, 0⟩] 1 0 = ((2, 0), [I0, ⟨2, 1, 1, 0, 0⟩]) from rfl] at c1
  clear h1 cN
  go_wp2_with fail
  refine c1.out.mono ?_
  rintro e w2 ⟨rfl, h2, -⟩
  have c2 := W_hid (h2.Spawn 2 5 ⟨by decide, by decide⟩)
  rw [show spawnR 3 [I0, ⟨2, 1, 1, 0, 0⟩] 2 5 = ((3, 0), [I0, ⟨2, 1, 1, 0, 0⟩, ⟨3, 2, 1, 0, 5⟩]) from rfl] at c2
  clear h2 c1
  go_wp2_with fail
  refine c2.out.mono ?_
  rintro e w3 ⟨rfl, h3, -⟩
  have c3 := W_hid (h3.Exit 2 7 ⟨by decide, by decide⟩)
  rw [show exitR [I0, ⟨2, 1, 1, 0, 0⟩, ⟨3, 2, 1, 0, 5⟩] 2 7 = (0, [I0, ⟨2, 1, 2, 7, 0⟩, ⟨3, 1, 1, 0, 5⟩]) from rfl] at c3
  clear h3 c2
  go_wp2_with fail
  refine c3.out.mono ?_
  rintro e w4 ⟨rfl, h4, -⟩
  have c4 := W_hid (h4.Wait 1 0 ⟨by decide, by decide⟩)
  rw [show waitR [I0, ⟨2, 1, 2, 7, 0⟩, ⟨3, 1, 1, 0, 5⟩] 1 0 = ((⟨2, 1, 2, 7, 0⟩, 0), [I0, ⟨3, 1, 1, 0, 5⟩]) from rfl] at c4
  simp only [prow] at c4
  clear h4 c3
  go_wp2_with fail
  refine c4.out.mono ?_
  rintro e w5 ⟨rfl, h5, -⟩
  have h6 : P1 w.heap.size w tb 3 [I0, ⟨3, 1, 1, 0, 5⟩] (fun k => False ∨ k = w5.heap.size) (w5.alloc (.cells #[.int .i64 2, .int .i64 1, .int .i64 2, .int .i64 7, .int .i64 0] 43)) := h5.alloc _
  have hx : Blk (w5.alloc (.cells #[.int .i64 2, .int .i64 1, .int .i64 2, .int .i64 7, .int .i64 0] 43)) w5.heap.size 43 (fv 2 1 2 7 0) := Blk.new w5 43 (fv 2 1 2 7 0) rfl
  have c5 := W_hid (h6.Get 3 ⟨by decide, by decide⟩)
  rw [show getR [I0, ⟨3, 1, 1, 0, 5⟩] 3 = (⟨3, 1, 1, 0, 5⟩, true) from rfl] at c5
  simp only [prow] at c5
  have hx := W_hid hx
  clear h5 h6 c4
  go_wp2_with fail
  refine c5.out.mono ?_
  rintro e w6 ⟨rfl, h7, hz⟩
  have hx6 : Blk w6 w5.heap.size 43 (fv 2 1 2 7 0) := (hz _ (.inr rfl)).trans hx.out
  have h8 : P1 w.heap.size w tb 3 [I0, ⟨3, 1, 1, 0, 5⟩] _ (w6.alloc (.cells #[.int .i64 3, .int .i64 1, .int .i64 1, .int .i64 0, .int .i64 5] 43)) := h7.alloc _
  have hb6 : Below w6.heap.size w6 (w6.alloc (.cells #[.int .i64 3, .int .i64 1, .int .i64 1, .int .i64 0, .int .i64 5] 43)) := (Below.refl _ _).alloc (Nat.le_refl _) _
  have hx7 := hx6.keep hb6
  have hy : Blk (w6.alloc (.cells #[.int .i64 3, .int .i64 1, .int .i64 1, .int .i64 0, .int .i64 5] 43)) w6.heap.size 43 (fv 3 1 1 0 5) := Blk.new w6 43 (fv 3 1 1 0 5) rfl
  have s0 := hx7.cell (j := 0) rfl
  have s3 := hx7.cell (j := 3) rfl
  have u1 := hy.cell (j := 1) rfl
  have hB := W_hid h8.bel
  clear h7 h8 hz c5 hx6 hb6
  replace hx7 := W_hid hx7
  replace hy := W_hid hy
  go_wp2_with fail
  go_ret
  exact ⟨rfl, hB.out⟩

set_option maxRecDepth 100000 in
set_option maxHeartbeats 4000000 in
theorem ran14 (o : Option Addr) (n cap : Nat) (l : List OpT14) (w : World) (hop : OS14 w o n cap l) (b : Nat) (w0 : World) (hb0 : Below b w0 w) (hbw : b ≤ w.heap.size) :
    Calls Try.prog 16 #[.slice o n cap] w fun e w' => ∃ tb L, e = .returned (.tuple #[.pointer (some ⟨tb, 0, none⟩), .bool true]) ∧ P1 b w0 tb 8 L (fun _ => False) w' ∧ Below w.heap.size w w' := by
  obtain ⟨hlen, hll, hops⟩ := hop
  have hlen2 : (n : Int) ≤ 9223372036854775807 := by unfold maxLen at hlen; omega
  have cN := W_hid (P1.new 8 (by omega) (by omega) w.heap.size w w (Below.refl _ _) (Nat.le_refl _))
  replace hops := W_hid hops
  replace hll := W_hid hll
  clear hlen
  go_enter Try.func16, Try.ntmps16
  go_wp2_with fail
  refine cN.out.mono ?_
  rintro e w1 ⟨tb, rfl, h1⟩
  have cD := W_hid (rpNew_yes 8 (by omega) (by omega) w1)
  replace h1 := W_hid h1
  clear cN
  go_wp2_with fail
  refine cD.out.mono ?_
  rintro e w2 ⟨rb, Y, rfl, hD, hbD, hY⟩
  have hJ := W_hid (J.make h1.out hD hbD hY (good_new 8 (by omega) (by omega)))
  clear cD hD hbD hY h1
  go_wp2_with fail
  go_loopw [8] (fun v wr => ∃ (j : Nat) (L : List Pr), j ≤ n ∧ j ≤ 100 ∧ v = .int .i64 (j : Int) ∧ Hid (J w.heap.size w tb rb 8 L L (fun _ => False) wr)) (fun v _ => n - (intOf v).toNat)
  case atStart => exact ⟨0, _, by omega, by omega, rfl, hJ⟩
  case round =>
    clear hJ
    obtain ⟨j, L, hj, hj2, rfl, hJ⟩ := hrel
    have hb := W_hid hJ.out.toP.bel
    by_cases hlt : j < n ∧ j < 100
    · obtain ⟨hl1, hl2⟩ := hlt
      obtain ⟨blk, off, rfl, hblk, hc0, hc1, hc2, z1, z2, z3, z4, z5, z6⟩ := hops.out j (by rw [hll.out]; exact hl1)
      obtain ⟨⟨kd, a, c⟩, hx⟩ : ∃ x, l[j]'(by rw [hll.out]; exact hl1) = x := ⟨_, rfl⟩
      rw [hx] at hc0 hc1 hc2 z1 z2 z3 z4 z5 z6
      simp only at hc0 hc1 hc2 z1 z2 z3 z4 z5 z6
      have kk : ∀ {a : Nat} {u : Value}, w.cell? ⟨blk, a, none⟩ = some u → wr.cell? ⟨blk, a, none⟩ = some u := fun {a u} hc => by rw [hb.out.cell (p := ⟨blk, a, none⟩) hblk]; exact hc
      have k0 := kk hc0
      have k1 := kk hc1
      have k2 := kk hc2
      have cD := W_hid (does14 w.heap.size w tb rb 8 L kd a c wr hJ.out ⟨z3, z4⟩)
      clear kk hc0 hc1 hc2 hx
      go_wp2_with fail
      refine cD.out.mono ?_
      rintro e w6 ⟨rfl, L', hJ6⟩
      replace hJ6 := W_hid hJ6
      go_wp2_with fail
      go_roundw
      case rel => exact ⟨j + 1, L', by omega, by omega, by go_num, hJ6⟩
      case measure => simp [intOf]; omega
    · have hex : (¬ j < n) ∨ (j < n ∧ ¬ j < 100) := by omega
      have hfin : Hid (P1 b w0 tb 8 L (fun _ => False) wr ∧ Below w.heap.size w wr) := W_hid (by
        obtain ⟨X, g1, g2, g3, g4⟩ := hJ.out.toP
        exact ⟨⟨X, g1.lower hbw, g2, fun k hk => hk.elim, hb0.trans (bel_mono g4 hbw)⟩, g4⟩)
      clear hJ
      rcases hex with h1 | ⟨h1, h2⟩ <;>
      · go_wp2_with fail
        go_ret2
        first | exact ⟨tb, rfl, ⟨L, hfin.out.1⟩, hfin.out.2⟩ | exact ⟨tb, L, rfl, hfin.out.1, hfin.out.2⟩
end PC
end Go.Proofs.Ytahcpimpmedbiaa

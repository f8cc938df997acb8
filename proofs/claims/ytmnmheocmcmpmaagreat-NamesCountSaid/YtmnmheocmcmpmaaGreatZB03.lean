/- Contracts of package names' walks: resolve, find, place. -/
import Derived.Test.YtmnmheocmcmpmaaGreatZB02
import Derived.Test.YtmnmheocmcmpmaaGreatZB01
import Derived.Maps.AppendAt
import Derived.Laws.OwnMore
import Derived.Laws.AppendOwnNone
import Derived.Deep.RegionLaw
import Derived.RegionTactic
import Derived.Deep.DeepAppendWide
import Derived.WalkSmall
import Derived.Deep.RegionHeld3

namespace Go.Proofs.YtmnmheocmcmpmaaGreat
open Go.ChangeShapes Go.WideShapes Go.ChangeAt Go.RowKit
set_option linter.unusedVariables false
set_option linter.unusedSimpArgs false
namespace IS
theorem Two.own {g y : Nat} {w w' : World} (h : Two g y w w') (hy : w.heap.size ≤ y) : Two g g w w' := ⟨h.os, h.tape, h.output, h.size, fun k hk h1 _ => h.block k hk h1 (by omega)⟩
theorem Two.wider {g y : Nat} {w w' : World} (h : Two y y w w') : Two g y w w' := ⟨h.os, h.tape, h.output, h.size, fun k hk h1 h2 => h.block k hk h2 h2⟩
theorem RW.two {w w' : World} {g y N : Nat} {X : Nat → Nat} {rest : List Value} (h : RW w g N X rest) (t : Two y y w w') (hne : g ≠ y) : RW w' g N X rest := ⟨h.blk.two t hne hne⟩
theorem and_some (x m n : Nat) (hx : x < 18446744073709551616) (h1 : n < m) (h2 : m ≤ 2 * n) (hn : n ≤ 65536) : ∃ r : Nat, r < 2 * n ∧ bits BinOp.and IntKind.u64 (x : Int) ((m : Int) - 1) = (r : Int) := by
  have e : (m : Int) - 1 = ((m - 1 : Nat) : Int) := by omega
  have h3 : x &&& (m - 1) ≤ m - 1 := Nat.and_le_right
  exact ⟨x &&& (m - 1), by omega, by rw [e]; exact u64_and_nat _ _ hx (by omega)⟩
set_option maxRecDepth 100000 in
set_option maxHeartbeats 4000000 in
theorem break_any (g N cap : Nat) (rest : List Value) (a b : Nat) (X : Nat → Nat) (w : World) (h : RW w g N X rest) (hab : a + 8 ≤ b) (hb : b ≤ N) (hN : N < 65536) (hcap : N ≤ cap) :
    Calls Tryz.prog 214 #[.slice (some ⟨g, 0, none⟩) N cap, .int .i64 (a : Int), .int .i64 (b : Int)] w fun e w' => e = .returned (.tuple #[]) ∧ Two g g w w' ∧ ∃ Y, RW w' g N Y rest ∧ SO.Sw a b X Y := by
  have hgl := h.lt
  have h := W_hid h
  obtain ⟨n, hn⟩ : ∃ n, b - a = n := ⟨_, rfl⟩
  have hni : (b : Int) - (a : Int) = (n : Int) := by omega
  have hn8 : 8 ≤ n := by omega
  have hnN : n < 65536 := by omega
  obtain ⟨d, hd⟩ : ∃ d, n / 4 = d := ⟨_, rfl⟩
  have hdi : (n : Int).tdiv 4 = (d : Int) := by rw [← hd]; rfl
  obtain ⟨d2, hd2⟩ : ∃ d2, d * 2 = d2 := ⟨_, rfl⟩
  have hd2i : (d : Int) * 2 = (d2 : Int) := by omega
  obtain ⟨s1, hs1⟩ : ∃ s, a + d2 = s := ⟨_, rfl⟩
  have hs1i : (a : Int) + (d2 : Int) = (s1 : Int) := by omega
  obtain ⟨s0, hs0⟩ : ∃ s, s1 - 1 = s := ⟨_, rfl⟩
  have hs0i : (s1 : Int) - 1 = (s0 : Int) := by omega
  have hbd : Hid (a ≤ s0 ∧ s1 + 1 < b ∧ s0 + 1 = s1 ∧ a + n = b) := by show _ ∧ _ ∧ _ ∧ _; omega
  have hsm : s1 ≤ 65536 ∧ s0 ≤ 65536 ∧ d2 ≤ 65536 ∧ d ≤ 65536 := by omega
  have cP := W_hid (fun w => power_any n w (by omega) hnN)
  have b1 : Below w.heap.size w (w.alloc (.cells #[.int .u64 (n : Int)] 268)) := (Below.refl _ _).alloc (Nat.le_refl _) _
  have hY := W_hid (Blk.new w 268 [.int .u64 (n : Int)] rfl)
  have hR1 := W_hid (h.out.keep b1)
  have hT1 : Hid (Two g w.heap.size w (w.alloc (.cells #[.int .u64 (n : Int)] 268))) := Two.of b1
  have hgy : ¬ g = w.heap.size := by omega
  replace hd := W_hid hd
  replace hd2 := W_hid hd2
  replace hs1 := W_hid hs1
  replace hs0 := W_hid hs0
  replace hn := W_hid hn
  clear b1
  go_enter Tryz.func214, Tryz.ntmps214
  go_wp2_with fail
  refine (cP.out _).mono ?_
  rintro e w1 ⟨⟨m, rfl, hm1, hm2⟩, rfl⟩
  have hmi : 0 ≤ (m : Int) - 1 ∧ (m : Int) - 1 ≤ 131072 := by omega
  replace hm1 := W_hid hm1
  replace hm2 := W_hid hm2
  go_wp2_with fail
  obtain ⟨W1, hW1⟩ : ∃ W, w.alloc (.cells #[.int .u64 (n : Int)] 268) = W := ⟨_, rfl⟩
  rw [hW1] at hY hR1 hT1 ⊢
  go_loopw [9] (fun v wr => ∃ (q x : Nat) (Z : Nat → Nat), v = .int .i64 (q : Int) ∧ s0 ≤ q ∧ q ≤ s1 + 2 ∧ Hid (x < 18446744073709551616) ∧ Hid (Blk wr w.heap.size 268 [.int .u64 (x : Int)]) ∧ Hid (RW wr g N Z rest) ∧ Hid (SO.Sw a b X Z) ∧ Hid (Two g w.heap.size w wr)) (fun v _ => s1 + 2 - (intOf v).toNat)
  case atStart => exact ⟨s0, n, X, rfl, Nat.le_refl _, by have := hbd.out; omega, (show n < 18446744073709551616 by omega), hY, hR1, W_hid .refl, hT1⟩
  case round =>
    clear hY hR1 hT1
    obtain ⟨q, x, Z, rfl, hq1, hq2, hx, hY, hR, hS, hT⟩ := hrel
    by_cases hle : q ≤ s1 + 1
    · have hlei : (q : Int) ≤ (s1 : Int) + 1 := by omega
      have cN := W_hid (Next_any w.heap.size x wr hY.out hx.out)
      go_wp2_with fail
      refine cN.out.mono ?_
      rintro e w2 ⟨z, rfl, hz, hY2, hT2⟩
      obtain ⟨r, hr1, hr2⟩ := and_some z m n hz hm1.out hm2.out (by omega)
      have hR2 := W_hid (hR.out.two hT2 hgy)
      have hT3 := W_hid (hT.out.trans (Two.wider hT2))
      replace hz := W_hid hz
      replace hY2 := W_hid hY2
      have hrb : r ≤ 131072 := by omega
      clear hY hR hT hT2 cN
      obtain ⟨o, ho, hor⟩ : ∃ o : Nat, o < n ∧ ((r < n ∧ o = r) ∨ (n ≤ r ∧ (r : Int) - (n : Int) = (o : Int))) := by
        by_cases hh : r < n
        · exact ⟨r, hh, .inl ⟨hh, rfl⟩⟩
        · exact ⟨r - n, by omega, .inr ⟨by omega, by omega⟩⟩
      obtain ⟨p, hp⟩ : ∃ p, a + o = p := ⟨_, rfl⟩
      have hpi : (a : Int) + (o : Int) = (p : Int) := by omega
      have hpb : a ≤ p ∧ p < b ∧ p < N := by have := hbd.out; omega
      have hqb : a ≤ q ∧ q < b ∧ q < N := by have := hbd.out; omega
      have dq := hR2.out.cell q hqb.2.2
      have dp := hR2.out.cell p hpb.2.2
      have gz := hR2.out.fz
      obtain ⟨vq, hvq⟩ : ∃ v, Z q = v := ⟨_, rfl⟩
      obtain ⟨vp, hvp⟩ : ∃ v, Z p = v := ⟨_, rfl⟩
      have hR4 := W_hid (hR2.out.swap q p hqb.2.2 hpb.2.2)
      have hT4 := W_hid ((hT3.out.setCell (p := ⟨g, q, none⟩) (.inl rfl) (.int .i64 (Z p : Int))).setCell (p := ⟨g, p, none⟩) (.inl rfl) (.int .i64 (Z q : Int)))
      have hS4 := W_hid (hS.out.step (i := q) (j := p) hqb.1 hqb.2.1 hpb.1 hpb.2.1)
      have hY4 := W_hid ((hY2.out.far (p := ⟨g, q, none⟩) (fun e => hgy e.symm) (.int .i64 (vp : Int))).far (p := ⟨g, p, none⟩) (fun e => hgy e.symm) (.int .i64 (vq : Int)))
      rw [hvq, hvp] at hR4 hT4
      rw [hvq] at dq
      rw [hvp] at dp
      replace hvq := W_hid hvq
      replace hvp := W_hid hvp
      replace hp := W_hid hp
      obtain ⟨V, hV⟩ : ∃ V, World.drew ((w2.setCell ⟨g, q, none⟩ (.int .i64 (vp : Int))).setCell ⟨g, p, none⟩ (.int .i64 (vq : Int))) = V := ⟨_, rfl⟩
      have hR5 : RW V g N (SO.swp Z q p) rest := by rw [← hV]; exact hR4.out.drew
      have hT5 : Two g w.heap.size w V := by rw [← hV]; exact ⟨hT4.out.os, hT4.out.tape, hT4.out.output, hT4.out.size, hT4.out.block⟩
      have hY5 : Blk V w.heap.size 268 [.int .u64 (z : Int)] := by rw [← hV]; exact hY4.out
      replace hR5 := W_hid hR5
      replace hT5 := W_hid hT5
      replace hY5 := W_hid hY5
      clear hR2 hT3 hY2 hR4 hT4 hY4 hS
      obtain ⟨qn, hqn⟩ : ∃ x, q + 1 = x := ⟨_, rfl⟩
      have hqi : (q : Int) + 1 = (qn : Int) := by omega
      have hqs : s0 ≤ qn ∧ qn ≤ s1 + 2 := by omega
      have hqm : Hid (s1 + 2 - qn < s1 + 2 - q) := by show _ < _; omega
      replace hqn := W_hid hqn
      rcases hor with ⟨hr, rfl⟩ | ⟨hr, hro⟩
      all_goals
        have hcs : p = q ∨ ¬ p = q := by omega
        rcases hcs with hqa | hne
        case' inl =>
          obtain rfl : vq = vp := hvq.out.symm.trans (by rw [← hqa]; exact hvp.out)
          subst hqa
        case' inr => have hne2 : ¬ q = p := fun e => hne e.symm
        all_goals
          go_wp2_with fail
          go_region
          try rw [hV]
          clear hV dq dp gz
          go_wp2_with fail
          go_roundw
          case rel => exact ⟨qn, z, _, rfl, hqs.1, hqs.2, hz, hY5, hR5, hS4, hT5⟩
          case measure => (have := hqm.out); first | (simp [intOf]; omega) | simp [intOf]
    · have hlei : ¬ (q : Int) ≤ (s1 : Int) + 1 := by omega
      go_wp2_with fail
      go_end0
      exact ⟨rfl, Two.own hT.out (Nat.le_refl _), Z, hR.out, hS.out⟩
set_option maxRecDepth 100000 in
set_option maxHeartbeats 4000000 in
theorem pivot_any (g N cap : Nat) (rest : List Value) (a b : Nat) (X : Nat → Nat) (w : World) (h : RW w g N X rest) (hab : a + 8 ≤ b) (hb : b ≤ N) (hN : N < 65536) (hcap : N ≤ cap) :
    Calls Tryz.prog 215 #[.slice (some ⟨g, 0, none⟩) N cap, .int .i64 (a : Int), .int .i64 (b : Int)] w fun e w' => ∃ p c : Nat, e = .returned (.tuple #[.int .i64 (p : Int), .int .i64 (c : Int)]) ∧ a ≤ p ∧ p < b ∧ c ≤ 2 ∧ Two g g w w' ∧ RW w' g N X rest := by
  have hgl := h.lt
  have hN' : N ≤ 65536 := by omega
  obtain ⟨n, hn⟩ : ∃ n, b - a = n := ⟨_, rfl⟩
  have hni : (b : Int) - (a : Int) = (n : Int) := by omega
  have hn8 : 8 ≤ n := by omega
  have hnN : n < 65536 := by omega
  obtain ⟨d, hd⟩ : ∃ d, n / 4 = d := ⟨_, rfl⟩
  have hdi : (n : Int).tdiv 4 = (d : Int) := by rw [← hd]; rfl
  obtain ⟨d2, hd2⟩ : ∃ d2, d * 2 = d2 := ⟨_, rfl⟩
  have hd2i : (d : Int) * 2 = (d2 : Int) := by omega
  obtain ⟨d3, hd3⟩ : ∃ d3, d * 3 = d3 := ⟨_, rfl⟩
  have hd3i : (d : Int) * 3 = (d3 : Int) := by omega
  obtain ⟨i, hi⟩ : ∃ s, a + d = s := ⟨_, rfl⟩
  have hii : (a : Int) + (d : Int) = (i : Int) := by omega
  obtain ⟨j, hj⟩ : ∃ s, a + d2 = s := ⟨_, rfl⟩
  have hji : (a : Int) + (d2 : Int) = (j : Int) := by omega
  obtain ⟨k, hk⟩ : ∃ s, a + d3 = s := ⟨_, rfl⟩
  have hki : (a : Int) + (d3 : Int) = (k : Int) := by omega
  have hsm : i < 65536 ∧ j < 65536 ∧ k < 65536 ∧ d ≤ 65536 ∧ d2 ≤ 65536 ∧ d3 ≤ 65536 := by omega
  have hbd : Hid (a ≤ i ∧ i < b ∧ a ≤ j ∧ j < b ∧ a ≤ k ∧ k < b) := by show _ ∧ _ ∧ _ ∧ _ ∧ _ ∧ _; omega
  have hbd2 : Hid (50 ≤ n → a + 1 ≤ i ∧ i + 1 < b ∧ a + 1 ≤ j ∧ j + 1 < b ∧ a + 1 ≤ k ∧ k + 1 < b) := by intro _; omega
  have b1 : Below w.heap.size w (w.alloc (.cells #[.int .i64 0] 3)) := (Below.refl _ _).alloc (Nat.le_refl _) _
  have hY := Blk.new w 3 [.int .i64 0] rfl
  have hR1 := h.keep b1
  have hT1 : Two w.heap.size w.heap.size w (w.alloc (.cells #[.int .i64 0] 3)) := Two.of b1
  have hgy : w.heap.size ≠ g := by omega
  obtain ⟨W1, hW1⟩ : ∃ W, w.alloc (.cells #[.int .i64 0] 3) = W := ⟨_, rfl⟩
  rw [hW1] at hY hR1 hT1
  -- the three places
  have hmed := W_hid (fun a b c s (V : World) h h1 h2 h3 h4 h5 => median_any g N cap rest a b c w.heap.size s X V h h1 h2 h3 hN' hcap h4 hgy h5)
  have hadj := W_hid (fun a s (V : World) h h1 h2 h4 h5 => adjacent_any g N cap rest a w.heap.size s X V h h1 h2 hN' hcap h4 hgy h5)
  replace hn := W_hid hn
  replace hd := W_hid hd
  replace hd2 := W_hid hd2
  replace hd3 := W_hid hd3
  replace hi := W_hid hi
  replace hj := W_hid hj
  replace hk := W_hid hk
  replace hgy := W_hid hgy
  replace hY := W_hid hY
  replace hR1 := W_hid hR1
  replace hT1 := W_hid hT1
  clear b1 h
  go_enter Tryz.func215, Tryz.ntmps215
  by_cases h50 : 50 ≤ n
  · have hb2 := hbd2.out h50
    have hA1 := W_hid (hadj.out i 0 W1 hR1.out (by omega) (by omega) hY.out (by omega))
    go_wp2_with fail
    try rw [hW1]
    clear hW1
    refine hA1.out.mono ?_
    rintro e w2 ⟨p1, rfl, hp1, hp1', k1⟩
    obtain ⟨s1, l1, u1, y1⟩ := k1.ex
    have hA2 := W_hid (hadj.out j s1 w2 k1.row (by omega) (by omega) y1 (by omega))
    replace k1 := W_hid k1
    clear y1 hA1 hR1 hY
    go_wp2_with fail
    refine hA2.out.mono ?_
    rintro e w3 ⟨p2, rfl, hp2, hp2', k2⟩
    obtain ⟨s2, l2, u2, y2⟩ := k2.ex
    have hA3 := W_hid (hadj.out k s2 w3 k2.row (by omega) (by omega) y2 (by omega))
    replace k2 := W_hid k2
    clear y2 hA2
    go_wp2_with fail
    refine hA3.out.mono ?_
    rintro e w4 ⟨p3, rfl, hp3, hp3', k3⟩
    obtain ⟨s3, l3, u3, y3⟩ := k3.ex
    have hA4 := W_hid (hmed.out p1 p2 p3 s3 w4 k3.row (by omega) (by omega) (by omega) y3 (by omega))
    replace k3 := W_hid k3
    clear y3 hA3
    go_wp2_with fail
    refine hA4.out.mono ?_
    rintro e w5 ⟨p4, rfl, hp4, k4⟩
    obtain ⟨s4, l4, u4, y4⟩ := k4.ex
    have hfin : Hid (a ≤ p4 ∧ p4 < b ∧ Two g g w w5 ∧ RW w5 g N X rest) := ⟨by omega, by omega, Two.own (g := g) (Two.wider ((((hT1.out.trans k1.out.two).trans k2.out.two).trans k3.out.two).trans k4.two)) (Nat.le_refl _), k4.row⟩
    have c4 := y4.cell (j := 0) rfl
    have hs4 : s4 ≤ 12 := by omega
    clear k1 k2 k3 k4 hA4 y4 l1 l2 l3 l4 u1 u2 u3 u4 hb2 hp1 hp1' hp2 hp2' hp3 hp3' hp4 hT1
    have hcs : s4 = 0 ∨ s4 = 12 ∨ (¬ s4 = 0 ∧ ¬ s4 = 12) := by omega
    rcases hcs with rfl | rfl | ⟨q1, q2⟩
    · go_wp2_with fail
      go_ret2
      exact ⟨p4, 1, rfl, hfin.out.1, hfin.out.2.1, by omega, hfin.out.2.2⟩
    · go_wp2_with fail
      go_ret2
      exact ⟨p4, 2, rfl, hfin.out.1, hfin.out.2.1, by omega, hfin.out.2.2⟩
    · have z1 : ((s4 : Int) == 0) = false := by simp; omega
      have z2 : ((s4 : Int) == 12) = false := by simp; omega
      go_wp2_with fail
      go_ret2
      exact ⟨p4, 0, rfl, hfin.out.1, hfin.out.2.1, by omega, hfin.out.2.2⟩
  · have hb2 := hbd.out
    have hA4 := W_hid (hmed.out i j k 0 W1 hR1.out (by omega) (by omega) (by omega) hY.out (by omega))
    go_wp2_with fail
    try rw [hW1]
    clear hW1
    refine hA4.out.mono ?_
    rintro e w5 ⟨p4, rfl, hp4, k4⟩
    obtain ⟨s4, l4, u4, y4⟩ := k4.ex
    have hfin : Hid (a ≤ p4 ∧ p4 < b ∧ Two g g w w5 ∧ RW w5 g N X rest) := ⟨by omega, by omega, Two.own (g := g) (Two.wider (hT1.out.trans k4.two)) (Nat.le_refl _), k4.row⟩
    have c4 := y4.cell (j := 0) rfl
    have hs4 : s4 ≤ 12 := by omega
    clear k4 hA4 y4 l4 u4 hb2 hp4 hT1 hR1 hY
    have hcs : s4 = 0 ∨ s4 = 12 ∨ (¬ s4 = 0 ∧ ¬ s4 = 12) := by omega
    rcases hcs with rfl | rfl | ⟨q1, q2⟩
    · go_wp2_with fail
      go_ret2
      exact ⟨p4, 1, rfl, hfin.out.1, hfin.out.2.1, by omega, hfin.out.2.2⟩
    · go_wp2_with fail
      go_ret2
      exact ⟨p4, 2, rfl, hfin.out.1, hfin.out.2.1, by omega, hfin.out.2.2⟩
    · have z1 : ((s4 : Int) == 0) = false := by simp; omega
      have z2 : ((s4 : Int) == 12) = false := by simp; omega
      go_wp2_with fail
      go_ret2
      exact ⟨p4, 0, rfl, hfin.out.1, hfin.out.2.1, by omega, hfin.out.2.2⟩
end IS
namespace IS
def PdqAt (g N cap : Nat) (rest : List Value) (L : Nat) : Prop := ∀ (a b k : Nat) (X : Nat → Nat) (w : World), b - a = L → a ≤ b → b ≤ N → k ≤ 1000 → RW w g N X rest → SO.Bel X a b → SO.Inj X N → (∀ i, i < N → X i < 9223372036854775808) →
  Calls Tryz.prog 188 #[.slice (some ⟨g, 0, none⟩) N cap, .int .i64 (a : Int), .int .i64 (b : Int), .int .i64 (k : Int)] w fun e w' => e = .returned (.tuple #[]) ∧ Two g g w w' ∧ ∃ Y, RW w' g N Y rest ∧ SO.Sw a b X Y ∧ SO.Up Y a b
set_option maxRecDepth 100000 in
set_option maxHeartbeats 16000000 in
theorem pdq_step (g N cap : Nat) (rest : List Value) (hN : N < 65536) (hcap : N ≤ cap) (L : Nat) (IH : ∀ L', L' < L → PdqAt g N cap rest L') : PdqAt g N cap rest L := by
  intro a b k X w hL hab hb hk h hBel hInj hX
  have hN' : N ≤ 65536 := by omega
  have h := W_hid h
  have hBel := W_hid hBel
  have hInj := W_hid hInj
  have hX := W_hid hX
  have hIH := W_hid IH
  have hLf0 : Hid (SO.Left X a b a b) := SO.left_begin X a b
  have hXs : Hid (∀ Z : Nat → Nat, SO.Sw a b X Z → ∀ i, i < N → Z i < 9223372036854775808) := fun Z s i hi => (s.wide (Nat.zero_le a) hb).all (P := fun v => v < 9223372036854775808) (fun p _ hp => hX.out p hp) i (Nat.zero_le _) hi
  clear IH hX
  replace hL := W_hid hL
  go_enter Tryz.func188, Tryz.ntmps188
  go_wp2_with fail
  go_loopw [1, 2, 3, 8, 9] (fun u v l x y wr => ∃ (a1 b1 k1 : Nat) (t1 t2 : Bool) (Y : Nat → Nat), u = .int .i64 (a1 : Int) ∧ v = .int .i64 (b1 : Int) ∧ l = .int .i64 (k1 : Int) ∧ x = .bool t1 ∧ y = .bool t2 ∧ a ≤ a1 ∧ a1 ≤ b1 ∧ b1 ≤ b ∧ k1 ≤ 1000 ∧ Hid (RW wr g N Y rest) ∧ Hid (SO.Sw a b X Y) ∧ Hid (SO.Bel Y a1 b1) ∧ Hid (SO.Left Y a b a1 b1) ∧ Hid (Two g g w wr)) (fun u v _ _ _ _ => (intOf v - intOf u).toNat)
  case atStart => exact ⟨a, b, k, true, true, X, rfl, rfl, rfl, rfl, rfl, Nat.le_refl _, hab, Nat.le_refl _, hk, h, W_hid .refl, hBel, hLf0, W_hid (Two.refl _ _ _)⟩
  case round =>
    clear h hBel hLf0
    obtain ⟨a1, b1, k1, t1, t2, Y, rfl, rfl, rfl, rfl, rfl, q1, q2, q3, qk, hR, hS, hB, hLf, hT⟩ := hrel
    obtain ⟨n, hn⟩ : ∃ n, b1 - a1 = n := ⟨_, rfl⟩
    have hni : (b1 : Int) - (a1 : Int) = (n : Int) := by omega
    have hnb : n ≤ 65536 := by omega
    have hb1N : b1 ≤ N := by omega
    by_cases h12 : n ≤ 12
    · have c := W_hid (insert_any g N cap rest a1 b1 Y wr hR.out q2 hb1N hN' hcap (hXs.out Y hS.out))
      replace hn := W_hid hn
      go_wp2_with fail
      refine c.out.mono ?_
      rintro e w5 ⟨rfl, hT5, Z, hR5, hS5, hU5⟩
      have hfin : Hid (Two g g w w5 ∧ ∃ Y, RW w5 g N Y rest ∧ SO.Sw a b X Y ∧ SO.Up Y a b) := ⟨hT.out.trans hT5, Z, hR5, hS.out.trans (hS5.wide q1 q3), SO.left_done (SO.left_sw hLf.out hS5 q1 q3) hU5⟩
      clear c hT5 hR5 hS5 hU5
      go_wp2_with fail
      refine bodyPost_ret (results_none rfl _ _ _) rfl ?_
      exact ⟨rfl, hfin.out⟩
    · have hlt : a1 + 12 < b1 := by omega
      by_cases hk0 : k1 = 0
      · have c := W_hid (heap_any g N cap rest a1 b1 Y wr hR.out (by omega) hb1N hN' hcap)
        subst hk0
        replace hn := W_hid hn
        go_wp2_with fail
        refine c.out.mono ?_
        rintro e w5 ⟨rfl, hT5, Z, hR5, hS5, hU5⟩
        have hfin : Hid (Two g g w w5 ∧ ∃ Y, RW w5 g N Y rest ∧ SO.Sw a b X Y ∧ SO.Up Y a b) := ⟨hT.out.trans hT5, Z, hR5, hS.out.trans (hS5.wide q1 q3), SO.left_done (SO.left_sw hLf.out hS5 q1 q3) hU5⟩
        clear c hT5 hR5 hS5 hU5
        go_wp2_with fail
        refine bodyPost_ret (results_none rfl _ _ _) rfl ?_
        exact ⟨rfl, hfin.out⟩
      · have hkz : ((k1 : Int) == 0) = false := by simp; omega
        obtain ⟨kk, hkk⟩ : ∃ kk, k1 - 1 = kk := ⟨_, rfl⟩
        have hkki : (k1 : Int) - 1 = (kk : Int) := by omega
        have hkb : kk ≤ 1000 := by omega
        have cB := W_hid (break_any g N cap rest a1 b1 Y wr hR.out (by omega) hb1N hN hcap)
        replace hn := W_hid hn
        replace hkk := W_hid hkk
        -- the patterns
        go_upto_if 35 with fail
        go_cut [3] from 19 to 133 (fun l wx => ∃ (k2 : Nat) (Z : Nat → Nat), l = .int .i64 (k2 : Int) ∧ k2 ≤ 1000 ∧ Hid (RW wx g N Z rest) ∧ Hid (SO.Sw a1 b1 Y Z) ∧ Hid (Two g g w wx))
        case first =>
          cases t1 with
          | true =>
            go_wp2_with fail
            go_meet
            exact ⟨k1, Y, rfl, qk, hR, W_hid .refl, hT⟩
          | false =>
            go_wp2_with fail
            refine cB.out.mono ?_
            rintro e w5 ⟨rfl, hT5, Z, hR5, hS5⟩
            replace hT5 := W_hid (hT.out.trans hT5)
            replace hR5 := W_hid hR5
            replace hS5 := W_hid hS5
            go_wp2_with fail
            go_meet
            exact ⟨kk, Z, rfl, hkb, hR5, hS5, hT5⟩
        case rest =>
        clear hR hT cB
        obtain ⟨k2, Z, rfl, qk2, hR, hS2, hT⟩ := hcut
        have cV := W_hid (pivot_any g N cap rest a1 b1 Z wc hR.out (by omega) hb1N hN hcap)
        go_wp2_with fail
        refine cV.out.mono ?_
        rintro e w5 ⟨p, c, rfl, hp1, hp2, hc, hT5, hR5⟩
        replace hT := W_hid (hT.out.trans hT5)
        replace hR := W_hid hR5
        have cR := W_hid (reverse_any g N cap rest a1 b1 Z w5 hR5 (by omega) hb1N hN' hcap)
        obtain ⟨p2, hp2e⟩ : ∃ p2, b1 - 1 - (p - a1) = p2 := ⟨_, rfl⟩
        obtain ⟨b2, hb2e⟩ : ∃ b2, b1 - 1 = b2 := ⟨_, rfl⟩
        obtain ⟨p3, hp3e⟩ : ∃ p3, p - a1 = p3 := ⟨_, rfl⟩
        have e1 : (b1 : Int) - 1 = (b2 : Int) := by omega
        have e2 : (p : Int) - (a1 : Int) = (p3 : Int) := by omega
        have e3 : (b2 : Int) - (p3 : Int) = (p2 : Int) := by omega
        have hpb : Hid (a1 ≤ p2 ∧ p2 < b1) := by show _ ∧ _; omega
        have hpsm : p2 ≤ 65536 ∧ b2 ≤ 65536 ∧ p3 ≤ 65536 := by omega
        replace hp2e := W_hid hp2e
        replace hb2e := W_hid hb2e
        replace hp3e := W_hid hp3e
        clear cV hT5 hR5
        go_upto_if 50 with fail
        go_cut [11, 12] from 19 to 133 (fun u v wx => ∃ (p c : Nat) (Z2 : Nat → Nat), u = .int .i64 (p : Int) ∧ v = .int .i64 (c : Int) ∧ a1 ≤ p ∧ p < b1 ∧ Hid (RW wx g N Z2 rest) ∧ Hid (SO.Sw a1 b1 Z Z2) ∧ Hid (Two g g w wx))
        case first =>
          by_cases hc2 : c = 2
          · subst hc2
            go_wp2_with fail
            refine cR.out.mono ?_
            rintro e w6 ⟨rfl, hT6, Z2, hR6, hS6⟩
            replace hT6 := W_hid (hT.out.trans hT6)
            replace hR6 := W_hid hR6
            replace hS6 := W_hid hS6
            go_wp2_with fail
            go_meet
            exact ⟨p2, 1, Z2, rfl, rfl, hpb.out.1, hpb.out.2, hR6, hS6, hT6⟩
          · have hcz : ((c : Int) == 2) = false := by simp; omega
            go_wp2_with fail
            go_meet
            exact ⟨p, c, Z, rfl, rfl, hp1, hp2, hR, W_hid .refl, hT⟩
        case rest =>
        clear hR hT cR hp1 hp2 hc hpb hpsm e1 e2 e3 hp2e hb2e hp3e
        obtain ⟨p, c, Z2, rfl, rfl, hp1, hp2, hR, hS3, hT⟩ := hcut
        obtain ⟨W2, hW2⟩ : ∃ W, W = wc := ⟨wc, rfl⟩
        go_upto_region 15 with fail
        go_cut [68] from 19 to 133 (fun v wx => (∃ t : Bool, v = .bool t) ∧ wx = W2)
        case first =>
          have hce : c = 1 ∨ ¬ c = 1 := by omega
          rcases hce with rfl | hc1
          case' inr => have hcz : ((c : Int) == 1) = false := by simp; omega
          all_goals
            cases t1 <;> cases t2
          all_goals
            go_wp2_with fail
            go_meet
            exact ⟨⟨_, rfl⟩, hW2.symm⟩
        case rest =>
        obtain ⟨⟨t, rfl⟩, hwc⟩ := hcut
        rw [hwc]
        rw [← hW2] at hR hT
        clear hW2 hwc
        have hS23 := W_hid (hS2.out.trans hS3.out)
        have cI := W_hid (partins_any g N cap rest a1 b1 Z2 W2 hR.out (by omega) hb1N hN' hcap (SO.bel_sw (SO.bel_sw hB.out hS2.out) hS3.out))
        go_upto_if 68 with fail
        go_cut [] from 19 to 133 (fun wx => ∃ (Z4 : Nat → Nat), Hid (RW wx g N Z4 rest) ∧ Hid (SO.Sw a1 b1 Y Z4) ∧ Hid (Two g g w wx))
        case first =>
          cases t with
          | true =>
            go_wp2_with fail
            refine cI.out.mono ?_
            rintro e w6 ⟨tt, rfl, hT6, Z4, hR6, hS6, hU6⟩
            replace hT6 := W_hid (hT.out.trans hT6)
            replace hR6 := W_hid hR6
            replace hS6 := W_hid (hS23.out.trans hS6)
            cases tt with
            | true =>
              have hfin : Hid (Two g g w w6 ∧ ∃ Y, RW w6 g N Y rest ∧ SO.Sw a b X Y ∧ SO.Up Y a b) := ⟨hT6.out, Z4, hR6.out, hS.out.trans (hS6.out.wide q1 q3), SO.left_done (SO.left_sw hLf.out hS6.out q1 q3) (hU6 rfl)⟩
              clear hU6
              go_wp2_with fail
              refine bodyPost_ret (results_none rfl _ _ _) rfl ?_
              exact ⟨rfl, hfin.out⟩
            | false =>
              clear hU6
              go_wp2_with fail
              go_meet
              exact ⟨Z4, hR6, hS6, hT6⟩
          | false =>
            go_wp2_with fail
            go_meet
            exact ⟨Z2, hR, hS23, hT⟩
        case rest =>
        clear hR hT hS2 hS3 hS23 cI
        obtain ⟨Z4, hR, hS4, hT⟩ := hcut
        have hB4 := W_hid (SO.bel_sw hB.out hS4.out)
        have hS5 := W_hid (hS.out.trans (hS4.out.wide q1 q3))
        have hI5 := W_hid (hS5.out.inj hb hInj.out)
        have hLf5 := W_hid (SO.left_sw hLf.out hS4.out q1 q3)
        clear hLf hB hS hS4
        go_upto_region 17 with fail
        go_cut [87] from 19 to 133 (fun v wx => v = .bool false ∧ Hid (RW wx g N Z4 rest) ∧ Hid (Two g g w wx))
        case first =>
          rename_i J1 K1 hJ1 hK1
          by_cases ha0 : a1 = 0
          · subst ha0
            go_quiet (fail)
            refine hK1 _ _ (Met.intro (hJ1 _ _ ?_))
            repeat apply Exists.intro
            exact ⟨⟨rfl, W_hid (hR.out.drewN nq), W_hid (hT.out.drew nq)⟩, rfl⟩
          · obtain ⟨a0, ha⟩ : ∃ a0, a1 = a0 + 1 := ⟨a1 - 1, by omega⟩
            have ea : (a1 : Int) - 1 = (a0 : Int) := by omega
            have hpos : 0 < a1 := by omega
            have hb0 : a0 < N ∧ p < N := by omega
            have da := hR.out.cell a0 hb0.1
            have dp := hR.out.cell p hb0.2
            obtain ⟨va, hva⟩ : ∃ v, Z4 a0 = v := ⟨_, rfl⟩
            obtain ⟨vp, hvp⟩ : ∃ v, Z4 p = v := ⟨_, rfl⟩
            have hless : va < vp := by
              rcases hB4.out with h0 | h0
              · omega
              · have h1 := h0 p hp1 hp2
                rw [show a1 - 1 = a0 by omega, hva, hvp] at h1
                rcases Nat.lt_or_ge va vp with hh | hh
                · exact hh
                · have h2 := hI5.out a0 p hb0.1 hb0.2 (by rw [hva, hvp]; omega)
                  omega
            rw [hva] at da
            rw [hvp] at dp
            have hL := W_hid (fun t => Calls.quiet_of_same (Less_any va vp (wc.drewN t)))
            rw [show decide (va < vp) = true by simp [hless]] at hL
            replace ha := W_hid ha
            replace hva := W_hid hva
            replace hvp := W_hid hvp
            replace hless := W_hid hless
            go_quiet ((go_at_call 218; exact hL.out _))
            refine hK1 _ _ (Met.intro (hJ1 _ _ ?_))
            repeat apply Exists.intro
            exact ⟨⟨rfl, W_hid (hR.out.drewN nq), W_hid (hT.out.drew nq)⟩, rfl⟩
        case rest =>
        clear hR hT
        obtain ⟨rfl, hR, hT⟩ := hcut
        have cP := W_hid (partition_any g N cap rest a1 b1 p Z4 wc hR.out hp1 hp2 hb1N hN' hcap)
        go_wp2_with fail
        refine cP.out.mono ?_
        rintro e w7 ⟨m, t3, rfl, hm1, hm2, hT7, Z5, hR7, hS7, hP7⟩
        replace hT7 := W_hid (hT.out.trans hT7)
        have hB7 := W_hid (SO.bel_sw hB4.out hS7)
        have hS8 := W_hid (hS5.out.trans (hS7.wide q1 q3))
        have hI8 := W_hid (hS8.out.inj hb hInj.out)
        have hLf8 := W_hid (SO.left_sw hLf5.out hS7 q1 q3)
        replace hR7 := W_hid hR7
        replace hP7 := W_hid hP7
        obtain ⟨l1, hl1⟩ : ∃ l, m - a1 = l := ⟨_, rfl⟩
        obtain ⟨l2, hl2⟩ : ∃ l, b1 - m = l := ⟨_, rfl⟩
        obtain ⟨th, hth⟩ : ∃ t, n / 8 = t := ⟨_, rfl⟩
        have f1 : (m : Int) - (a1 : Int) = (l1 : Int) := by omega
        have f2 : (b1 : Int) - (m : Int) = (l2 : Int) := by omega
        have f3 : (n : Int).tdiv 8 = (th : Int) := by rw [← hth]; rfl
        have hlb : l1 ≤ 65536 ∧ l2 ≤ 65536 ∧ th ≤ 65536 := by omega
        obtain ⟨m1, hm1e⟩ : ∃ x, m + 1 = x := ⟨_, rfl⟩
        have f4 : (m : Int) + 1 = (m1 : Int) := by omega
        have hLL : Hid (l1 < L ∧ b1 - m1 < L ∧ m1 ≤ b1) := by
          have := hL.out
          show _ ∧ _ ∧ _
          omega
        have cL := W_hid (hIH.out l1 hLL.out.1 a1 m k2 Z5 w7 hl1 hm1 (by omega) qk2 hR7.out (SO.bel_left hB7.out (by omega)) hI8.out (hXs.out Z5 hS8.out))
        have cU := W_hid (hIH.out (b1 - m1) hLL.out.2.1 m1 b1 k2 Z5 w7 rfl hLL.out.2.2 hb1N qk2 hR7.out (by rw [← hm1e]; exact SO.bel_right hP7.out) hI8.out (hXs.out Z5 hS8.out))
        replace hl1 := W_hid hl1
        replace hl2 := W_hid hl2
        replace hth := W_hid hth
        clear cP hR hT hS7 hB4 hI5 hLf5 hS5
        by_cases hll : l1 < l2
        · clear cU
          go_wp2_with fail
          refine cL.out.mono ?_
          rintro e w8 ⟨rfl, hT8, Z6, hR8, hS9, hU9⟩
          have hP9 := SO.parted_left hP7.out hS9 hm2
          have hS9w := hS9.wide (a' := a1) (b' := b1) (Nat.le_refl _) (by omega)
          have hfin : Hid (RW w8 g N Z6 rest ∧ SO.Sw a b X Z6 ∧ SO.Bel Z6 m1 b1 ∧ SO.Left Z6 a b m1 b1 ∧ Two g g w w8) := by
            rw [← hm1e]
            exact ⟨hR8, hS8.out.trans (hS9.wide q1 (by omega)), SO.bel_right hP9, SO.left_lower (SO.left_sw hLf8.out hS9w q1 q3) hP9 hm1 hm2 hU9, hT7.out.trans hT8⟩
          have hmb : Hid (a ≤ m1 ∧ m1 ≤ b1 ∧ b1 - m1 < b1 - a1) := by show _ ∧ _ ∧ _; omega
          replace hm1e := W_hid hm1e
          clear hT8 hR8 hS9 hU9 hP9 hS9w cL
          go_wp2_with fail
          go_roundw
          case rel => exact ⟨m1, b1, k2, _, t3, Z6, rfl, rfl, rfl, rfl, rfl, hmb.out.1, hmb.out.2.1, q3, qk2, W_hid hfin.out.1, W_hid hfin.out.2.1, W_hid hfin.out.2.2.1, W_hid hfin.out.2.2.2.1, W_hid hfin.out.2.2.2.2⟩
          case measure => (have := hmb.out.2.2); first | (simp [intOf]; omega) | simp [intOf]
        · clear cL
          go_wp2_with fail
          refine cU.out.mono ?_
          rintro e w8 ⟨rfl, hT8, Z6, hR8, hS9, hU9⟩
          have hfin : Hid (RW w8 g N Z6 rest ∧ SO.Sw a b X Z6 ∧ SO.Bel Z6 a1 m ∧ SO.Left Z6 a b a1 m ∧ Two g g w w8) := by
            rw [← hm1e] at hS9 hU9
            have hP9 := SO.parted_right hP7.out hS9
            have hS9w := hS9.wide (a' := a1) (b' := b1) (by omega) (Nat.le_refl _)
            exact ⟨hR8, hS8.out.trans (hS9.wide (by omega) q3), SO.bel_left (SO.bel_sw hB7.out hS9w) (by omega), SO.left_upper (SO.left_sw hLf8.out hS9w q1 q3) hP9 hm1 hm2 hU9, hT7.out.trans hT8⟩
          have hmb : Hid (m ≤ b ∧ m - a1 < b1 - a1) := by show _ ∧ _; omega
          replace hm1e := W_hid hm1e
          clear hT8 hR8 hS9 hU9 cU
          go_wp2_with fail
          go_roundw
          case rel => exact ⟨a1, m, k2, _, t3, Z6, rfl, rfl, rfl, rfl, rfl, q1, hm1, hmb.out.1, qk2, W_hid hfin.out.1, W_hid hfin.out.2.1, W_hid hfin.out.2.2.1, W_hid hfin.out.2.2.2.1, W_hid hfin.out.2.2.2.2⟩
          case measure => (have := hmb.out.2); first | (simp [intOf]; omega) | simp [intOf]
theorem pdq_all (g N cap : Nat) (rest : List Value) (hN : N < 65536) (hcap : N ≤ cap) (L : Nat) : PdqAt g N cap rest L := by
  induction L using Nat.strongRecOn with
  | ind L ih => exact pdq_step g N cap rest hN hcap L ih
set_option maxRecDepth 100000 in
set_option maxHeartbeats 4000000 in
theorem Sort_all (g N cap : Nat) (rest : List Value) (X : Nat → Nat) (w : World) (h : RW w g N X rest) (hN : N < 65536) (hcap : N ≤ cap) (hX : ∀ i, i < N → X i < 9223372036854775808) (hI : SO.Inj X N) :
    Calls Tryz.prog 140 #[.slice (some ⟨g, 0, none⟩) N cap] w fun e w' => e = .returned (.tuple #[]) ∧ Two g g w w' ∧ ∃ Y, RW w' g N Y rest ∧ SO.Sw 0 N X Y ∧ SO.Up Y 0 N := by
  have cL := Len_any (N : Int) w (by omega) (by omega)
  have cP := W_hid (fun (k : Nat) hk => pdq_all g N cap rest hN hcap N 0 N k X w (by omega) (Nat.zero_le _) (Nat.le_refl _) hk h (.inl rfl) hI hX)
  clear h
  go_enter Tryz.func140, Tryz.ntmps140
  go_wp2_with (first
    | (go_at_call 189; refine cL.mono ?_; rintro e w' ⟨⟨k, rfl, hk⟩, rfl⟩)
    | (go_at_call 188; refine (cP.out _ (by omega)).mono ?_; rintro e w' ⟨rfl, hT, Y, hR, hS, hU⟩))
  go_end0
  exact ⟨rfl, hT, Y, hR, hS, hU⟩
end IS
namespace IS
set_option maxRecDepth 100000 in
set_option maxHeartbeats 4000000 in
theorem Sorted_all (Bm b : Nat) (M : Int → Option Nat) (w : World) (hBm : Bm < w.heap.size) (hb : b < w.heap.size) (hm : w.cell? ⟨Bm, 0, none⟩ = some (.map (some b))) (hMB : MB w b M)
    (hsm : ∀ ss, Nums M ss → ss.length < 65536) (hne : ∃ f : Nat, M f ≠ none) :
    Calls Tryz.prog 70 #[.func (.func 141) #[] #[.pointer (some ⟨Bm, 0, none⟩)]] w fun e w' => ∃ (v : Value) (l : List Nat), e = .returned v ∧ Nums M l ∧ l.Pairwise (· ≤ ·) ∧ Nlist w.heap.size w' v l ∧ Below w.heap.size w w' := by
  have cC := Collect_any Bm b M w hBm hb hm hMB
  have hlt := fun ss (h : Nums M ss) => h.lt hMB
  clear hm
  go_enter Tryz.func70, Tryz.ntmps70
  go_wp2_with (go_at_call 139; refine cC.mono ?_; rintro e w1 ⟨v, ss, rfl, hN, hown, hnil, hB⟩)
  have hne0 : ss ≠ [] := by
    obtain ⟨f, hf⟩ := hne
    intro e
    have := (hN.2 f).2 hf
    rw [e] at this
    cases this
  rcases hown.2 with ⟨h0, -⟩ | ⟨g, cap, cur, rfl, hbase, hg, h1, h2, h3, h4⟩
  · exact absurd (hnil.1 h0) hne0
  have hrw : RW w1 g ss.length (fun i => ss.getD i 0) (cur.toList.drop ss.length) := by
    refine ⟨?_⟩
    unfold Blk
    rw [hg, lst_of]
    have e : ss.map nk ++ cur.toList.drop ss.length = cur.toList := by
      rw [Nat.mul_one] at h4
      rw [← h4, List.take_append_drop]
    rw [e]
  have cS := W_hid (Sort_all g ss.length cap _ _ w1 hrw (hsm ss hN) (by omega) (fun i hi => by
    have := hlt ss hN (ss.getD i 0) (by rw [List.getD, List.getElem?_eq_getElem hi]; exact List.getElem_mem _)
    omega) (SO.inj_of_nodup _ _ (by rw [lst_of]; exact hN.1)))
  clear hrw h4 h3 hg
  go_wp2_with (go_at_call 140; refine cS.out.mono ?_; rintro e w2 ⟨rfl, hT, Y, hR, hS, hU⟩)
  go_ret
  refine ⟨_, SO.lst Y ss.length, rfl, ⟨?_, fun f => ?_⟩, up_pairwise hU, ⟨⟨g, cap, _, by rw [SO.lst_len]; rfl, hbase, by rw [SO.lst_len]; exact h1, hR.blk⟩⟩, hB.trans (hT.below hB.size hbase hbase)⟩
  · refine SO.lst_nodup _ _ (hS.inj (Nat.le_refl _) (SO.inj_of_nodup _ _ ?_))
    rw [lst_of]; exact hN.1
  · rw [hS.mem (Nat.le_refl _), lst_of, hN.2 f]
end IS
namespace Own
def Src (w : World) (size : Nat) (u : Value) (m : Nat) (ys : List Value) : Prop :=
  (u = .slice none 0 0 ∧ m = 0 ∧ ys = []) ∨ ∃ ad c, u = .slice (some ad) m c ∧ ys.length = m * size ∧ ∀ j v, ys[j]? = some v → w.cell? (ad.add j) = some v
theorem Src.keep {w w' : World} {size m : Nat} {u : Value} {ys : List Value} (h : Src w size u m ys) (hb : Below w.heap.size w w') : Src w' size u m ys := by
  rcases h with h | ⟨ad, c, h1, h2, h3⟩
  · exact .inl h
  · exact .inr ⟨ad, c, h1, h2, fun j v hj => by rw [hb.cell (World.block_lt_of_cell? w _ (h3 j v hj))]; exact h3 j v hj⟩
theorem Src.grown {w w' : World} {size m : Nat} {u : Value} {ys : List Value} {row : Option Nat} (h : Src w size u m ys) (hg : w.grownBy w' row) (hr : ∀ ad n c, u = .slice (some ad) n c → 0 < n → some ad.block ≠ row) : Src w' size u m ys := by
  rcases h with h | ⟨ad, c, h1, h2, h3⟩
  · exact .inl h
  · refine .inr ⟨ad, c, h1, h2, fun j v hj => ?_⟩
    have hm : 0 < m := by
      rcases Nat.eq_zero_or_pos m with h0 | h0
      · subst h0
        rw [Nat.zero_mul] at h2
        rw [List.eq_nil_of_length_eq_zero h2] at hj
        cases hj
      · exact h0
    refine cellg hg (h3 j v hj) ?_
    have e : (ad.add j).block = ad.block := by unfold Addr.add; split <;> rfl
    rw [e]
    exact hr ad m c h1 hm
def Info (P : Program) (e : TypeId) (z : Value) (size bytes : Nat) : Prop := ∃ i, P.info? e = some i ∧ i.zero = some z ∧ i.size = size ∧ i.bytes = bytes ∧ z.cells.size = size ∧ 0 < size
theorem info_of {P : Program} {e : TypeId} {z : Value} {size bytes : Nat} (h : (P.info? e).map (fun i => (i.zero, i.size, i.bytes)) = some (some z, size, bytes)) (h2 : z.cells.size = size) (h3 : 0 < size) : Info P e z size bytes := by
  cases hi : P.info? e with
  | none => rw [hi] at h; cases h
  | some i =>
    rw [hi] at h
    simp only [Option.map_some, Option.some.injEq, Prod.mk.injEq] at h
    exact ⟨i, hi, h.1, h.2.1, h.2.2, h2, h3⟩
theorem run_app {P : Program} {w : World} {t ty e : TypeId} {z : Value} {size bytes : Nat} (ht : P.underlying t = some (.slice e)) (hinf : Info P e z size bytes) {base n m : Nat} {v u : Value} {xs ys : List Value}
    (hown : w.ownsRow base e size v n xs) (hbase : base ≤ w.heap.size) (hs : Src w size u m ys) (h1 : ∀ u ∈ ys, u.oneCell' = true) (h63 : n + m ≤ maxLen) (hb : (n + m) * bytes ≤ 140737488355328) :
    ∃ v' w', (Builtin.append_ #[t, t] ty #[v, u]).run P w = .ok v' w' ∧ w'.ownsRow base e size v' (n + m) (xs ++ ys) ∧ w.grownBy w' v.ownBlock ∧ (v'.ownBlock = v.ownBlock ∨ v'.ownBlock = some w.heap.size) := by
  obtain ⟨i, hi, hz, hsize, hby, hzs, hsz⟩ := hinf
  rcases hs with ⟨rfl, rfl, rfl⟩ | ⟨ad, c, rfl, hl, hc⟩
  · refine ⟨v, w, run_append_owned_none (P := P) (w := w) base t ty e i size ht hi v n xs hown, ?_, World.grownBy.refl w _, .inl rfl⟩
    simpa using hown
  · obtain ⟨v', w', h1, h2, h3, -, h5⟩ := run_append_own_at (P := P) w base t ty e i z size bytes ht hi hz hsize hby hzs hsz v n xs hown ad m c ys hl hc h1 h63 hb hbase
    exact ⟨v', w', h1, h2, h3, h5⟩
theorem step_app {P : Program} {ops : Array Oper} {o : Oper} {a : Act} {w : World} {K : Act → World → Prop} {Q : Exit → Act → World → Prop} {E : Prop}
    (hg : o.guard = none) (s x : Operand) (t : TypeId) (hop : o.op = Op.call { callee := Callee.builtin Builtin.append, args := #[s, x], argTypes := #[t, t] })
    {e : TypeId} {z : Value} {size bytes : Nat} (ht : P.underlying t = some (.slice e)) (hinf : Info P e z size bytes) {base n m : Nat} (v u : Value) {xs ys : List Value} (hs : a.eval s = v) (hx : a.eval x = u)
    (hown : w.ownsRow base e size v n xs) (hbase : base ≤ w.heap.size) (hsrc : Src w size u m ys) (h1 : ∀ u ∈ ys, u.oneCell' = true) (h63 : n + m ≤ maxLen) (hb : (n + m) * bytes ≤ 140737488355328)
    (hK : ∀ v' w', w'.ownsRow base e size v' (n + m) (xs ++ ys) → w.grownBy w' v.ownBlock → (v'.ownBlock = v.ownBlock ∨ v'.ownBlock = some w.heap.size) → K (a.put o.dst v') w') :
    if Region.wanted o (yielded ops a.tmps) = true then Oper.wp P o a w K Q else E := by
  have hw : Region.wanted o (yielded ops a.tmps) = true := by simp [Region.wanted, hg]
  rw [if_pos hw]
  obtain ⟨v', w', hrun, r1, r2, r3⟩ := run_app (ty := o.type) ht hinf hown hbase hsrc h1 h63 hb
  unfold Oper.wp
  simp [execOp, hop, resolve, invoke, builtin, hs, hx, hrun, Result.andThen]
  exact hK v' w' r1 r2 r3
theorem wpList_app {P : Program} {ops : Array Oper} {rest : List Oper} {o : Oper} {a : Act} {w : World} {Q : Exit → Act → World → Prop} (hgd : o.guard = none) (s x : Operand) (t : TypeId)
    (hop : o.op = Op.call { callee := Callee.builtin Builtin.append, args := #[s, x], argTypes := #[t, t] })
    {e : TypeId} {z : Value} {size bytes : Nat} (ht : P.underlying t = some (.slice e)) (hinf : Info P e z size bytes) {base n m : Nat} (v u : Value) {xs ys : List Value} (hs : a.eval s = v) (hx : a.eval x = u)
    (hown : w.ownsRow base e size v n xs) (hbase : base ≤ w.heap.size) (hsrc : Src w size u m ys) (h1 : ∀ u ∈ ys, u.oneCell' = true) (h63 : n + m ≤ maxLen) (hb : (n + m) * bytes ≤ 140737488355328)
    (hK : ∀ v' w', w'.ownsRow base e size v' (n + m) (xs ++ ys) → w.grownBy w' v.ownBlock → (v'.ownBlock = v.ownBlock ∨ v'.ownBlock = some w.heap.size) → wpList P ops Q rest (a.put o.dst v') w') : wpList P ops Q (o :: rest) a w := by
  refine wpList_plain hgd fun K' hK' => ?_
  obtain ⟨v', w', hrun, r1, r2, r3⟩ := run_app (ty := o.type) ht hinf hown hbase hsrc h1 h63 hb
  unfold Oper.wp
  simp [execOp, hop, resolve, invoke, builtin, hs, hx, hrun, Result.andThen]
  exact hK' _ _ (hK v' w' r1 r2 r3)
theorem make_room {P : Program} {t e : TypeId} {z : Value} {size bytes : Nat} (ht : P.underlying t = some (.slice e)) (hinf : Info P e z size bytes) (m : Nat) (zz : Int) (hzm : zz = m) (h : m * bytes ≤ 140737488355328) (h2 : m ≤ 140737488355328) :
    ∃ X : Obj, (∀ W : World, (Instr.makeSlice t (.int .i64 0) (.int .i64 zz)).run P W = .ok (.slice (some ⟨W.heap.size, 0, none⟩) 0 m) (W.alloc X)) ∧
    ∀ (W : World) (base : Nat), base ≤ W.heap.size → (W.alloc X).ownsRow base e size (.slice (some ⟨W.heap.size, 0, none⟩) 0 m) 0 [] := by
  subst hzm
  obtain ⟨i0, hi, hz0, hz1, hz2, hzs, hsz⟩ := hinf
  refine ⟨_, fun W => ?_, fun W base hb => World.ownsRow_made (size := size) W _ m hb (by unfold maxLen; omega) (size_madeCells z.cells (m * size))⟩
  have hr := run_make (P := P) W t e i0 z ht hi hz0 .i64 .i64 0 (m : Int) (Int.le_refl _) (by omega) (by rw [hz2, Int.mul_comm, ← Int.natCast_mul]; omega) (by omega)
  simp only [Int.toNat_zero, Int.toNat_natCast, hz1] at hr
  exact hr
end Own
namespace IS
set_option maxRecDepth 100000 in
set_option maxHeartbeats 1000000 in
theorem insert_nil (w : World) : Calls Tryz.prog 212 #[.slice none 0 0, .int .i64 0, .int .i64 0] w fun e w' => e = .returned (.tuple #[]) ∧ w' = w := by
  go_enter Tryz.func212, Tryz.ntmps212
  go_wp2_with fail
  go_loopw [6] (fun v wr => v = .int .i64 1 ∧ wr = w) (fun _ _ => 0)
  case atStart => exact ⟨rfl, rfl⟩
  case round =>
    obtain ⟨rfl, rfl⟩ := hrel
    go_wp2_with fail
    go_end0
    exact ⟨rfl, rfl⟩
set_option maxRecDepth 100000 in
set_option maxHeartbeats 1000000 in
theorem pdq_nil (k : Nat) (w : World) : Calls Tryz.prog 188 #[.slice none 0 0, .int .i64 0, .int .i64 0, .int .i64 (k : Int)] w fun e w' => e = .returned (.tuple #[]) ∧ w' = w := by
  have c := W_hid (insert_nil w)
  go_enter Tryz.func188, Tryz.ntmps188
  go_wp2_with fail
  go_loopw [1, 2, 3, 8, 9] (fun a b l _ _ wr => a = .int .i64 0 ∧ b = .int .i64 0 ∧ l = .int .i64 (k : Int) ∧ wr = w) (fun _ _ _ _ _ _ => 0)
  case atStart => exact ⟨rfl, rfl, rfl, rfl⟩
  case round =>
    obtain ⟨rfl, rfl, rfl, rfl⟩ := hrel
    go_wp2_with fail
    refine c.out.mono ?_
    rintro e w' ⟨rfl, rfl⟩
    go_wp2_with fail
    refine bodyPost_ret (results_none rfl _ _ _) rfl ?_
    exact ⟨rfl, rfl⟩
set_option maxRecDepth 100000 in
set_option maxHeartbeats 1000000 in
theorem Sort_nil (w : World) : Calls Tryz.prog 140 #[.slice none 0 0] w fun e w' => e = .returned (.tuple #[]) ∧ w' = w := by
  have cL := Len_any 0 w (by omega) (by omega)
  have cP := W_hid (fun k : Nat => pdq_nil k w)
  go_enter Tryz.func140, Tryz.ntmps140
  go_wp2_with (first
    | (go_at_call 189; refine cL.mono ?_; rintro e w' ⟨⟨k, rfl, hk⟩, rfl⟩)
    | (go_at_call 188; refine (cP.out _).mono ?_; rintro e w' ⟨rfl, rfl⟩))
  go_end0
  exact ⟨rfl, rfl⟩
def LC (base : Nat) (w : World) (v : Value) (l : List Nat) : Prop := ∃ ao cap, v = .slice ao l.length cap ∧ ∀ i (hi : i < l.length), ∃ blk off, ao = some ⟨blk, off, none⟩ ∧ base ≤ blk ∧ blk < w.heap.size ∧ w.cell? ⟨blk, off + i, none⟩ = some (.int .i64 (l[i] : Int))
theorem LC.nlist {base : Nat} {w : World} {v : Value} {l : List Nat} (h : Nlist base w v l) : LC base w v l := by
  obtain ⟨g, cap, rest, rfl, h1, h2, h3⟩ := h.ex
  refine ⟨_, _, rfl, fun i hi => ⟨g, 0, rfl, h1, h3.lt, ?_⟩⟩
  rw [Nat.zero_add]
  refine h3.cell ?_
  rw [List.getElem?_append_left (by simpa using hi), List.getElem?_map, List.getElem?_eq_getElem hi]
  rfl
set_option maxRecDepth 100000 in
set_option maxHeartbeats 4000000 in
theorem Sorted_nums (Bm b : Nat) (M : Int → Option Nat) (w : World) (hBm : Bm < w.heap.size) (hb : b < w.heap.size) (hm : w.cell? ⟨Bm, 0, none⟩ = some (.map (some b))) (hMB : MB w b M) (ks : List Nat) (hk : Nums M ks) (hr : ks.Pairwise (· < ·)) (hlen : ks.length < 65536) :
    Calls Tryz.prog 70 #[.func (.func 141) #[] #[.pointer (some ⟨Bm, 0, none⟩)]] w fun e w' => ∃ v, e = .returned v ∧ LC w.heap.size w' v ks ∧ Below w.heap.size w w' := by
  cases ks with
  | nil =>
    have cC := W_hid (Collect_any Bm b M w hBm hb hm hMB)
    have hS := W_hid Sort_nil
    have hk := W_hid hk
    clear hm hMB
    go_enter Tryz.func70, Tryz.ntmps70
    go_wp2_with fail
    refine cC.out.mono ?_
    rintro e w1 ⟨v, ss, rfl, hN, hown, hnil, hB⟩
    have hss : ss = [] := List.eq_nil_of_length_eq_zero (by have := hN.len_eq hk.out; simpa using this)
    obtain rfl := hnil.2 hss
    clear hN hown hnil hss
    go_wp2_with fail
    refine (hS.out w1).mono ?_
    rintro e w2 ⟨rfl, rfl⟩
    go_wp2_with fail
    go_ret
    exact ⟨_, rfl, ⟨none, 0, rfl, fun i hi => by simp at hi⟩, hB⟩
  | cons x r =>
    refine (Sorted_all Bm b M w hBm hb hm hMB (fun ss hs => by rw [hs.len_eq hk]; exact hlen) ⟨x, (hk.2 x).1 (by simp)⟩).mono ?_
    rintro e w' ⟨v, l, rfl, hN, hp, hl, hB⟩
    have hl1 : l.Pairwise (· < ·) := by
      refine List.pairwise_iff_getElem.2 fun i j hi hj hij => ?_
      have h3 := List.pairwise_iff_getElem.1 hp i j hi hj hij
      have h4 := List.pairwise_iff_getElem.1 hN.1 i j hi hj hij
      omega
    have e : l = x :: r := IN.rise_eq hl1 hr fun y => by rw [hN.2 y, hk.2 y]
    subst e
    exact ⟨v, rfl, LC.nlist hl, hB⟩
end IS
namespace IN
def stcl (l : List (Nat × Nd)) : List Value := l.flatMap fun x => stl (x.1 : Int) x.2
theorem stcl_len (l : List (Nat × Nd)) : (stcl l).length = l.length * 6 := by
  induction l with
  | nil => rfl
  | cons x r ih => simp only [stcl, List.flatMap_cons, List.length_append, List.length_cons] at ih ⊢; rw [ih]; simp [stl]; omega
theorem stcl_app (a b : List (Nat × Nd)) : stcl (a ++ b) = stcl a ++ stcl b := List.flatMap_append
theorem stcl_one (x : Nat × Nd) : stcl [x] = stl (x.1 : Int) x.2 := by simp [stcl]
theorem info_stat : Own.Info Tryz.prog 49 (.agg zl.toArray) 6 48 := Own.info_of (by kernel_rfl) rfl (by decide)
theorem stl_cells (w : World) (n : Int) (d : Nd) (g : Nat) (hB : Blk w g 49 (stl n d)) : Own.Src w 6 (.slice (some ⟨g, 0, none⟩) 1 1) 1 (stl n d) :=
  .inr ⟨_, _, rfl, by simp [stl], fun j v hj => by
    have := hB.cell hj
    rw [Addr.add_lit, Nat.zero_add]
    exact this⟩
theorem stl_one (n : Int) (d : Nd) : ∀ u ∈ stl n d, u.oneCell' = true := by
  intro u hu
  simp only [stl, List.mem_cons, List.not_mem_nil, or_false] at hu
  rcases hu with rfl | rfl | rfl | rfl | rfl | rfl <;> rfl
section
variable {base sg mb I L B k : Nat} {M : Int → Option Nat} {S : Int → Option Nd}
set_option maxRecDepth 100000 in
theorem ask_one {w : World} {I L left : Int} (h : PM base w sg mb M I L left S) :
    Calls Tryz.prog 68 #[.int .i64 0, .slice (some ⟨w.heap.size, 0, none⟩) 1 1] (w.alloc (.cells #[.func (.func 69) #[.pointer (some ⟨sg, 0, none⟩)] #[]] 78)) fun e w' => e = .returned (.int .i64 0) ∧ Below w.heap.size w w' := by
  have hal := (Below.refl w.heap.size w).alloc (Nat.le_refl _) (.cells #[.func (.func 69) #[.pointer (some ⟨sg, 0, none⟩)] #[]] 78)
  refine (first_one (.pointer (some ⟨sg, 0, none⟩)) _ 0 0 w.heap.size _ (chk_blk w [.func (.func 69) #[.pointer (some ⟨sg, 0, none⟩)] #[]] _ rfl)
    (fun w => by kernel_rfl) (fun W hW => made_some _ W (h.keep (hal.trans (hW.mono hal.size))))).mono ?_
  rintro e w' ⟨rfl, hb⟩
  exact ⟨rfl, hal.trans (hb.mono hal.size)⟩
set_option maxRecDepth 100000 in
set_option maxHeartbeats 8000000 in
theorem All_any (w : World) (h : PS base w sg mb M I L B k S) :
    Calls Tryz.prog 21 #[.pointer (some ⟨sg, 0, none⟩)] w fun e w' => ∃ v, e = .returned v ∧ w'.ownsRow w.heap.size 49 6 v (lst S I).length (stcl (lst S I)) ∧ Below w.heap.size w w' := by
  have hmf : ∀ (fn : Fn) (first cap : Array Value) (w : World), (Instr.makeFunc fn first cap).run Tryz.prog w = .ok (.func fn first cap) w := fun _ _ _ _ => rfl
  have cA := W_hid (ask_one h.pm)
  have hlen := lst_len S I
  have hI := h.lim.1
  have hN := W_hid h.nums
  have hrise := W_hid (ks_rise S I)
  have hkl := W_hid (ks_len S I)
  have hgood := W_hid h.fn
  have hmem : Hid (∀ j (hj : j < (lst S I).length), 1 ≤ (lst S I)[j].1 ∧ (lst S I)[j].1 ≤ I ∧ S ((lst S I)[j].1 : Int) = some (lst S I)[j].2) := W_hid (fun j hj => mem_lst.1 (List.getElem_mem hj))
  have hkat : Hid (∀ j (hj : j < (ks S I).length) (hj2 : j < (lst S I).length), (ks S I)[j] = (lst S I)[j].1) := W_hid (fun j hj hj2 => by simp [ks])
  have H := W_hid h
  obtain ⟨Ls, hLs⟩ : ∃ Ls, lst S I = Ls := ⟨_, rfl⟩
  rw [hLs] at hlen hkl hmem hkat ⊢
  obtain ⟨Ks, hKs⟩ : ∃ Ks, ks S I = Ks := ⟨_, rfl⟩
  rw [hKs] at hN hrise hkl hkat
  obtain ⟨N, hNN⟩ : ∃ N, Ls.length = N := ⟨_, rfl⟩
  rw [hNN] at hlen hkl ⊢
  obtain ⟨X, hmk, hmo⟩ := Own.make_room (t := 42) Tryz.underlying42 info_stat N (N : Int) rfl (by omega) (by omega)
  replace hmo := W_hid hmo
  replace hNN := W_hid hNN
  clear h hLs hKs
  go_enter Tryz.func21, Tryz.ntmps21
  go_wp2_with fail
  refine cA.out.mono ?_
  rintro e w1 ⟨rfl, b1⟩
  have h1 := H.out.keep b1
  have c0 := h1.pm.box.cell (j := 0) rfl
  have hcnt : ∀ ty, (Builtin.len_ #[120] ty #[.map (some mb)]).run Tryz.prog w1 = .ok (.int .i64 (N : Int)) w1 := fun ty => by have := h1.pm.mp.count hN.out ty; rw [hkl.out] at this; exact this
  have hown0 := W_hid (hmo.out w1 w1.heap.size (Nat.le_refl _))
  have b2 := b1.alloc b1.size X
  obtain ⟨w2, hw2⟩ : ∃ w2, w1.alloc X = w2 := ⟨_, rfl⟩
  rw [hw2] at hown0 b2
  have hs2 : w2.heap.size = w1.heap.size + 1 := by rw [← hw2]; simp
  have h2 := H.out.keep b2
  have d0 := h2.pm.box.cell (j := 0) rfl
  have hbox := (Blk.new w2 120 [.map (some mb)] rfl).cell (j := 0) rfl
  have b3 := b2.alloc b2.size (.cells #[.map (some mb)] 120)
  have cK := W_hid (IS.Keys_any mb w2)
  have cS := W_hid (IS.Sorted_nums w2.heap.size mb M (w2.alloc (.cells #[.map (some mb)] 120)) (by simp) (by have := h2.pm.mp.lt; simp; omega) hbox (h2.pm.mp.alloc _) Ks hN.out hrise.out (by rw [hkl.out]; omega))
  have hs1 := b1.size
  have b1 := W_hid b1
  have b3 := W_hid b3
  replace hs2 := W_hid hs2
  clear cA hbox h1 h2 b2 hmo hN hrise
  go_wp2_with fail
  refine cK.out.mono ?_
  rintro e w3 ⟨rfl, rfl⟩
  go_wp2_with fail
  refine cS.out.mono ?_
  rintro e w4 ⟨v4, rfl, ⟨ao, cap, rfl, hcell⟩, b4⟩
  rw [hkl.out]
  have b5 := W_hid (b3.out.trans (b4.mono b3.out.size))
  have hown4 : Hid (w4.ownsRow w1.heap.size 49 6 (.slice (some ⟨w1.heap.size, 0, none⟩) 0 N) 0 []) := W_hid (Own.below (Own.below hown0.out ((Below.refl _ w2).alloc (Nat.le_refl _) _)) b4)
  have hcell : Hid (∀ i (hi : i < N), ∃ blk off, ao = some ⟨blk, off, none⟩ ∧ w1.heap.size < blk ∧ blk < w4.heap.size ∧ w4.cell? ⟨blk, off + i, none⟩ = some (.int .i64 ((Ls[i]'(by rw [hNN.out]; exact hi)).1 : Int))) := W_hid (fun i hi => by
    obtain ⟨blk, off, h1, h0, h2, h3⟩ := hcell i (by rw [hkl.out]; exact hi)
    rw [hkat.out i _ (by rw [hNN.out]; exact hi)] at h3
    exact ⟨blk, off, h1, by have := hs2.out; simp at h0; omega, h2, h3⟩)
  have hsw := hs1
  have hsz4 : w1.heap.size ≤ w4.heap.size := by have := b4.size; have := hs2.out; simp at *; omega
  clear hown0 b4 b3 cS cK hkat hkl d0 c0
  replace hw2 := W_hid hw2
  go_wp2_with fail
  go_loopw [24, 3] (fun i v wr => ∃ (j : Nat), j ≤ N ∧ i = .int .i64 (j : Int) ∧ Hid (wr.ownsRow w1.heap.size 49 6 v j (stcl (Ls.take j))) ∧ Hid (v.ownBlock = some w1.heap.size ∨ ∃ g, w4.heap.size ≤ g ∧ v.ownBlock = some g) ∧ Hid (Two w1.heap.size w1.heap.size w4 wr)) (fun i _ _ => N - (intOf i).toNat)
  case atStart => exact ⟨0, Nat.zero_le _, rfl, hown4, W_hid (.inl rfl), W_hid (Two.refl _ _ _)⟩
  case round =>
    obtain ⟨j, hj, rfl, hown, hob, hT⟩ := hrel
    have belr := W_hid (b5.out.trans (hT.out.below (B := w.heap.size) (by omega) hsw hsw))
    by_cases hlt : j < N
    · obtain ⟨blk, off, rfl, hb1, hb2, hc⟩ := hcell.out j hlt
      have hm := hmem.out j (by rw [hNN.out]; exact hlt)
      have htake := EM.take_snoc Ls j (by rw [hNN.out]; exact hlt)
      obtain ⟨⟨nj, dj⟩, hx⟩ : ∃ x, Ls[j]'(by rw [hNN.out]; exact hlt) = x := ⟨_, rfl⟩
      rw [hx] at hc hm htake
      simp only at hc hm
      have hc' : wr.cell? ⟨blk, off + j, none⟩ = some (.int .i64 (nj : Int)) := by
        rw [World.cell?_of_block (w := w4) (w' := wr) (a := ⟨blk, off + j, none⟩) (hT.out.block blk hb2 (by omega) (by omega))]
        exact hc
      have cT := stat_any (nj : Int) dj wr (H.out.keep belr.out).pm ⟨by omega, by omega⟩ hm.2.2 (hgood.out.good _ _ hm.2.2).ok
      simp only [stl] at cT
      replace cT := W_hid cT
      replace htake := W_hid htake
      have hsr := hT.out.size
      clear hx hc hm
      go_wp2_with fail
      refine cT.out.mono ?_
      rintro e w5 ⟨rfl, b6⟩
      have hsrc := stl_cells (w5.alloc (.cells #[.int .i64 (nj : Int), .int .i64 dj.kind, .int .i64 dj.links, .int .i64 dj.opens, .int .i64 dj.size, .int .i64 (EM.cnt dj.l : Int)] 49)) (nj : Int) dj w5.heap.size (Blk.new w5 49 (stl (nj : Int) dj) rfl)
      have b7 := b6.alloc b6.size (.cells #[.int .i64 (nj : Int), .int .i64 dj.kind, .int .i64 dj.links, .int .i64 dj.opens, .int .i64 dj.size, .int .i64 (EM.cnt dj.l : Int)] 49)
      have hown7 := W_hid (Own.below hown.out b7)
      have hT7 := W_hid (hT.out.trans (Two.of b7))
      have hs7 := b7.size
      have hsrc := W_hid hsrc
      clear b6 b7 cT hc'
      go_wp2_with (first
        | (at_builtin; refine Own.wpList_app rfl (.tmp 28) (.tmp 32) 42 rfl Tryz.underlying42 info_stat u3 (.slice (some ⟨w5.heap.size, 0, none⟩) 1 1) rfl rfl hown7.out (by omega) hsrc.out (stl_one _ _) (by unfold maxLen; omega) (by omega) ?_; intro v' w8 ho8 hg8 hb8))
      have hown8 : Hid (w8.ownsRow w1.heap.size 49 6 v' (j + 1) (stcl (Ls.take (j + 1)))) := W_hid (by rw [htake.out, stcl_app, stcl_one]; exact ho8)
      have hob8 : Hid (v'.ownBlock = some w1.heap.size ∨ ∃ g, w4.heap.size ≤ g ∧ v'.ownBlock = some g) := W_hid (by
        rcases hb8 with e | e
        · rw [e]; exact hob.out
        · exact .inr ⟨_, by omega, e⟩)
      have hT8 : Hid (Two w1.heap.size w1.heap.size w4 w8) := W_hid ⟨hg8.os.trans hT7.out.os, hg8.tape.trans hT7.out.tape, hg8.output.trans hT7.out.output, Nat.le_trans hT7.out.size hg8.size, fun k hk h1 h2 => by
        rw [hg8.block k (by omega) (fun e => by
          rcases hob.out with e2 | ⟨g, hg, e2⟩
          · rw [e2] at e; cases e; exact h1 rfl
          · rw [e2] at e; cases e; omega)]
        exact hT7.out.block k hk h1 h2⟩
      clear ho8 hg8 hb8 hown7 hT7 hsrc
      go_wp2_with fail
      go_roundw
      case rel => exact ⟨j + 1, by omega, by go_num, hown8, hob8, hT8⟩
      case measure => simp [intOf]; omega
    · obtain rfl : j = N := by omega
      have hfin := hown.out
      rw [List.take_of_length_le (Nat.le_of_eq hNN.out)] at hfin
      have hfin := W_hid (Own.low (base' := w.heap.size) hsw hfin)
      go_wp2_with fail
      go_ret
      exact ⟨_, rfl, hfin.out, belr.out⟩
end
end IN
end Go.Proofs.YtmnmheocmcmpmaaGreat

namespace Go.Proofs.YtmnmheocmcmpmaaGreat
open Go.ChangeShapes Go.WideShapes Go.ChangeAt Go.RowKit Go.Maps
set_option linter.unusedVariables false
set_option linter.unusedSimpArgs false
namespace IN
/-! Where a list ends. -/
/-! Read. -/
def rdErr (S : Int → Option Nd) (n f m : Int) : Int := askR S n fun d => if d.kind = 1 then rdE d.l d.size f m else 14
def rdRes (S : Int → Option Nd) (n f m : Int) : ByteArray := match S n with
  | none => ⟨#[]⟩
  | some d => if d.kind = 1 then strOf (rdV d.l d.size f m) else ⟨#[]⟩
section
variable {base sg mb I L B k : Nat} {M : Int → Option Nat} {S : Int → Option Nd}
end
end IN
namespace IN
def wNd (d : Nd) (f : Int) (s : ByteArray) : Nd := { d with l := EM.wr d.l f s, size := if s.size = 0 then d.size else max d.size (f + s.size) }
def wrErr (I B : Nat) (S : Int → Option Nd) (n f : Int) (s : ByteArray) : Int := askR S n fun d => if d.kind = 1 then (if wrE d.l f s = 0 then (if tot S I + EM.cnt (EM.wr d.l f s) ≤ B + EM.cnt d.l then 0 else 21) else wrE d.l f s) else 14
def wrS (I B : Nat) (S : Int → Option Nd) (n f : Int) (s : ByteArray) : Int → Option Nd := match S n with
  | none => S
  | some d => if d.kind = 1 ∧ wrE d.l f s = 0 ∧ tot S I + EM.cnt (EM.wr d.l f s) ≤ B + EM.cnt d.l then upd S n (some (wNd d f s)) else S
def tNd (d : Nd) (s : Int) : Nd := { d with l := EM.part 0 s d.l, size := s }
def tErr (S : Int → Option Nd) (n s : Int) : Int := askR S n fun d => if d.kind = 1 then (if s < 0 then 2 else if 1048576 < s then 28 else 0) else 14
def tS (S : Int → Option Nd) (n s : Int) : Int → Option Nd := match S n with
  | none => S
  | some d => if d.kind = 1 ∧ 0 ≤ s ∧ s ≤ 1048576 then upd S n (some (tNd d s)) else S
section
variable {base sg mb I L B k : Nat} {M : Int → Option Nat} {S : Int → Option Nd}
end
end IN
end Go.Proofs.YtmnmheocmcmpmaaGreat

namespace Go.Proofs.YtmnmheocmcmpmaaGreat
open Go.ChangeShapes Go.WideShapes Go.ChangeAt Go.RowKit
set_option linter.unusedVariables false
set_option linter.unusedSimpArgs false
namespace Own
section
variable {α β : Type}
theorem rows_len {c : Nat} : ∀ {r : List (List β)}, (∀ x ∈ r, x.length = c) → r.flatten.length = r.length * c
  | [], _ => by simp
  | x :: r, h => by
    rw [List.flatten_cons, List.length_append, h x (by simp), rows_len (r := r) (fun y hy => h y (List.mem_cons_of_mem _ hy)), List.length_cons, Nat.add_mul]; omega
theorem rows_get {c : Nat} : ∀ {r : List (List β)}, (∀ x ∈ r, x.length = c) → ∀ (i : Nat) (hi : i < r.length) (m : Nat), m < c → r.flatten[i * c + m]? = r[i][m]?
  | [], _, i, hi, _, _ => by simp at hi
  | x :: r, h, 0, _, m, hm => by
    rw [List.flatten_cons, Nat.zero_mul, Nat.zero_add, List.getElem?_append_left (by rw [h x (by simp)]; exact hm)]; rfl
  | x :: r, h, i + 1, hi, m, hm => by
    have hx := h x (by simp)
    have ih := rows_get (r := r) (fun y hy => h y (List.mem_cons_of_mem _ hy)) i (by simpa using hi) m hm
    rw [List.flatten_cons, List.getElem?_append_right (by rw [hx, Nat.add_mul]; omega), hx]
    rw [show (i + 1) * c + m - c = i * c + m by rw [Nat.add_mul]; omega, ih]
    rfl
theorem rows_set {c : Nat} : ∀ {r : List (List β)}, (∀ x ∈ r, x.length = c) → ∀ (i : Nat) (hi : i < r.length) (m : Nat) (u : β), m < c → r.flatten.set (i * c + m) u = (r.set i (r[i].set m u)).flatten
  | [], _, i, hi, _, _, _ => by simp at hi
  | x :: r, h, 0, _, m, u, hm => by
    have hx := h x (by simp)
    rw [List.flatten_cons, Nat.zero_mul, Nat.zero_add, List.set_append_left _ _ (by rw [hx]; exact hm)]
    rfl
  | x :: r, h, i + 1, hi, m, u, hm => by
    have hx := h x (by simp)
    have ih := rows_set (r := r) (fun y hy => h y (List.mem_cons_of_mem _ hy)) i (by simpa using hi) m u hm
    rw [List.flatten_cons, List.set_append_right _ _ (by rw [hx, Nat.add_mul]; omega), hx]
    rw [show (i + 1) * c + m - c = i * c + m by rw [Nat.add_mul]; omega, ih]
    rfl
theorem rows_take {c : Nat} : ∀ {r : List (List β)}, (∀ x ∈ r, x.length = c) → ∀ k : Nat, r.flatten.take (k * c) = (r.take k).flatten
  | [], _, k => by simp
  | x :: r, h, 0 => by simp
  | x :: r, h, k + 1 => by
    have hx := h x (by simp)
    have ih := rows_take (r := r) (fun y hy => h y (List.mem_cons_of_mem _ hy)) k
    rw [List.flatten_cons, List.take_succ_cons, List.flatten_cons, ← ih]
    rw [List.take_append, List.take_of_length_le (by rw [hx, Nat.add_mul]; omega), hx]
    rw [show (k + 1) * c - c = k * c by rw [Nat.add_mul]; omega]
theorem rows_drop {c : Nat} : ∀ {r : List (List β)}, (∀ x ∈ r, x.length = c) → ∀ k : Nat, r.flatten.drop (k * c) = (r.drop k).flatten
  | [], _, k => by simp
  | x :: r, h, 0 => by simp
  | x :: r, h, k + 1 => by
    have hx := h x (by simp)
    have ih := rows_drop (r := r) (fun y hy => h y (List.mem_cons_of_mem _ hy)) k
    rw [List.flatten_cons, List.drop_succ_cons, ← ih]
    rw [List.drop_append, List.drop_of_length_le (by rw [hx, Nat.add_mul]; omega), hx, List.nil_append]
    rw [show (k + 1) * c - c = k * c by rw [Nat.add_mul]; omega]
end
theorem cut_lo {P : Program} {t e : TypeId} {z : Value} {size bytes : Nat} (ht : P.underlying t = some (.slice e)) (hel : P.elem t = e) (hinf : Own.Info P e z size bytes) (b o n cap k : Nat) (kk : Int) (hkk : kk = k) (hk : k ≤ n) (hn : n ≤ cap) :
    ∃ ad : Addr, (∀ W : World, (Instr.slice t (.slice (some ⟨b, o, none⟩) n cap) (some (.int .i64 kk)) none none).run P W = .ok (.slice (some ad) (n - k) (cap - k)) W) ∧ ad.block = b ∧ (0 < n - k → ad = ⟨b, o + k * size, none⟩) := by
  subst hkk
  obtain ⟨i, hi, hz, hsize, hby, hzs, hsz⟩ := hinf
  have hs : ∀ W : World, (sizeOf (P.elem t)).run P W = .ok size W := fun W => by rw [hel]; simp [sizeOf, typeInfo, hi, hsize]
  by_cases hc : cap = k
  · refine ⟨⟨b, o, none⟩, fun W => ?_, rfl, fun h => by omega⟩
    have hr := run_slice_l (P := P) W t (some ⟨b, o, none⟩) n cap (by rw [hel]; exact ht) .i64 (k : Int) (by omega) (by omega)
    rw [hs] at hr
    simp only [Result.andThen, sliced, Int.toNat_natCast, if_pos hc] at hr
    exact hr
  · refine ⟨⟨b, o + k * size, none⟩, fun W => ?_, rfl, fun _ => rfl⟩
    have hr := run_slice_l (P := P) W t (some ⟨b, o, none⟩) n cap (by rw [hel]; exact ht) .i64 (k : Int) (by omega) (by omega)
    rw [hs] at hr
    simp only [Result.andThen, sliced, Int.toNat_natCast, if_neg hc, Option.map_some, Addr.add_lit] at hr
    exact hr
theorem cut_hi {P : Program} {t e : TypeId} {z : Value} {size bytes : Nat} (ht : P.underlying t = some (.slice e)) (hel : P.elem t = e) (hinf : Own.Info P e z size bytes) (a : Option Addr) (n cap k : Nat) (hk : k ≤ n) (hn : n ≤ cap) (ha : a = none ∨ ∃ b o, a = some ⟨b, o, none⟩) :
    ∀ W : World, (Instr.slice t (.slice a n cap) none (some (.int .i64 (k : Int))) none).run P W = .ok (.slice a k cap) W := by
  obtain ⟨i, hi, hz, hsize, hby, hzs, hsz⟩ := hinf
  intro W
  have hs : (sizeOf (P.elem t)).run P W = .ok size W := by rw [hel]; simp [sizeOf, typeInfo, hi, hsize]
  have hr := run_slice_h (P := P) W t a n cap (by rw [hel]; exact ht) .i64 (k : Int) (by omega) (by omega)
  rw [hs] at hr
  simp only [Result.andThen, sliced, Int.toNat_natCast, Nat.zero_mul, Nat.sub_zero] at hr
  rw [hr]
  rcases ha with rfl | ⟨b, o, rfl⟩
  · simp
  · simp [Addr.add_lit]
theorem cut_none {P : Program} {t e : TypeId} {z : Value} {size bytes : Nat} (ht : P.underlying t = some (.slice e)) (hel : P.elem t = e) (hinf : Own.Info P e z size bytes) :
    ∀ W : World, (Instr.slice t (.slice none 0 0) (some (.int .i64 0)) none none).run P W = .ok (.slice none 0 0) W := by
  obtain ⟨i, hi, hz, hsize, hby, hzs, hsz⟩ := hinf
  intro W
  have hs : (sizeOf (P.elem t)).run P W = .ok size W := by rw [hel]; simp [sizeOf, typeInfo, hi, hsize]
  have hr := run_slice_l (P := P) W t none 0 0 (by rw [hel]; exact ht) .i64 0 (by omega) (by omega)
  rw [hs] at hr
  simp only [Result.andThen, sliced, Int.toNat_zero] at hr
  rw [hr]
  simp
theorem src_take {w : World} {base e size n : Nat} {v : Value} {xs : List Value} (h : w.ownsRow base e size v n xs) {a : Option Addr} {cap : Nat} (hv : v = .slice a n cap) (k : Nat) (hk : k ≤ n) : Own.Src w size (.slice a k cap) k (xs.take (k * size)) := by
  rcases h.2 with ⟨h1, h0⟩ | ⟨g, cap', cur, h1, hb, hg, hnc, hcm, hcs, htake⟩
  · subst h0
    obtain rfl : k = 0 := by omega
    rw [hv] at h1
    simp only [Value.slice.injEq] at h1
    obtain ⟨rfl, -, rfl⟩ := h1
    exact .inl ⟨rfl, rfl, by simp⟩
  · rw [hv] at h1
    simp only [Value.slice.injEq, true_and] at h1
    obtain ⟨rfl, rfl⟩ := h1
    refine .inr ⟨_, _, rfl, by rw [List.length_take, h.1]; exact Nat.min_eq_left (Nat.mul_le_mul_right _ hk), fun j u hu => ?_⟩
    rw [Addr.add_lit, Nat.zero_add, cell_of_row w g j cur e (0, 0) hg]
    rw [List.getElem?_take] at hu
    split at hu
    · rw [← htake, List.getElem?_take] at hu
      split at hu
      · simpa using hu
      · cases hu
    · cases hu
theorem src_drop {w : World} {base e size n : Nat} {b o cap : Nat} {xs : List Value} (h : w.ownsRow base e size (.slice (some ⟨b, o, none⟩) n cap) n xs) (k : Nat) (hk : k ≤ n) (ad : Addr) (c : Nat) (had : 0 < n - k → ad = ⟨b, o + k * size, none⟩) : Own.Src w size (.slice (some ad) (n - k) c) (n - k) (xs.drop (k * size)) := by
  have hlen : (xs.drop (k * size)).length = (n - k) * size := by rw [List.length_drop, h.1, Nat.sub_mul]
  refine .inr ⟨_, _, rfl, hlen, fun j u hu => ?_⟩
  rcases Nat.eq_zero_or_pos (n - k) with h0 | h0
  · rw [h0, Nat.zero_mul] at hlen
    rw [List.eq_nil_of_length_eq_zero hlen] at hu; cases hu
  · rw [had h0]
    rcases h.2 with ⟨h1, _⟩ | ⟨g, cap', cur, h1, hb, hg, hnc, hcm, hcs, htake⟩
    · simp at h1
    · simp only [Value.slice.injEq, Option.some.injEq, Addr.mk.injEq, and_true, true_and] at h1
      obtain ⟨⟨rfl, rfl⟩, rfl⟩ := h1
      rw [Addr.add_lit, Nat.zero_add, cell_of_row w b _ cur e (0, 0) hg]
      rw [List.getElem?_drop, ← htake, List.getElem?_take] at hu
      split at hu
      · simpa using hu
      · cases hu
end Own
namespace IN
def DT (_ : Nat) (o : Obj) : Prop := (∃ c s, o = .cells c 112 s) ∨ ∃ c s, o = .cells c 131 s
structure RE where
  n : Int
  kd : Int
  lk : Int
  op : Int
  sz : Int
  st : Int
  v : Value
def rrow (x : RE) : List Value := [.int .i64 x.n, .int .i64 x.kd, .int .i64 x.lk, .int .i64 x.op, .int .i64 x.sz, .int .i64 x.st, x.v]
def rcl (q : List RE) : List Value := (q.map rrow).flatten
theorem rrows (q : List RE) : ∀ x ∈ q.map rrow, x.length = 7 := by
  intro x hx
  obtain ⟨y, -, rfl⟩ := List.mem_map.1 hx
  rfl
theorem rcl_len (q : List RE) : (rcl q).length = q.length * 7 := by unfold rcl; rw [Own.rows_len (rrows q), List.length_map]
theorem rcl_app (a b : List RE) : rcl (a ++ b) = rcl a ++ rcl b := by simp [rcl]
theorem rcl_one (x : RE) : rcl [x] = rrow x := by simp [rcl]
theorem rcl_take (q : List RE) (k : Nat) : (rcl q).take (k * 7) = rcl (q.take k) := by unfold rcl; rw [Own.rows_take (rrows q), List.map_take]
theorem rcl_drop (q : List RE) (k : Nat) : (rcl q).drop (k * 7) = rcl (q.drop k) := by unfold rcl; rw [Own.rows_drop (rrows q), List.map_drop]
theorem rcl_get (q : List RE) (i : Nat) (hi : i < q.length) (m : Nat) (hm : m < 7) : (rcl q)[i * 7 + m]? = (rrow q[i])[m]? := by
  unfold rcl; rw [Own.rows_get (rrows q) i (by simpa using hi) m hm]; simp
theorem rcl_set (q : List RE) (i : Nat) (hi : i < q.length) (m : Nat) (u : Value) (hm : m < 7) (x : RE) (hx : (rrow q[i]).set m u = rrow x) : (rcl q).set (i * 7 + m) u = rcl (q.set i x) := by
  unfold rcl
  rw [Own.rows_set (rrows q) i (by simpa using hi) m u hm, List.getElem_map, hx, List.map_set]
structure EF (w : World) (x : RE) (y : Nat × Nd) : Prop where
  n : x.n = (y.1 : Int)
  kd : x.kd = y.2.kind
  lk : x.lk = y.2.links
  op : x.op = y.2.opens
  sz : x.sz = y.2.size
  st : x.st = (EM.cnt y.2.l : Int)
  v : XE w x.v y.2.l
def Fits (w : World) : List RE → List (Nat × Nd) → Prop
  | [], [] => True
  | x :: q, y :: l => EF w x y ∧ Fits w q l
  | _, _ => False
section
variable {w w' : World}
theorem Fits.len : ∀ {q : List RE} {l : List (Nat × Nd)}, Fits w q l → q.length = l.length
  | [], [], _ => rfl
  | x :: q, y :: l, h => by rw [List.length_cons, List.length_cons, Fits.len h.2]
  | [], y :: l, h => h.elim
  | x :: q, [], h => h.elim
theorem Fits.app : ∀ {q : List RE} {l : List (Nat × Nd)} {q' : List RE} {l' : List (Nat × Nd)}, Fits w q l → Fits w q' l' → Fits w (q ++ q') (l ++ l')
  | [], [], _, _, _, h' => h'
  | x :: q, y :: l, _, _, h, h' => ⟨h.1, Fits.app h.2 h'⟩
  | [], y :: l, _, _, h, _ => h.elim
  | x :: q, [], _, _, h, _ => h.elim
theorem Fits.take : ∀ {q : List RE} {l : List (Nat × Nd)} (k : Nat), Fits w q l → Fits w (q.take k) (l.take k)
  | _, _, 0, _ => by rw [List.take_zero, List.take_zero]; trivial
  | [], [], k + 1, _ => trivial
  | x :: q, y :: l, k + 1, h => ⟨h.1, Fits.take k h.2⟩
  | [], y :: l, k + 1, h => h.elim
  | x :: q, [], k + 1, h => h.elim
theorem Fits.drop : ∀ {q : List RE} {l : List (Nat × Nd)} (k : Nat), Fits w q l → Fits w (q.drop k) (l.drop k)
  | _, _, 0, h => h
  | [], [], k + 1, _ => trivial
  | x :: q, y :: l, k + 1, h => Fits.drop k h.2
  | [], y :: l, k + 1, h => h.elim
  | x :: q, [], k + 1, h => h.elim
theorem Fits.set : ∀ {q : List RE} {l : List (Nat × Nd)} (i : Nat) {x : RE} {y : Nat × Nd}, Fits w q l → EF w x y → Fits w (q.set i x) (l.set i y)
  | [], [], _, _, _, _, _ => trivial
  | a :: q, b :: l, 0, _, _, h, hx => ⟨hx, h.2⟩
  | a :: q, b :: l, i + 1, _, _, h, hx => ⟨h.1, Fits.set i h.2 hx⟩
  | [], y :: l, _, _, _, h, _ => h.elim
  | x :: q, [], _, _, _, h, _ => h.elim
theorem Fits.at_ : ∀ {q : List RE} {l : List (Nat × Nd)} (i : Nat) (hi : i < q.length) (hl : i < l.length), Fits w q l → EF w q[i] l[i]
  | x :: q, y :: l, 0, _, _, h => h.1
  | x :: q, y :: l, i + 1, hi, hl, h => Fits.at_ i (by simpa using hi) (by simpa using hl) h.2
theorem EF.move {x : RE} {y : Nat × Nd} (h : EF w x y) (hk : ∀ (b : Nat) cur, w.heap[b]? = some (.cells cur 245 (0, 0)) → w'.heap[b]? = w.heap[b]?) : EF w' x y := ⟨h.n, h.kd, h.lk, h.op, h.sz, h.st, h.v.move hk⟩
theorem Fits.move : ∀ {q : List RE} {l : List (Nat × Nd)}, Fits w q l → (∀ (b : Nat) cur, w.heap[b]? = some (.cells cur 245 (0, 0)) → w'.heap[b]? = w.heap[b]?) → Fits w' q l
  | [], [], _, _ => trivial
  | x :: q, y :: l, h, hk => ⟨h.1.move hk, Fits.move h.2 hk⟩
  | [], y :: l, h, _ => h.elim
  | x :: q, [], h, _ => h.elim
theorem Fits.keep {q : List RE} {l : List (Nat × Nd)} (h : Fits w q l) (hb : Below w.heap.size w w') : Fits w' q l := h.move fun b cur hc => hb.block b (lt_of_some hc)
theorem Fits.keeps {q : List RE} {l : List (Nat × Nd)} (h : Fits w q l) {B : Nat} {T : Nat → Obj → Prop} (hK : Keeps B T w w') (hT : ∀ k c, ¬ T k (.cells c 245 (0, 0))) : Fits w' q l := h.move fun b cur hb => (hK.block b _ hb (hT b cur)).trans hb.symm
theorem rrow_one {x : RE} (hv : x.v.oneCell' = true) : ∀ u ∈ rrow x, u.oneCell' = true := by
  intro u hu
  simp only [rrow, List.mem_cons, List.not_mem_nil, or_false] at hu
  rcases hu with rfl | rfl | rfl | rfl | rfl | rfl | rfl <;> first | rfl | exact hv
theorem XE.one {v : Value} {l : List (Int × ByteArray)} (h : XE w v l) : v.oneCell' = true := by
  obtain ⟨ao, n, c, rfl, -⟩ := h
  rfl
theorem Fits.one {q : List RE} {l : List (Nat × Nd)} (h : Fits w q l) : ∀ u ∈ rcl q, u.oneCell' = true := by
  induction q generalizing l with
  | nil => intro u hu; simp [rcl] at hu
  | cons x q ih =>
    cases l with
    | nil => exact h.elim
    | cons y l =>
      intro u hu
      have e : rcl (x :: q) = rrow x ++ rcl q := by simp [rcl]
      rw [e, List.mem_append] at hu
      rcases hu with hu | hu
      · exact rrow_one h.1.v.one u hu
      · exact ih h.2 u hu
end
theorem info_ino : Own.Info Tryz.prog 131 (.agg #[.int .i64 0, .int .i64 0, .int .i64 0, .int .i64 0, .int .i64 0, .int .i64 0, .slice none 0 0]) 7 72 := Own.info_of (by kernel_rfl) rfl (by decide)
theorem elem_ino : Tryz.prog.elem 110 = 131 := by kernel_rfl
structure RM (base : Nat) (w : World) (rg : Nat) (I B L z3 z4 z5 z6 : Int) (v : Value) (q : List RE) : Prop where
  box : Blk w rg 112 [.int .i64 I, .int .i64 B, .int .i64 L, .int .i64 z3, .int .i64 z4, .int .i64 z5, .int .i64 z6, v]
  row : w.ownsRow base 131 7 v q.length (rcl q)
  ge : base ≤ rg
section
variable {base : Nat} {w w' : World} {rg : Nat} {I B L z3 z4 z5 z6 : Int} {v : Value} {q : List RE}
theorem RM.low (h : RM base w rg I B L z3 z4 z5 z6 v q) : base ≤ w.heap.size := Nat.le_trans h.ge (Nat.le_of_lt h.box.lt)
theorem RM.keep (h : RM base w rg I B L z3 z4 z5 z6 v q) (hb : Below w.heap.size w w') : RM base w' rg I B L z3 z4 z5 z6 v q := ⟨h.box.keep hb, Own.below h.row hb, h.ge⟩
theorem RM.keeps (h : RM base w rg I B L z3 z4 z5 z6 v q) {C : Nat} {T : Nat → Obj → Prop} (hK : Keeps C T w w') (h1 : ∀ k c s, ¬ T k (.cells c 112 s)) (h2 : ∀ k c s, ¬ T k (.cells c 131 s)) : RM base w' rg I B L z3 z4 z5 z6 v q := by
  refine ⟨hK.block _ _ h.box (h1 _ _ _), ?_, h.ge⟩
  rcases h.row.2 with h0 | ⟨g, cap, cur, e1, e2, e3, e4⟩
  · exact ⟨h.row.1, .inl h0⟩
  · exact ⟨h.row.1, .inr ⟨g, cap, cur, e1, e2, hK.block _ _ e3 (h2 _ _ _), e4⟩⟩
theorem RM.el (h : RM base w rg I B L z3 z4 z5 z6 v q) {i : Nat} (hi : i < q.length) : ∃ g cap, v = .slice (some ⟨g, 0, none⟩) q.length cap ∧ base ≤ g ∧ g < w.heap.size ∧ g ≠ rg ∧ q.length ≤ cap ∧ cap ≤ maxLen ∧ (∀ j, w.frozen? ⟨g, j, none⟩ = false) ∧ ∀ m u, (rrow q[i])[m]? = some u → w.cell? ⟨g, i * 7 + m, none⟩ = some u := by
  have hr := h.row
  rcases hr.2 with ⟨rfl, h0⟩ | ⟨g, cap, cur, rfl, hb, hg, h1, h2, h3, h4⟩
  · omega
  · refine ⟨g, cap, rfl, hb, lt_of_some hg, ?_, h1, h2, fun j => hr.frozenAt j, fun m u hu => ?_⟩
    · rintro rfl
      have hx := h.box
      unfold Blk at hx
      rw [hx] at hg
      simp only [Option.some.injEq, Obj.cells.injEq] at hg
      exact absurd hg.2.1 (by decide)
    · have hm : m < 7 := by
        rcases Nat.lt_or_ge m 7 with hlt | hge
        · exact hlt
        · rw [List.getElem?_eq_none (by simp [rrow]; omega)] at hu; cases hu
      have := hr.cells (g := g) rfl (i * 7 + m) u (by rw [rcl_get q i hi m hm]; exact hu)
      rw [Addr.add_lit, Nat.zero_add] at this
      exact this
theorem RM.set {g cap N : Nat} (h : RM base w rg I B L z3 z4 z5 z6 (.slice (some ⟨g, 0, none⟩) N cap) q) (hN : q.length = N) {i : Nat} (hi : i < q.length) (m : Nat) (u : Value) (hm : m < 7) (x : RE) (hx : (rrow q[i]).set m u = rrow x) :
    RM base (w.setCell ⟨g, i * 7 + m, none⟩ u) rg I B L z3 z4 z5 z6 (.slice (some ⟨g, 0, none⟩) N cap) (q.set i x) ∧ Keeps base DT w (w.setCell ⟨g, i * 7 + m, none⟩ u) := by
  subst hN
  obtain ⟨g', cap', e, hb, hlt, hne, -⟩ := h.el hi
  simp only [Value.slice.injEq, Option.some.injEq, Addr.mk.injEq, and_true, true_and] at e
  obtain ⟨rfl, rfl⟩ := e
  have hs := (h.row.stored (i * 7 + m) u).1
  rw [rcl_set q i hi m u hm x hx] at hs
  refine ⟨⟨h.box.far (p := ⟨g, i * 7 + m, none⟩) (fun e => hne e.symm) u, by rw [List.length_set]; exact hs, h.ge⟩, ?_⟩
  rcases h.row.2 with ⟨e, _⟩ | ⟨g', cap', cur, e, _, hg, _⟩
  · simp at e
  · simp only [Value.slice.injEq, Option.some.injEq, Addr.mk.injEq, and_true, true_and] at e
    obtain ⟨rfl, rfl⟩ := e
    exact (Keeps.refl base DT w).setCell (p := ⟨g, i * 7 + m, none⟩) hg (.inr ⟨_, _, rfl⟩) hb u
theorem RM.newRow {w1 : World} (h : RM base w rg I B L z3 z4 z5 z6 v q) (hb : Below w.heap.size w w1) {v' : Value} {q' : List RE} (ho : w1.ownsRow w.heap.size 131 7 v' q'.length (rcl q')) :
    RM base (w1.setCell ⟨rg, 7, none⟩ v') rg I B L z3 z4 z5 z6 v' q' ∧ Keeps base DT w (w1.setCell ⟨rg, 7, none⟩ v') := by
  have h1 := h.keep hb
  have hlt := h.box.lt
  refine ⟨⟨h1.box.set 7 v', Own.low h.low (Own.set ho (p := ⟨rg, 7, none⟩) hlt v'), h.ge⟩, ?_⟩
  exact (Keeps.new hb h.low).trans ((Keeps.refl base DT w1).setCell (p := ⟨rg, 7, none⟩) h1.box (.inl ⟨_, _, rfl⟩) h.ge v')
end
def RS (base : Nat) (w : World) (rg : Nat) (I B L : Int) (l : List (Nat × Nd)) : Prop := ∃ z3 z4 z5 z6 v q, RM base w rg I B L z3 z4 z5 z6 v q ∧ Fits w q l
section
variable {base : Nat} {w w' : World} {rg : Nat} {I B L : Int} {l : List (Nat × Nd)}
theorem RS.keep (h : RS base w rg I B L l) (hb : Below w.heap.size w w') : RS base w' rg I B L l := by
  obtain ⟨z3, z4, z5, z6, v, q, h1, h2⟩ := h
  exact ⟨z3, z4, z5, z6, v, q, h1.keep hb, h2.keep hb⟩
theorem RS.keeps (h : RS base w rg I B L l) {C : Nat} {T : Nat → Obj → Prop} (hK : Keeps C T w w') (h1 : ∀ k c s, ¬ T k (.cells c 112 s)) (h2 : ∀ k c s, ¬ T k (.cells c 131 s)) (h3 : ∀ k c, ¬ T k (.cells c 245 (0, 0))) : RS base w' rg I B L l := by
  obtain ⟨z3, z4, z5, z6, v, q, k1, k2⟩ := h
  exact ⟨z3, z4, z5, z6, v, q, k1.keeps hK h1 h2, k2.keeps hK h3⟩
theorem RS.low (h : RS base w rg I B L l) : base ≤ w.heap.size := by obtain ⟨_, _, _, _, _, _, h1, _⟩ := h; exact h1.low
end
theorem RS.other {base : Nat} {w w' : World} {rg C mb : Nat} {I B L : Int} {l : List (Nat × Nd)} (h : RS base w rg I B L l) (hK : Keeps C (PT mb) w w') : RS base w' rg I B L l :=
  h.keeps hK (by simp [PT]) (by simp [PT]) (by simp [PT])
theorem PS.other {base : Nat} {w w' : World} {sg mb I L B k C : Nat} {M : Int → Option Nat} {S : Int → Option Nd} (h : PS base w sg mb M I L B k S) (hK : Keeps C DT w w') : PS base w' sg mb M I L B k S :=
  h.keeps hK (by simp [DT]) (by simp [DT]) (by simp [DT]) (by simp [DT])
def ROut (base rg : Nat) (I B L : Int) (w : World) (r : Int) (l : List (Nat × Nd)) (e : Ending) (w' : World) : Prop := e = .returned (.int .i64 r) ∧ RS base w' rg I B L l ∧ Keeps base DT w w'
/-! Lists of inodes, and places. -/
section
variable {I L B k : Nat} {S : Int → Option Nd}
theorem pl_none {n : Int} (hf : Fine I L B k S) (hS : S n = none) : ∀ j (hj : j < (lst S I).length), ((lst S I)[j].1 : Int) ≠ n := by
  intro j hj e
  have := (mem_lst.1 (List.getElem_mem hj)).2.2
  rw [e, hS] at this; cases this
theorem pl_some {n : Int} {d : Nd} (hf : Fine I L B k S) (hS : S n = some d) : ∃ (p m : Nat), n = (m : Int) ∧ 1 ≤ m ∧ m ≤ I ∧ p < (lst S I).length ∧ (∀ hp : p < (lst S I).length, (lst S I)[p] = (m, d)) ∧ (∀ j (hj : j < (lst S I).length), j < p → ((lst S I)[j].1 : Int) ≠ n) ∧
    (∀ d', lst (upd S n (some d')) I = (lst S I).set p (m, d')) ∧ lst (upd S n none) I = (lst S I).take p ++ (lst S I).drop (p + 1) := by
  have hb := hf.num n (by rw [hS]; simp)
  obtain ⟨m, rfl⟩ : ∃ m : Nat, n = m := ⟨n.toNat, by omega⟩
  have h1 : 1 ≤ m := by omega
  have h2 : m ≤ I := by omega
  have hsp := split S m I h1 h2
  rw [hS] at hsp
  simp only [Option.map_some, Option.toList_some] at hsp
  have hlen : (lo S m).length < (lst S I).length := by rw [hsp]; simp
  have hat : ∀ hp : (lo S m).length < (lst S I).length, (lst S I)[(lo S m).length] = (m, d) := fun hp => by
    simp only [hsp]
    rw [List.getElem_append_left (by simp), List.getElem_append_right (Nat.le_refl _)]
    simp
  refine ⟨(lo S m).length, m, rfl, h1, h2, hlen, hat, fun j hj hjp => ?_, fun d' => ?_, ?_⟩
  · have := List.pairwise_iff_getElem.1 (lst_rise S I) j _ hj hlen hjp
    rw [hat hlen] at this
    simp only at this
    omega
  · rw [lst_upd S m I _ h1 h2, hsp]
    simp only [Option.map_some, Option.toList_some]
    rw [List.set_append_left _ _ (by simp), List.set_append_right _ _ (Nat.le_refl _)]
    simp
  · rw [lst_upd S m I _ h1 h2, hsp]
    simp only [Option.map_none, Option.toList_none, List.append_nil]
    rw [List.append_assoc (lo S m), List.take_left', List.drop_append]
    · simp
    · rfl
theorem pl_new {m : Nat} {d : Nd} (h1 : 1 ≤ m) (h2 : m ≤ I) (hS : S (m : Int) = none) : lst (upd S (m : Int) (some d)) I = (lst S I).take (lo S m).length ++ (m, d) :: (lst S I).drop (lo S m).length := by
  have hsp := split S m I h1 h2
  rw [hS] at hsp
  simp only [Option.map_none, Option.toList_none, List.append_nil] at hsp
  rw [lst_upd S m I _ h1 h2, hsp]
  simp
end
end IN
namespace RN
open IN (Keeps)
structure DD where
  ino : Int
  up : Int
  l : List (ByteArray × Int × Int)
structure QE where
  ino : Int
  up : Int
  v : Value
def qrow (x : QE) : List Value := [.int .i64 x.ino, .int .i64 x.up, x.v]
def qcl (q : List QE) : List Value := (q.map qrow).flatten
theorem qrows (q : List QE) : ∀ x ∈ q.map qrow, x.length = 3 := by
  intro x hx
  obtain ⟨y, -, rfl⟩ := List.mem_map.1 hx
  rfl
theorem qcl_app (a b : List QE) : qcl (a ++ b) = qcl a ++ qcl b := by simp [qcl]
theorem qcl_one (x : QE) : qcl [x] = qrow x := by simp [qcl]
theorem qcl_take (q : List QE) (k : Nat) : (qcl q).take (k * 3) = qcl (q.take k) := by unfold qcl; rw [Own.rows_take (qrows q), List.map_take]
theorem qcl_drop (q : List QE) (k : Nat) : (qcl q).drop (k * 3) = qcl (q.drop k) := by unfold qcl; rw [Own.rows_drop (qrows q), List.map_drop]
theorem qcl_get (q : List QE) (i : Nat) (hi : i < q.length) (m : Nat) (hm : m < 3) : (qcl q)[i * 3 + m]? = (qrow q[i])[m]? := by
  unfold qcl; rw [Own.rows_get (qrows q) i (by simpa using hi) m hm]; simp
theorem qcl_set (q : List QE) (i : Nat) (hi : i < q.length) (m : Nat) (u : Value) (hm : m < 3) (x : QE) (hx : (qrow q[i]).set m u = qrow x) : (qcl q).set (i * 3 + m) u = qcl (q.set i x) := by
  unfold qcl
  rw [Own.rows_set (qrows q) i (by simpa using hi) m u hm]
  congr 1
  rw [List.map_set, List.getElem_map, hx]
def krow (x : ByteArray × Int × Int) : List Value := [.string x.1, .int .i64 x.2.1, .int .i64 x.2.2]
def kcl (l : List (ByteArray × Int × Int)) : List Value := (l.map krow).flatten
theorem krows (l : List (ByteArray × Int × Int)) : ∀ x ∈ l.map krow, x.length = 3 := by
  intro x hx
  obtain ⟨y, -, rfl⟩ := List.mem_map.1 hx
  rfl
theorem kcl_len (l : List (ByteArray × Int × Int)) : (kcl l).length = l.length * 3 := by unfold kcl; rw [Own.rows_len (krows l), List.length_map]
theorem kcl_app (a b : List (ByteArray × Int × Int)) : kcl (a ++ b) = kcl a ++ kcl b := by simp [kcl]
theorem kcl_one (x : ByteArray × Int × Int) : kcl [x] = krow x := by simp [kcl]
theorem kcl_take (l : List (ByteArray × Int × Int)) (k : Nat) : (kcl l).take (k * 3) = kcl (l.take k) := by unfold kcl; rw [Own.rows_take (krows l), List.map_take]
theorem kcl_drop (l : List (ByteArray × Int × Int)) (k : Nat) : (kcl l).drop (k * 3) = kcl (l.drop k) := by unfold kcl; rw [Own.rows_drop (krows l), List.map_drop]
theorem kcl_get (l : List (ByteArray × Int × Int)) (i : Nat) (hi : i < l.length) (m : Nat) (hm : m < 3) : (kcl l)[i * 3 + m]? = (krow l[i])[m]? := by
  unfold kcl; rw [Own.rows_get (krows l) i (by simpa using hi) m hm]; simp
def NE (w : World) (v : Value) (l : List (ByteArray × Int × Int)) : Prop := ∃ b, w.ownsRow b 133 3 v l.length (kcl l)
structure QF (w : World) (x : QE) (y : DD) : Prop where
  ino : x.ino = y.ino
  up : x.up = y.up
  v : NE w x.v y.l
def Fit (w : World) : List QE → List DD → Prop
  | [], [] => True
  | x :: q, y :: l => QF w x y ∧ Fit w q l
  | _, _ => False
section
variable {w w' : World}
theorem NE.move {v : Value} {l : List (ByteArray × Int × Int)} (h : NE w v l) (hk : ∀ (b : Nat) cur, w.heap[b]? = some (.cells cur 133 (0, 0)) → w'.heap[b]? = w.heap[b]?) : NE w' v l := by
  obtain ⟨b, hr⟩ := h
  refine ⟨b, hr.1, ?_⟩
  rcases hr.2 with h0 | ⟨g, cap, cur, e1, e2, e3, e4⟩
  · exact .inl h0
  · exact .inr ⟨g, cap, cur, e1, e2, (hk g _ e3).trans e3, e4⟩
theorem QF.move {x : QE} {y : DD} (h : QF w x y) (hk : ∀ (b : Nat) cur, w.heap[b]? = some (.cells cur 133 (0, 0)) → w'.heap[b]? = w.heap[b]?) : QF w' x y := ⟨h.ino, h.up, h.v.move hk⟩
theorem Fit.move : ∀ {q : List QE} {l : List DD}, Fit w q l → (∀ (b : Nat) cur, w.heap[b]? = some (.cells cur 133 (0, 0)) → w'.heap[b]? = w.heap[b]?) → Fit w' q l
  | [], [], _, _ => trivial
  | x :: q, y :: l, h, hk => ⟨h.1.move hk, Fit.move h.2 hk⟩
  | [], y :: l, h, _ => h.elim
  | x :: q, [], h, _ => h.elim
theorem Fit.keep {q : List QE} {l : List DD} (h : Fit w q l) (hb : Below w.heap.size w w') : Fit w' q l := h.move fun b cur hc => hb.block b (IN.lt_of_some hc)
theorem Fit.keeps {q : List QE} {l : List DD} (h : Fit w q l) {B : Nat} {T : Nat → Obj → Prop} (hK : Keeps B T w w') (hT : ∀ k c, ¬ T k (.cells c 133 (0, 0))) : Fit w' q l := h.move fun b cur hb => (hK.block b _ hb (hT b cur)).trans hb.symm
theorem Fit.len : ∀ {q : List QE} {l : List DD}, Fit w q l → q.length = l.length
  | [], [], _ => rfl
  | x :: q, y :: l, h => by rw [List.length_cons, List.length_cons, Fit.len h.2]
  | [], y :: l, h => h.elim
  | x :: q, [], h => h.elim
theorem Fit.app : ∀ {q : List QE} {l : List DD} {q' : List QE} {l' : List DD}, Fit w q l → Fit w q' l' → Fit w (q ++ q') (l ++ l')
  | [], [], _, _, _, h' => h'
  | x :: q, y :: l, _, _, h, h' => ⟨h.1, Fit.app h.2 h'⟩
  | [], y :: l, _, _, h, _ => h.elim
  | x :: q, [], _, _, h, _ => h.elim
theorem Fit.take : ∀ {q : List QE} {l : List DD} (k : Nat), Fit w q l → Fit w (q.take k) (l.take k)
  | _, _, 0, _ => by rw [List.take_zero, List.take_zero]; trivial
  | [], [], k + 1, _ => trivial
  | x :: q, y :: l, k + 1, h => ⟨h.1, Fit.take k h.2⟩
  | [], y :: l, k + 1, h => h.elim
  | x :: q, [], k + 1, h => h.elim
theorem Fit.drop : ∀ {q : List QE} {l : List DD} (k : Nat), Fit w q l → Fit w (q.drop k) (l.drop k)
  | _, _, 0, h => h
  | [], [], k + 1, _ => trivial
  | x :: q, y :: l, k + 1, h => Fit.drop k h.2
  | [], y :: l, k + 1, h => h.elim
  | x :: q, [], k + 1, h => h.elim
theorem Fit.set : ∀ {q : List QE} {l : List DD} (i : Nat) {x : QE} {y : DD}, Fit w q l → QF w x y → Fit w (q.set i x) (l.set i y)
  | [], [], _, _, _, _, _ => trivial
  | a :: q, b :: l, 0, _, _, h, hx => ⟨hx, h.2⟩
  | a :: q, b :: l, i + 1, _, _, h, hx => ⟨h.1, Fit.set i h.2 hx⟩
  | [], y :: l, _, _, _, h, _ => h.elim
  | x :: q, [], _, _, _, h, _ => h.elim
theorem Fit.at_ : ∀ {q : List QE} {l : List DD} (i : Nat) (hi : i < q.length) (hl : i < l.length), Fit w q l → QF w q[i] l[i]
  | x :: q, y :: l, 0, _, _, h => h.1
  | x :: q, y :: l, i + 1, hi, hl, h => Fit.at_ i (by simpa using hi) (by simpa using hl) h.2
end
structure DM (base : Nat) (w : World) (rt rg : Nat) (v : Value) (q : List QE) : Prop where
  box : Blk w rt 118 [.pointer (some ⟨rg, 0, none⟩), v]
  row : w.ownsRow base 115 3 v q.length (qcl q)
  ge : base ≤ rt
section
variable {base : Nat} {w w' : World} {rt rg : Nat} {v : Value} {q : List QE}
theorem DM.low (h : DM base w rt rg v q) : base ≤ w.heap.size := Nat.le_trans h.ge (Nat.le_of_lt h.box.lt)
theorem DM.keep (h : DM base w rt rg v q) (hb : Below w.heap.size w w') : DM base w' rt rg v q := ⟨h.box.keep hb, Own.below h.row hb, h.ge⟩
theorem DM.keeps (h : DM base w rt rg v q) {C : Nat} {T : Nat → Obj → Prop} (hK : Keeps C T w w') (h1 : ∀ k c s, ¬ T k (.cells c 118 s)) (h2 : ∀ k c s, ¬ T k (.cells c 115 s)) : DM base w' rt rg v q := by
  refine ⟨hK.block _ _ h.box (h1 _ _ _), ?_, h.ge⟩
  rcases h.row.2 with h0 | ⟨g, cap, cur, e1, e2, e3, e4⟩
  · exact ⟨h.row.1, .inl h0⟩
  · exact ⟨h.row.1, .inr ⟨g, cap, cur, e1, e2, hK.block _ _ e3 (h2 _ _ _), e4⟩⟩
theorem DM.el (h : DM base w rt rg v q) {i : Nat} (hi : i < q.length) : ∃ g cap, v = .slice (some ⟨g, 0, none⟩) q.length cap ∧ base ≤ g ∧ g < w.heap.size ∧ g ≠ rt ∧ q.length ≤ cap ∧ cap ≤ maxLen ∧ (∀ j, w.frozen? ⟨g, j, none⟩ = false) ∧ w.cell? ⟨g, i * 3, none⟩ = some (.int .i64 q[i].ino) ∧ w.cell? ⟨g, i * 3 + 1, none⟩ = some (.int .i64 q[i].up) ∧ w.cell? ⟨g, i * 3 + 2, none⟩ = some q[i].v := by
  have hr := h.row
  rcases hr.2 with ⟨rfl, h0⟩ | ⟨g, cap, cur, rfl, hb, hg, h1, h2, h3, h4⟩
  · omega
  · have hc : ∀ m u, m < 3 → (qrow q[i])[m]? = some u → w.cell? ⟨g, i * 3 + m, none⟩ = some u := fun m u hm hu => by
      have := hr.cells (g := g) rfl (i * 3 + m) u (by rw [qcl_get q i hi m hm]; exact hu)
      rw [Addr.add_lit, Nat.zero_add] at this
      exact this
    refine ⟨g, cap, rfl, hb, IN.lt_of_some hg, ?_, h1, h2, fun j => hr.frozenAt j, hc 0 _ (by decide) rfl, hc 1 _ (by decide) rfl, hc 2 _ (by decide) rfl⟩
    rintro rfl
    have hx := h.box
    unfold Blk at hx
    rw [hx] at hg
    simp only [Option.some.injEq, Obj.cells.injEq] at hg
    exact absurd hg.2.1 (by decide)
def ix : List DD → Int → Nat
  | [], _ => 0
  | x :: l, n => if x.ino = n then 0 else ix l n + 1
theorem ix_le : ∀ (l : List DD) (n : Int), ix l n ≤ l.length
  | [], _ => Nat.le_refl _
  | x :: l, n => by
    unfold ix
    split
    · omega
    · have := ix_le l n
      rw [List.length_cons]; omega
theorem ix_at : ∀ (l : List DD) (n : Int) (h : ix l n < l.length), l[ix l n].ino = n
  | [], n, h => by cases h
  | x :: l, n, h => by
    by_cases e : x.ino = n
    · have : ix (x :: l) n = 0 := by simp [ix, e]
      simp only [this, List.getElem_cons_zero, e]
    · have h2 : ix (x :: l) n = ix l n + 1 := by simp [ix, e]
      rw [h2, List.length_cons] at h
      simp only [h2, List.getElem_cons_succ]
      exact ix_at l n (by omega)
theorem ix_ne : ∀ (l : List DD) (n : Int) (j : Nat) (hj : j < l.length), j < ix l n → l[j].ino ≠ n
  | [], n, j, hj, _ => by cases hj
  | x :: l, n, j, hj, h => by
    by_cases e : x.ino = n
    · have : ix (x :: l) n = 0 := by simp [ix, e]
      omega
    · have h2 : ix (x :: l) n = ix l n + 1 := by simp [ix, e]
      cases j with
      | zero => exact e
      | succ j =>
        simp only [List.getElem_cons_succ]
        exact ix_ne l n j (by rw [List.length_cons] at hj; omega) (by omega)
def dirA (l : List DD) (n : Int) : Int := if ix l n < l.length then (ix l n : Int) else -1
set_option maxRecDepth 100000 in
set_option maxHeartbeats 4000000 in
theorem rdir_core (n : Int) (h : DM base w rt rg v q) (K : Nat) (hK : K ≤ q.length) (hne : ∀ j (hj : j < q.length), j < K → q[j].ino ≠ n) (heq : ∀ hj : K < q.length, q[K].ino = n) (hlen : q.length ≤ 100000) :
    Calls Tryz.prog 128 #[.pointer (some ⟨rt, 0, none⟩), .int .i64 n] w fun e w' => e = .returned (.int .i64 (if K < q.length then (K : Int) else -1)) ∧ w = w' := by
  have c1 := h.box.cell (j := 1) rfl
  obtain ⟨ao, cap, hv⟩ := Own.form h.row
  have hE := W_hid (fun i (hi : i < q.length) => h.el hi)
  rw [hv] at hE
  subst hv
  obtain ⟨N, hN⟩ : ∃ N, q.length = N := ⟨_, rfl⟩
  rw [hN] at c1 hK hlen ⊢
  replace hN := W_hid hN
  replace hne := W_hid hne
  replace heq := W_hid heq
  clear h
  go_enter Tryz.func128, Tryz.ntmps128
  go_wp2_with fail
  go_loopw [5] (fun i wr => ∃ k : Nat, k ≤ K ∧ i = .int .i64 (k : Int) ∧ w = wr) (fun i _ => N - (intOf i).toNat)
  case atStart => exact ⟨0, Nat.zero_le _, rfl, rfl⟩
  case round =>
    obtain ⟨k, hk, rfl, hwr⟩ := hrel
    subst hwr
    by_cases hlt : k < N
    · have hkq : k < q.length := by rw [hN.out]; exact hlt
      obtain ⟨g, cap', hv, -, -, -, -, -, -, e0, -⟩ := hE.out k hkq
      simp only [Value.slice.injEq] at hv
      obtain ⟨rfl, -, -⟩ := hv
      by_cases hkK : k < K
      · have hx := hne.out k hkq hkK
        obtain ⟨a, ha⟩ : ∃ a, q[k].ino = a := ⟨_, rfl⟩
        rw [ha] at e0 hx
        clear ha hkq
        go_wp2_with fail
        go_roundw
        case rel => exact ⟨k + 1, by omega, by go_num, by first | trivial | rfl⟩
        case measure => simp [intOf]; omega
      · obtain rfl : k = K := by omega
        have hx := heq.out hkq
        rw [hx] at e0
        clear hx hkq
        go_wp2_with fail
        go_ret
        exact ⟨rfl, by first | trivial | rfl⟩
    · obtain rfl : k = K := by omega
      have hkN : k = N := by omega
      replace hkN := W_hid hkN
      have hge : (N : Int) ≤ (k : Int) := by omega
      go_wp2_with fail
      go_ret
      exact ⟨rfl, by first | trivial | rfl⟩
theorem rdir_any (n : Int) {l : List DD} (h : DM base w rt rg v q) (hF : Fit w q l) (hlen : l.length ≤ 100000) :
    Calls Tryz.prog 128 #[.pointer (some ⟨rt, 0, none⟩), .int .i64 n] w fun e w' => e = .returned (.int .i64 (dirA l n)) ∧ w = w' := by
  have hql := hF.len
  have := rdir_core n h (ix l n) (by rw [hql]; exact ix_le l n) (fun j hj hK => by rw [(hF.at_ j hj (by omega)).ino]; exact ix_ne l n j _ hK) (fun hj => by rw [(hF.at_ _ hj (by omega)).ino]; exact ix_at l n _) (by omega)
  unfold dirA
  rw [hql] at this
  exact this
set_option maxRecDepth 100000 in
set_option maxHeartbeats 1000000 in
theorem rdots_any (k : ByteArray) (w : World) : Calls Tryz.prog 131 #[.string k] w fun e w' => e = .returned (.bool (decide (k = PM.dot ∨ k = PM.dots))) ∧ w = w' := by
  by_cases h1 : k = PM.dot
  · have e1 := dot_yes h1
    rw [decide_eq_true (.inl h1)]
    clear h1
    go_enter Tryz.func131, Tryz.ntmps131
    go_wp2_with fail
    go_ret
    exact ⟨rfl, rfl⟩
  · obtain ⟨e1, e2⟩ := dot_no h1
    by_cases h2 : k = PM.dots
    · have e3 := dots_yes h2
      rw [decide_eq_true (.inr h2)]
      clear h1 h2
      go_enter Tryz.func131, Tryz.ntmps131
      go_wp2_with fail
      go_ret
      exact ⟨rfl, rfl⟩
    · obtain ⟨e3, e4⟩ := dots_no h2
      rw [decide_eq_false (fun h => h.elim h1 h2)]
      clear h1 h2
      go_enter Tryz.func131, Tryz.ntmps131
      go_wp2_with fail
      go_ret
      exact ⟨rfl, rfl⟩
end
end RN
theorem info_str : (Tryz.prog.info? 9).map (fun i => (i.zero, i.size, i.bytes)) = some (some (.string ByteArray.empty), 1, 16) := by kernel_rfl
def scl (l : List ByteArray) : List Value := l.map Value.string
theorem scl_length (l : List ByteArray) : (scl l).length = l.length := by simp [scl]
theorem scl_append (a b : List ByteArray) : scl (a ++ b) = scl a ++ scl b := by simp [scl]
theorem scl_get (l : List ByteArray) (j : Nat) : (scl l)[j]? = (l[j]?).map Value.string := by simp [scl]
def PB (w : World) (g : Nat) (a : Bool) (v : Value) (d : Bool) : Prop := w.heap[g]? = some (.cells #[.bool a, v, .bool d] 136 (0, 0))
section
variable {w w' : World} {g : Nat} {a d : Bool} {v : Value}
theorem PB.c0 (h : PB w g a v d) : w.cell? ⟨g, 0, none⟩ = some (.bool a) := by rw [cell_of_row w g 0 _ _ _ h]; rfl
theorem PB.c1 (h : PB w g a v d) : w.cell? ⟨g, 1, none⟩ = some v := by rw [cell_of_row w g 1 _ _ _ h]; rfl
theorem PB.c2 (h : PB w g a v d) : w.cell? ⟨g, 2, none⟩ = some (.bool d) := by rw [cell_of_row w g 2 _ _ _ h]; rfl
theorem PB.fz (h : PB w g a v d) (i : Nat) : w.frozen? ⟨g, i, none⟩ = false := by unfold PB at h; simp [World.frozen?, h]
theorem PB.lt (h : PB w g a v d) : g < w.heap.size := by
  rcases Nat.lt_or_ge g w.heap.size with hlt | hge
  · exact hlt
  · unfold PB at h; rw [Array.getElem?_eq_none hge] at h; cases h
theorem PB.below {B : Nat} (h : PB w g a v d) (hb : Below B w w') (hg : g < B) : PB w' g a v d := (hb.block g hg).trans h
theorem PB.alloc (h : PB w g a v d) (o : Obj) : PB (w.alloc o) g a v d := (Below.heap_alloc w o g h.lt).trans h
theorem PB.grown {row : Option Nat} (h : PB w g a v d) (hb : w.grownBy w' row) (hg : some g ≠ row) : PB w' g a v d := (hb.block g h.lt hg).trans h
theorem PB.far (h : PB w g a v d) {p : Addr} (hp : g ≠ p.block) (u : Value) : PB (w.setCell p u) g a v d := (Below.heap_setCell w p u g hp).trans h
theorem PB.new {x : Nat} (w : World) (a : Bool) (v : Value) (d : Bool) (hx : x = w.heap.size) : PB (w.alloc (.cells #[.bool a, v, .bool d] 136)) x a v d := by subst hx; exact heap_alloc_new w _
theorem PB.set1 (h : PB w g a v d) (u : Value) : PB (w.setCell ⟨g, 1, none⟩ u) g a u d := by
  unfold PB at h ⊢
  simp [World.setCell, Array.getElem?_modify, h]
theorem PB.set0 (h : PB w g a v d) (b : Bool) : PB (w.setCell ⟨g, 0, none⟩ (.bool b)) g b v d := by
  unfold PB at h ⊢
  simp [World.setCell, Array.getElem?_modify, h]
theorem PB.set2 (h : PB w g a v d) (b : Bool) : PB (w.setCell ⟨g, 2, none⟩ (.bool b)) g a v b := by
  unfold PB at h ⊢
  simp [World.setCell, Array.getElem?_modify, h]
end
theorem res_path {fn : Func} {r t : Tmp} (hres : fn.results = #[.cell r 136, .tmp t]) (tmps : Array Value) (w : World) {g : Nat} {a d : Bool} {v : Value} (hr : tmps.getD r undef = .pointer (some ⟨g, 0, none⟩)) (hp : PB w g a v d) :
    (results fn tmps).run Tryz.prog w = .ok (.tuple #[.agg #[.bool a, v, .bool d], tmps.getD t undef]) w := by
  have c0 := hp.c0
  have c1 := hp.c1
  have c2 := hp.c2
  rw [Array.getD_eq_getD_getElem?] at hr
  simp [results, hres, go_sem, hr, c0, c1, c2]
theorem own_form {w : World} {base e n : Nat} {v : Value} {xs : List Value} (h : w.ownsRow base e 1 v n xs) : ∃ ao cap, v = .slice ao n cap := by
  rcases h.2 with ⟨rfl, rfl⟩ | ⟨g, cap, cur, rfl, _⟩
  · have := h.1; simp at this; subst this; exact ⟨_, _, rfl⟩
  · exact ⟨_, _, rfl⟩
theorem own_set {w : World} {base e size n : Nat} {v : Value} {xs : List Value} (h : w.ownsRow base e size v n xs) {p : Addr} (hp : p.block < base) (u : Value) : (w.setCell p u).ownsRow base e size v n xs := by
  rcases h.2 with h0 | ⟨g, cap, cur, h1, h2, h3, h4⟩
  · exact ⟨h.1, .inl h0⟩
  · exact ⟨h.1, .inr ⟨g, cap, cur, h1, h2, (Below.heap_setCell w p u g (by omega)).trans h3, h4⟩⟩
theorem append_keeps {w wr w2 : World} {o : Obj} {a d : Bool} {v v2 : Value} {n n2 : Nat} {xs xs2 : List Value} {a0 d0 : Bool} {v0 : Value} {e : TypeId}
    (hp0 : PB wr w.heap.size a0 v0 d0) (hp1 : PB wr (w.heap.size + 1) a v d) (hown : wr.ownsRow (w.heap.size + 2) e 1 v n xs) (bel : Below w.heap.size w wr)
    (hown2 : w2.ownsRow (w.heap.size + 2) e 1 v2 n2 xs2) (hg : (wr.alloc o).grownBy w2 v.ownBlock) :
    PB w2 w.heap.size a0 v0 d0 ∧ PB w2 (w.heap.size + 1) a v d ∧ w2.ownsRow (w.heap.size + 2) e 1 v2 n2 xs2 ∧ Below w.heap.size w w2 ∧ wr.heap.size ≤ w2.heap.size := by
  refine ⟨(hp0.alloc _).grown hg ?_, (hp1.alloc _).grown hg ?_, hown2, (bel.alloc bel.size _).grown hg (by simp; have := bel.size; omega) (fun g h => by have := own_ge hown g h; omega), Nat.le_trans (by simp) hg.size⟩
  · intro h; have := own_ge hown _ h.symm; omega
  · intro h; have := own_ge hown _ h.symm; omega
theorem first_eq (s : ByteArray) (h : 0 < s.size) : PM.first s = ((s[0].toNat : Int) == 47) := by
  have := byte_get s 0 h
  unfold PM.first
  rw [← List.drop_zero (l := s.data.toList), this]
  simp only [List.head?_cons, Option.any_some]
  rw [Bool.eq_iff_iff, beq_iff_eq, beq_iff_eq]; omega
theorem last_eq (s : ByteArray) (h : 0 < s.size) : PM.last s = ((s[s.size - 1].toNat : Int) == 47) := by
  unfold PM.last
  rw [List.getLast?_eq_getElem?, PM.list_size, List.getElem?_eq_getElem (by rw [PM.list_size]; omega)]
  simp only [Option.any_some]
  have e : s.data.toList[s.size - 1]'(by rw [PM.list_size]; omega) = s[s.size - 1] := rfl
  rw [e, Bool.eq_iff_iff, beq_iff_eq, beq_iff_eq]
  omega
theorem extract_list (s : ByteArray) (a b : Nat) : (s.extract a b).data.toList = (s.data.toList.take b).drop a := by
  rw [ByteArray.data_extract, Array.toList_extract, List.extract_eq_take_drop, List.drop_take]
theorem cut_size (s : ByteArray) (a b : Nat) (h1 : a ≤ b) (h2 : b ≤ s.size) : (s.extract a b).size = b - a := by
  rw [← PM.list_size, extract_list, List.length_drop, List.length_take, PM.list_size]; omega
def part (s : ByteArray) (a b : Nat) : List UInt8 := (s.extract a b).data.toList
theorem part_length (s : ByteArray) (a b : Nat) (h1 : a ≤ b) (h2 : b ≤ s.size) : (part s a b).length = b - a := by
  unfold part; rw [PM.list_size, cut_size s a b h1 h2]
theorem part_nil (s : ByteArray) (a : Nat) : part s a a = [] := by
  unfold part; rw [extract_list]
  exact List.drop_eq_nil_of_le (by simp; omega)
theorem part_snoc (s : ByteArray) (a b : Nat) (h1 : a ≤ b) (h2 : b < s.size) : part s a (b + 1) = part s a b ++ [s[b]] := by
  unfold part
  rw [extract_list, extract_list, List.take_succ_eq_append_getElem (by rw [PM.list_size]; exact h2), List.drop_append]
  have e : a - (List.take b s.data.toList).length = 0 := by rw [List.length_take, PM.list_size]; omega
  rw [e]; rfl
theorem str_part (s : ByteArray) (a b : Nat) : PM.str (part s a b) = s.extract a b := PM.str_of _
def At (s : ByteArray) (k a : Nat) (l : List ByteArray) : Prop :=
  (k ≤ s.size ∧ a ≤ k ∧ PM.split (part s a k) l (s.data.toList.drop k) = PM.split [] [] s.data.toList) ∨ (k = s.size + 1 ∧ PM.split [] [] s.data.toList = some l)
theorem At.start (s : ByteArray) : At s 0 0 [] := .inl ⟨Nat.zero_le _, Nat.le_refl _, by rw [part_nil]; rfl⟩
theorem At.go {s : ByteArray} {k a : Nat} {l : List ByteArray} (h : At s k a l) (hk : k < s.size) (hc : ¬ (s[k].toNat : Int) = 47) : At s (k + 1) a l := by
  rcases h with ⟨h1, h2, h3⟩ | ⟨h1, -⟩
  · refine .inl ⟨by omega, by omega, ?_⟩
    rw [← h3, byte_get s k hk, PM.split, if_neg (by omega), part_snoc s a k h2 hk]
  · omega
theorem At.stop {s : ByteArray} {k a : Nat} {l : List ByteArray} (h : At s k a l) (hk : k ≤ s.size) (hc : ∀ h : k < s.size, (s[k].toNat : Int) = 47) (h32 : 32 < k - a) : PM.split [] [] s.data.toList = none := by
  rcases h with ⟨h1, h2, h3⟩ | ⟨h1, -⟩
  · have hl := part_length s a k h2 h1
    rw [← h3]
    by_cases hlt : k < s.size
    · rw [byte_get s k hlt, PM.split, if_pos (by have := hc hlt; omega), if_pos (by omega)]
    · rw [List.drop_eq_nil_of_le (by rw [PM.list_size]; omega), PM.split, if_pos (by omega)]
  · omega
theorem At.next {s : ByteArray} {k a : Nat} {l : List ByteArray} (h : At s k a l) (hk : k ≤ s.size) (hc : ∀ h : k < s.size, (s[k].toNat : Int) = 47) (h32 : ¬ 32 < k - a) : At s (k + 1) (k + 1) (if k = a then l else l ++ [s.extract a k]) := by
  rcases h with ⟨h1, h2, h3⟩ | ⟨h1, -⟩
  · have hl := part_length s a k h2 h1
    have he : PM.emit (part s a k) l = if k = a then l else l ++ [s.extract a k] := by
      unfold PM.emit
      by_cases e : k = a
      · rw [if_pos e, if_pos (by rw [e]; exact part_nil s a)]
      · rw [if_neg e, if_neg (fun h => by rw [h] at hl; simp at hl; omega), str_part]
    rw [← he]
    by_cases hlt : k < s.size
    · refine .inl ⟨by omega, Nat.le_refl _, ?_⟩
      rw [← h3, byte_get s k hlt, PM.split, if_pos (by have := hc hlt; omega), if_neg (by omega), part_nil]
    · refine .inr ⟨by omega, ?_⟩
      rw [← h3, List.drop_eq_nil_of_le (by rw [PM.list_size]; omega), PM.split, if_neg (by omega)]
  · omega
theorem At.le {s : ByteArray} {k a : Nat} {l : List ByteArray} (h : At s k a l) (hk : k ≤ s.size) : a ≤ k := by
  rcases h with ⟨_, h2, _⟩ | ⟨h1, -⟩ <;> omega
theorem perr_none {s : ByteArray} (h1 : 0 < s.size) (h2 : s.size ≤ 256) (h0 : PM.has s 0 = false) (h : PM.split [] [] s.data.toList = none) : PM.perr s = 17 ∧ PM.pA s = false ∧ PM.pD s = false ∧ PM.pN s = [] := by
  have he : PM.perr s = 17 := by unfold PM.perr; rw [if_neg (by omega), if_neg (by omega), h0, h]; simp
  refine ⟨he, ?_, ?_, ?_⟩
  · unfold PM.pA; rw [he]; rfl
  · unfold PM.pD; rw [he]; rfl
  · unfold PM.pN; rw [he]; rfl
theorem perr_some {s : ByteArray} {l : List ByteArray} (h1 : 0 < s.size) (h2 : s.size ≤ 256) (h0 : PM.has s 0 = false) (h : PM.split [] [] s.data.toList = some l) : PM.perr s = 0 ∧ PM.pA s = PM.first s ∧ PM.pD s = PM.last s ∧ PM.pN s = l := by
  have he : PM.perr s = 0 := by unfold PM.perr; rw [if_neg (by omega), if_neg (by omega), h0, h]; simp
  refine ⟨he, ?_, ?_, ?_⟩
  · unfold PM.pA; rw [he]; rfl
  · unfold PM.pD; rw [he]; rfl
  · unfold PM.pN PM.names; rw [he, h]; rfl
set_option maxRecDepth 100000 in
set_option maxHeartbeats 1000000 in
theorem Parse_any (s : ByteArray) (w : World) (h1 : 0 < s.size) (h2 : s.size ≤ 256) (h0 : PM.has s 0 = false) :
    Calls Tryz.prog 75 #[.string s] w fun e w' => ∃ v, e = .returned (.tuple #[.agg #[.bool (PM.pA s), v, .bool (PM.pD s)], .int .i64 (PM.perr s)]) ∧
      w'.ownsRow w.heap.size 9 1 v (PM.pN s).length (scl (PM.pN s)) ∧ Below w.heap.size w w' := by
  obtain ⟨i0, hi, hz0, hz1, hz2⟩ := info_parts info_str
  obtain ⟨e1, e2⟩ := full_facts (s := s) (by omega)
  have H0 : Hid (∀ w, Calls Tryz.prog 143 #[.string s, .int .u8 0] w fun e w' => e = .returned (.bool false) ∧ w = w') := by
    intro w
    have := contains_any s 0 0 rfl w (by unfold maxLen; omega)
    rwa [h0] at this
  have hno := W_hid (@perr_none s h1 h2 h0)
  have hyes := W_hid (fun l => @perr_some s l h1 h2 h0)
  have i1 : 1 ≤ (s.size : Int) := by omega
  have i2 : (s.size : Int) - 1 < s.size := by omega
  have i3 : ((s.size : Int) - 1).toNat = s.size - 1 := by omega
  have i4 : decide (256 < (s.size : Int)) = false := by simp; omega
  have iA := (first_eq s h1).symm
  have iD := (last_eq s h1).symm
  clear h0
  go_enter Tryz.func75, Tryz.ntmps75
  go_wp2_with fail
  refine (H0.out _).mono ?_
  rintro e w' ⟨rfl, rfl⟩
  go_wp2_with fail
  go_region
  go_wp2
  clear i4 iA iD
  go_loopw [5, 34] (fun f i wr => ∃ (k a : Nat) (v : Value) (l : List ByteArray), k ≤ s.size + 1 ∧ a ≤ s.size + 1 ∧ l.length ≤ k ∧ i = .int .i64 k ∧ f = .int .i64 a ∧ Hid (At s k a l) ∧ PB wr w.heap.size false (.slice none 0 0) false ∧ PB wr (w.heap.size + 1) (PM.first s) v (PM.last s) ∧
    wr.ownsRow (w.heap.size + 2) 9 1 v l.length (scl l) ∧ Below w.heap.size w wr) (fun _ i _ => s.size + 1 - (intOf i).toNat)
  case atStart => exact ⟨0, 0, .slice none 0 0, [], by omega, by omega, Nat.le_refl _, rfl, rfl, At.start s, (PB.new w _ _ _ rfl).alloc _, PB.new (w.alloc _) _ _ _ (by simp), World.ownsRow_nil _ _ _ _, (((Below.refl _ _).alloc (Nat.le_refl _) _).alloc (by simp) _).drew⟩
  case round =>
    obtain ⟨k, a, v, l, hk, ha, hl, rfl, rfl, hat, hp0, hp1, hown, bel⟩ := hrel
    obtain ⟨ao, cap, rfl⟩ := own_form hown
    have c00 := hp0.c0
    have c01 := hp0.c1
    have c02 := hp0.c2
    have f0 := hp0.fz
    have c10 := hp1.c0
    have c11 := hp1.c1
    have c12 := hp1.c2
    have f1 := hp1.fz
    by_cases hcont : ∃ h : k < s.size, ¬ (s[k].toNat : Int) = 47
    · obtain ⟨hlt, hc⟩ := hcont
      have hb : ((s[k].toNat : Int) == 47) = false := by simpa using hc
      have hat' := W_hid (hat.out.go hlt hc)
      clear hc hat
      go_wp2
      go_roundw
      case rel => exact ⟨k + 1, a, _, l, by omega, ha, by omega, by go_num, rfl, hat', hp0, hp1, hown, bel⟩
      case measure => simp [intOf]; omega
    · have hc : ∀ h : k < s.size, (s[k].toNat : Int) = 47 := fun h => Classical.byContradiction fun hn => hcont ⟨h, hn⟩
      clear hcont
      by_cases hks : k ≤ s.size
      · have hak := hat.out.le hks
        obtain ⟨p, hp⟩ : ∃ p, p = s.extract a k := ⟨_, rfl⟩
        have hsl : ∀ w, (Instr.slice 9 (.string s) (some (.int .i64 (a : Int))) (some (.int .i64 (k : Int))) none).run Tryz.prog w = .ok (.string p) w := fun w => by
          rw [run_slice_string w _ s _ _ _ _ Tryz.underlying9 (by omega) (by omega) (by omega), hp]; rfl
        have hpz := cut_size s a k hak hks
        rw [← hp] at hpz
        have HP := W_hid hp
        clear hp
        by_cases h32 : 32 < k - a
        · have hn := W_hid (hat.out.stop hks hc h32)
          have h32' : 32 < p.size := by omega
          clear hat hpz
          have hb : k < s.size → (∀ h : k < s.size, ((s[k].toNat : Int) == 47) = true) := fun _ h => by simpa using hc h
          have hb := W_hid hb
          clear hc
          by_cases hlt : k < s.size
          · have hb' := hb.out hlt hlt
            go_wp2
            have hq := ((hp0.set0 false).set1 (.slice none 0 0)).set2 false
            have bel' := ((bel.setCell (p := ⟨w.heap.size, 0, none⟩) (Nat.le_refl _) (.bool false)).setCell (p := ⟨w.heap.size, 1, none⟩) (Nat.le_refl _) (.slice none 0 0)).setCell (p := ⟨w.heap.size, 2, none⟩) (Nat.le_refl _) (.bool false)
            refine bodyPost_ret (res_path Tryz.results75 _ _ rfl hq) rfl ?_
            obtain ⟨r1, r2, r3, r4⟩ := hno.out hn.out
            rw [r1, r2, r3, r4]
            exact ⟨_, rfl, World.ownsRow_nil _ _ _ _, bel'⟩
          · go_wp2
            have hq := ((hp0.set0 false).set1 (.slice none 0 0)).set2 false
            have bel' := ((bel.setCell (p := ⟨w.heap.size, 0, none⟩) (Nat.le_refl _) (.bool false)).setCell (p := ⟨w.heap.size, 1, none⟩) (Nat.le_refl _) (.slice none 0 0)).setCell (p := ⟨w.heap.size, 2, none⟩) (Nat.le_refl _) (.bool false)
            refine bodyPost_ret (res_path Tryz.results75 _ _ rfl hq) rfl ?_
            obtain ⟨r1, r2, r3, r4⟩ := hno.out hn.out
            rw [r1, r2, r3, r4]
            exact ⟨_, rfl, World.ownsRow_nil _ _ _ _, bel'⟩
        · have hat' := W_hid (hat.out.next hks hc h32)
          have h32' : p.size ≤ 32 := by omega
          have hb : k < s.size → (∀ h : k < s.size, ((s[k].toNat : Int) == 47) = true) := fun _ h => by simpa using hc h
          have hb := W_hid hb
          clear hc
          by_cases hka : k = a
          · subst hka
            obtain ⟨p1, p2⟩ := empty_facts (s := p) (by omega)
            have hat2 : Hid (At s (k + 1) (k + 1) l) := by have := hat'.out; rw [if_pos rfl] at this; exact this
            clear hat hpz hat'
            by_cases hlt : k < s.size
            · have hb' := hb.out hlt hlt
              go_wp2
              go_roundw
              case rel => exact ⟨k + 1, k + 1, _, l, by omega, by omega, by omega, by go_num, by go_num, hat2, hp0, hp1, hown, bel⟩
              case measure => simp [intOf]; omega
            · go_wp2
              go_roundw
              case rel => exact ⟨k + 1, k + 1, _, l, by omega, by omega, by omega, by go_num, by go_num, hat2, hp0, hp1, hown, bel⟩
              case measure => simp [intOf]; omega
          · obtain ⟨p1, p2⟩ := full_facts (s := p) (by omega)
            have hat2 : Hid (At s (k + 1) (k + 1) (l ++ [p])) := by have := hat'.out; rw [if_neg hka, ← HP.out] at this; exact this
            clear hat hpz hat'
            by_cases hlt : k < s.size
            · have hb' := hb.out hlt hlt
              go_wp2_with (at_builtin; apply Hid.out)
              refine W_hid ?_
              refine wpList_append_own_wide _ rfl (.tmp 58) (.tmp 60) 134 rfl (w.heap.size + 2) 9 i0 (.string ByteArray.empty) 1 16 Tryz.underlying134 hi hz0 hz1 hz2 rfl (by decide) _ l.length (scl l) rfl (hown.alloc _) ⟨wr.heap.size, 0, none⟩ 1 1 [.string p] rfl rfl (cell_one_new _ _ _) (by intro u hu; simp at hu; subst hu; rfl) (by unfold maxLen; omega) (by omega) (by simp; have := hp1.lt; omega) ?_
              intro v2 w2 hown2 hgrow2 hnn
              obtain ⟨ao2, cap2, rfl⟩ := own_form hown2
              obtain ⟨q0, q1, q2, q3, q4⟩ := append_keeps hp0 hp1 hown bel hown2 hgrow2
              clear hown2 hgrow2 hnn hown bel c00 c01 c02 f0 c10 c11 c12 f1 hp0 hp1
              have c1 := q1.c1
              have f1 := q1.fz
              go_wp2
              have q1' := q1.set1 (.slice ao2 (l.length + 1) cap2)
              have q0' := q0.far (p := ⟨w.heap.size + 1, 1, none⟩) (by simp) (.slice ao2 (l.length + 1) cap2)
              have q2' := own_set q2 (by simp) (.slice ao2 (l.length + 1) cap2) (p := ⟨w.heap.size + 1, 1, none⟩)
              have q3' := q3.setCell (p := ⟨w.heap.size + 1, 1, none⟩) (by simp) (.slice ao2 (l.length + 1) cap2)
              go_roundw
              case rel => exact ⟨k + 1, k + 1, _, l ++ [p], by omega, by omega, by simp; omega, by go_num, by go_num, hat2, q0', q1', (by rw [scl_append, List.length_append]; exact q2'), q3'⟩
              case measure => simp [intOf]; omega
            · go_wp2_with (at_builtin; apply Hid.out)
              refine W_hid ?_
              refine wpList_append_own_wide _ rfl (.tmp 58) (.tmp 60) 134 rfl (w.heap.size + 2) 9 i0 (.string ByteArray.empty) 1 16 Tryz.underlying134 hi hz0 hz1 hz2 rfl (by decide) _ l.length (scl l) rfl (hown.alloc _) ⟨wr.heap.size, 0, none⟩ 1 1 [.string p] rfl rfl (cell_one_new _ _ _) (by intro u hu; simp at hu; subst hu; rfl) (by unfold maxLen; omega) (by omega) (by simp; have := hp1.lt; omega) ?_
              intro v2 w2 hown2 hgrow2 hnn
              obtain ⟨ao2, cap2, rfl⟩ := own_form hown2
              obtain ⟨q0, q1, q2, q3, q4⟩ := append_keeps hp0 hp1 hown bel hown2 hgrow2
              clear hown2 hgrow2 hnn hown bel c00 c01 c02 f0 c10 c11 c12 f1 hp0 hp1
              have c1 := q1.c1
              have f1 := q1.fz
              go_wp2
              have q1' := q1.set1 (.slice ao2 (l.length + 1) cap2)
              have q0' := q0.far (p := ⟨w.heap.size + 1, 1, none⟩) (by simp) (.slice ao2 (l.length + 1) cap2)
              have q2' := own_set q2 (by simp) (.slice ao2 (l.length + 1) cap2) (p := ⟨w.heap.size + 1, 1, none⟩)
              have q3' := q3.setCell (p := ⟨w.heap.size + 1, 1, none⟩) (by simp) (.slice ao2 (l.length + 1) cap2)
              go_roundw
              case rel => exact ⟨k + 1, k + 1, _, l ++ [p], by omega, by omega, by simp; omega, by go_num, by go_num, hat2, q0', q1', (by rw [scl_append, List.length_append]; exact q2'), q3'⟩
              case measure => simp [intOf]; omega
      · obtain rfl : k = s.size + 1 := by omega
        have hsome : Hid (PM.split [] [] s.data.toList = some l) := by
          rcases hat.out with ⟨h, -⟩ | ⟨-, h⟩
          · omega
          · exact h
        clear hat hc
        go_wp2
        have hq := ((hp0.set0 (PM.first s)).set1 (.slice ao l.length cap)).set2 (PM.last s)
        have bel' := ((bel.setCell (p := ⟨w.heap.size, 0, none⟩) (Nat.le_refl _) (.bool (PM.first s))).setCell (p := ⟨w.heap.size, 1, none⟩) (Nat.le_refl _) (.slice ao l.length cap)).setCell (p := ⟨w.heap.size, 2, none⟩) (Nat.le_refl _) (.bool (PM.last s))
        have hown' := own_set (p := ⟨w.heap.size, 2, none⟩) (own_set (p := ⟨w.heap.size, 1, none⟩) (own_set (p := ⟨w.heap.size, 0, none⟩) hown (by simp) (.bool (PM.first s))) (by simp) (.slice ao l.length cap)) (by simp) (.bool (PM.last s))
        refine bodyPost_ret (res_path Tryz.results75 _ _ rfl hq) rfl ?_
        obtain ⟨r1, r2, r3, r4⟩ := hyes.out _ hsome.out
        rw [r1, r2, r3, r4]
        exact ⟨_, rfl, own_base (by omega) hown', bel'⟩
theorem perr_facts {s : ByteArray} {n : Int} (h : PM.perr s = n) (hn : n ≠ 0) : PM.perr s = n ∧ PM.pA s = false ∧ PM.pD s = false ∧ PM.pN s = [] := by
  refine ⟨h, ?_, ?_, ?_⟩
  · unfold PM.pA; rw [h, if_neg hn]
  · unfold PM.pD; rw [h, if_neg hn]
  · unfold PM.pN; rw [h, if_neg hn]
def Parsed (s : ByteArray) (w : World) (e : Ending) (w' : World) : Prop := ∃ v, e = .returned (.tuple #[.agg #[.bool (PM.pA s), v, .bool (PM.pD s)], .int .i64 (PM.perr s)]) ∧
      w'.ownsRow w.heap.size 9 1 v (PM.pN s).length (scl (PM.pN s)) ∧ Below w.heap.size w w'
theorem parsed_no {s : ByteArray} {w w' : World} {n : Int} (h : PM.perr s = n) (hn : n ≠ 0) (hb : Below w.heap.size w w') : Parsed s w (.returned (.tuple #[.agg #[.bool false, .slice none 0 0, .bool false], .int .i64 n])) w' := by
  obtain ⟨r1, r2, r3, r4⟩ := perr_facts h hn
  unfold Parsed
  rw [r1, r2, r3, r4]
  exact ⟨_, rfl, World.ownsRow_nil _ _ _ _, hb⟩
set_option maxRecDepth 100000 in
set_option maxHeartbeats 1000000 in
theorem Parse_all (s : ByteArray) (w : World) (hs : s.size ≤ maxLen) : Calls Tryz.prog 75 #[.string s] w (Parsed s w) := by
  by_cases h1 : s.size = 0
  · have he : PM.perr s = 11 := by unfold PM.perr; rw [if_pos h1]
    have HE := W_hid (fun w' => @parsed_no s w w' 11 he (by decide))
    obtain ⟨e1, e2⟩ := empty_facts h1
    clear h1 he
    go_enter Tryz.func75, Tryz.ntmps75
    go_wp2_with fail
    exact bodyPost_ret (res_path Tryz.results75 _ _ rfl (PB.new w _ _ _ rfl)) rfl (HE.out _ ((Below.refl _ _).alloc (Nat.le_refl _) _))
  by_cases h2 : 256 < s.size
  · have he : PM.perr s = 17 := by unfold PM.perr; rw [if_neg h1, if_pos h2]
    have HE := W_hid (fun w' => @parsed_no s w w' 17 he (by decide))
    obtain ⟨e1, e2⟩ := full_facts h1
    have i4 : decide (256 < (s.size : Int)) = true := by simp; omega
    unfold maxLen at hs
    clear h1 he
    go_enter Tryz.func75, Tryz.ntmps75
    go_wp2_with fail
    exact bodyPost_ret (res_path Tryz.results75 _ _ rfl (PB.new w _ _ _ rfl)) rfl (HE.out _ ((Below.refl _ _).alloc (Nat.le_refl _) _))
  by_cases h0 : PM.has s 0 = true
  · have he : PM.perr s = 2 := by unfold PM.perr; rw [if_neg h1, if_neg h2, h0]; rfl
    have HE := W_hid (fun w' => @parsed_no s w w' 2 he (by decide))
    obtain ⟨e1, e2⟩ := full_facts h1
    have i4 : decide (256 < (s.size : Int)) = false := by simp; omega
    have H0 : Hid (∀ w, Calls Tryz.prog 143 #[.string s, .int .u8 0] w fun e w' => e = .returned (.bool true) ∧ w = w') := by
      intro w
      have := contains_any s 0 0 rfl w hs
      rwa [h0] at this
    unfold maxLen at hs
    clear h1 he h0
    go_enter Tryz.func75, Tryz.ntmps75
    go_wp2_with fail
    refine (H0.out _).mono ?_
    rintro e w' ⟨rfl, rfl⟩
    go_wp2_with fail
    exact bodyPost_ret (res_path Tryz.results75 _ _ rfl (PB.new w _ _ _ rfl)) rfl (HE.out _ ((Below.refl _ _).alloc (Nat.le_refl _) _))
  · exact Parse_any s w (by omega) (by omega) (by simpa using h0)
theorem step_append_wide {P : Program} {ops : Array Oper} {o : Oper} {a : Act} {w : World} {K : Act → World → Prop} {Q : Exit → Act → World → Prop} {E : Prop}
    (hg : o.guard = none) (s x : Operand) (t : TypeId) (hop : o.op = Op.call { callee := Callee.builtin Builtin.append, args := #[s, x], argTypes := #[t, t] })
    (base : Nat) (e : TypeId) (i : TypeInfo) (z : Value) (size bytes : Nat) (ht : P.underlying t = some (.slice e)) (hi : P.info? e = some i) (hz : i.zero = some z)
    (hsize : i.size = size) (hby : i.bytes = bytes) (hzs : z.cells.size = size) (hsz : 0 < size)
    (v : Value) (n : Nat) (xs : List Value) (hs : a.eval s = v) (hown : w.ownsRow base e size v n xs)
    (ad : Addr) (m c : Nat) (news : List Value) (hx : a.eval x = .slice (some ad) m c) (hl : news.length = m * size) (hnews : ∀ j u, news[j]? = some u → w.cell? (ad.add j) = some u) (h1 : ∀ u ∈ news, u.oneCell' = true)
    (h63 : n + m ≤ maxLen) (hbytes : ((n + m) + (n + m) / 4 + 192) * bytes ≤ 281474976710656) (hbase : base ≤ w.heap.size)
    (hK : ∀ v' w', w'.ownsRow base e size v' (n + m) (xs ++ news) → w.grownBy w' v.ownBlock → K (a.put o.dst v') w') :
    if Region.wanted o (yielded ops a.tmps) = true then Oper.wp P o a w K Q else E := by
  have hw : Region.wanted o (yielded ops a.tmps) = true := by simp [Region.wanted, hg]
  rw [if_pos hw]
  obtain ⟨v', w', hrun, r1, r2, -⟩ := run_append_own_wide (P := P) w base t o.type e i z size bytes ht hi hz hsize hby hzs hsz v n xs hown ad m c news hl hnews h1 h63 hbytes hbase
  unfold Oper.wp
  simp [execOp, hop, resolve, invoke, builtin, hs, hx, hrun, Result.andThen]
  exact hK v' w' r1 r2
theorem grown_undrew {w w' : World} {row : Option Nat} (h : w.drew.grownBy w' row) : w.grownBy w' row := ⟨h.os, h.tape, h.output, h.size, h.block⟩
set_option maxRecDepth 100000 in
set_option maxHeartbeats 1000000 in
theorem rParse_any (s : ByteArray) (w : World) (h1 : 0 < s.size) (h2 : s.size ≤ 256) (h0 : PM.has s 0 = false) :
    Calls Tryz.prog 73 #[.string s] w (Parsed s w) := by
  obtain ⟨i0, hi, hz0, hz1, hz2⟩ := info_parts info_str
  obtain ⟨e1, e2⟩ := full_facts (s := s) (by omega)
  have H0 : Hid (∀ k (h : k < s.size), ((s[k].toNat : Int) == 0) = false) := by
    intro k hk
    by_cases e : (s[k].toNat : Int) = 0
    · have := has_of (v := 0) hk (by simpa using e)
      rw [h0] at this; cases this
    · simpa using e
  have hno := W_hid (@perr_none s h1 h2 h0)
  have hyes := W_hid (fun l => @perr_some s l h1 h2 h0)
  have i1 : 1 ≤ (s.size : Int) := by omega
  have i2 : (s.size : Int) - 1 < s.size := by omega
  have i3 : ((s.size : Int) - 1).toNat = s.size - 1 := by omega
  have i4 : decide (256 < (s.size : Int)) = false := by simp; omega
  have iA := W_hid (first_eq s h1).symm
  have iD := W_hid (last_eq s h1).symm
  clear h0
  go_enter Tryz.func73, Tryz.ntmps73
  go_wp2_with fail
  go_loop [4] (fun i => ∃ k : Nat, k ≤ s.size ∧ i = .int .i64 k) (fun i => s.size - (intOf i).toNat)
  case atStart => exact ⟨0, Nat.zero_le _, rfl⟩
  case round =>
  obtain ⟨k, hk, rfl⟩ := hrel
  by_cases hlt : k < s.size
  · have hb := H0.out k hlt
    go_wp2
    go_round
    case rel => exact ⟨k + 1, by omega, by go_num⟩
    case measure => simp [intOf]; omega
  obtain rfl : k = s.size := by omega
  go_wp2
  have iA' := iA.out
  have iD' := iD.out
  go_region
  go_wp2
  clear i4 iA' iD'
  go_loopw [6, 7] (fun f i wr => ∃ (k a : Nat) (v : Value) (l : List ByteArray), k ≤ s.size + 1 ∧ a ≤ s.size + 1 ∧ l.length ≤ k ∧ i = .int .i64 k ∧ f = .int .i64 a ∧ Hid (At s k a l) ∧ PB wr w.heap.size false (.slice none 0 0) false ∧ PB wr (w.heap.size + 1) (PM.first s) v (PM.last s) ∧
    wr.ownsRow (w.heap.size + 2) 9 1 v l.length (scl l) ∧ Below w.heap.size w wr) (fun _ i _ => s.size + 1 - (intOf i).toNat)
  case atStart => exact ⟨0, 0, .slice none 0 0, [], by omega, by omega, Nat.le_refl _, rfl, rfl, At.start s, (PB.new w _ _ _ rfl).alloc _, PB.new (w.alloc _) _ _ _ (by simp), World.ownsRow_nil _ _ _ _, (((Below.refl _ _).alloc (Nat.le_refl _) _).alloc (by simp) _).drew⟩
  case round =>
    obtain ⟨k, a, v, l, hk, ha, hl, rfl, rfl, hat, hp0, hp1, hown, bel⟩ := hrel
    obtain ⟨ao, cap, rfl⟩ := own_form hown
    have c00 := hp0.c0
    have c01 := hp0.c1
    have c02 := hp0.c2
    have f0 := hp0.fz
    have c10 := hp1.c0
    have c11 := hp1.c1
    have c12 := hp1.c2
    have f1 := hp1.fz
    by_cases hcont : ∃ h : k < s.size, ¬ (s[k].toNat : Int) = 47
    · obtain ⟨hlt, hc⟩ := hcont
      have hb : ((s[k].toNat : Int) == 47) = false := by simpa using hc
      have hat' := W_hid (hat.out.go hlt hc)
      clear hc hat
      go_wp2
      go_roundw
      case rel => exact ⟨k + 1, a, _, l, by omega, ha, by omega, by go_num, rfl, hat', hp0, hp1, hown, bel⟩
      case measure => simp [intOf]; omega
    · have hc : ∀ h : k < s.size, (s[k].toNat : Int) = 47 := fun h => Classical.byContradiction fun hn => hcont ⟨h, hn⟩
      clear hcont
      by_cases hks : k ≤ s.size
      · have hak := hat.out.le hks
        obtain ⟨p, hp⟩ : ∃ p, p = s.extract a k := ⟨_, rfl⟩
        have hsl : ∀ w, (Instr.slice 9 (.string s) (some (.int .i64 (a : Int))) (some (.int .i64 (k : Int))) none).run Tryz.prog w = .ok (.string p) w := fun w => by
          rw [run_slice_string w _ s _ _ _ _ Tryz.underlying9 (by omega) (by omega) (by omega), hp]; rfl
        have HP := W_hid hp
        clear hp
        by_cases h32 : 32 < k - a
        · have hn := W_hid (hat.out.stop hks hc h32)
          have h32' : 32 < (k : Int) - a := by omega
          clear hat
          have hb : k < s.size → (∀ h : k < s.size, ((s[k].toNat : Int) == 47) = true) := fun _ h => by simpa using hc h
          have hb := W_hid hb
          clear hc
          by_cases hlt : k < s.size
          · have hb' := hb.out hlt hlt
            go_wp2
            have hq := ((hp0.set0 false).set1 (.slice none 0 0)).set2 false
            have bel' := ((bel.setCell (p := ⟨w.heap.size, 0, none⟩) (Nat.le_refl _) (.bool false)).setCell (p := ⟨w.heap.size, 1, none⟩) (Nat.le_refl _) (.slice none 0 0)).setCell (p := ⟨w.heap.size, 2, none⟩) (Nat.le_refl _) (.bool false)
            refine bodyPost_ret (res_path Tryz.results73 _ _ rfl hq) rfl ?_
            obtain ⟨r1, r2, r3, r4⟩ := hno.out hn.out
            unfold Parsed
            rw [r1, r2, r3, r4]
            exact ⟨_, rfl, World.ownsRow_nil _ _ _ _, bel'⟩
          · go_wp2
            have hq := ((hp0.set0 false).set1 (.slice none 0 0)).set2 false
            have bel' := ((bel.setCell (p := ⟨w.heap.size, 0, none⟩) (Nat.le_refl _) (.bool false)).setCell (p := ⟨w.heap.size, 1, none⟩) (Nat.le_refl _) (.slice none 0 0)).setCell (p := ⟨w.heap.size, 2, none⟩) (Nat.le_refl _) (.bool false)
            refine bodyPost_ret (res_path Tryz.results73 _ _ rfl hq) rfl ?_
            obtain ⟨r1, r2, r3, r4⟩ := hno.out hn.out
            unfold Parsed
            rw [r1, r2, r3, r4]
            exact ⟨_, rfl, World.ownsRow_nil _ _ _ _, bel'⟩
        · have hat' := W_hid (hat.out.next hks hc h32)
          have h32' : (k : Int) - a ≤ 32 := by omega
          have hb : k < s.size → (∀ h : k < s.size, ((s[k].toNat : Int) == 47) = true) := fun _ h => by simpa using hc h
          have hb := W_hid hb
          clear hc
          by_cases hka : k = a
          · subst hka
            have hat2 : Hid (At s (k + 1) (k + 1) l) := by have := hat'.out; rw [if_pos rfl] at this; exact this
            clear hat hat'
            by_cases hlt : k < s.size
            · have hb' := hb.out hlt hlt
              go_wp2
              go_roundw
              case rel => exact ⟨k + 1, k + 1, _, l, by omega, by omega, by omega, by go_num, by go_num, hat2, hp0, hp1, hown, bel⟩
              case measure => simp [intOf]; omega
            · go_wp2
              go_roundw
              case rel => exact ⟨k + 1, k + 1, _, l, by omega, by omega, by omega, by go_num, by go_num, hat2, hp0, hp1, hown, bel⟩
              case measure => simp [intOf]; omega
          · have hgt : a < k := by omega
            have hat2 : Hid (At s (k + 1) (k + 1) (l ++ [p])) := by have := hat'.out; rw [if_neg hka, ← HP.out] at this; exact this
            clear hat hat' hka
            by_cases hlt : k < s.size
            · have hb' := hb.out hlt hlt
              have d12 : ∀ o, (wr.alloc o).cell? ⟨w.heap.size + 1, 1, none⟩ = some (.slice ao l.length cap) := fun o => (hp1.alloc o).c1
              go_wp2
              go_region_law (refine step_append_wide rfl (.tmp 61) (.tmp 66) 134 rfl (w.heap.size + 2) 9 i0 (.string ByteArray.empty) 1 16 Tryz.underlying134 hi hz0 hz1 hz2 rfl (by decide) (.slice ao l.length cap) l.length (scl l) rfl (hown.alloc _) ⟨wr.heap.size, 0, none⟩ 1 1 [.string p] rfl rfl (cell_one_new _ _ _) (by intro u hu; simp at hu; subst hu; rfl) (by unfold maxLen; omega) (by omega) (by simp; have := hp1.lt; omega) ?_; intro v2 w2 hown2 hgrow2; obtain ⟨ao2, cap2, rfl⟩ := own_form hown2; obtain ⟨q0, q1, q2, q3, q4⟩ := append_keeps hp0 hp1 hown bel hown2 (grown_undrew hgrow2); have d1 := q1.c1; have d2 := q1.fz)
              all_goals
                clear hown2 hgrow2 hown bel c00 c01 c02 f0 c10 c11 c12 f1 hp0 hp1 d12 d1 d2
                go_wp2
                have q1' := q1.set1 (.slice ao2 (l.length + 1) cap2)
                have q0' := q0.far (p := ⟨w.heap.size + 1, 1, none⟩) (by simp) (.slice ao2 (l.length + 1) cap2)
                have q2' := own_set q2 (by simp) (.slice ao2 (l.length + 1) cap2) (p := ⟨w.heap.size + 1, 1, none⟩)
                have q3' := q3.setCell (p := ⟨w.heap.size + 1, 1, none⟩) (by simp) (.slice ao2 (l.length + 1) cap2)
                go_roundw
                case rel => exact ⟨k + 1, k + 1, _, l ++ [p], by omega, by omega, by simp; omega, by go_num, by go_num, hat2, q0', q1', (by rw [scl_append, List.length_append]; exact q2'), q3'⟩
                case measure => simp [intOf]; omega
            · have d12 : ∀ o, (wr.alloc o).cell? ⟨w.heap.size + 1, 1, none⟩ = some (.slice ao l.length cap) := fun o => (hp1.alloc o).c1
              go_wp2
              go_region_law (refine step_append_wide rfl (.tmp 61) (.tmp 66) 134 rfl (w.heap.size + 2) 9 i0 (.string ByteArray.empty) 1 16 Tryz.underlying134 hi hz0 hz1 hz2 rfl (by decide) (.slice ao l.length cap) l.length (scl l) rfl (hown.alloc _) ⟨wr.heap.size, 0, none⟩ 1 1 [.string p] rfl rfl (cell_one_new _ _ _) (by intro u hu; simp at hu; subst hu; rfl) (by unfold maxLen; omega) (by omega) (by simp; have := hp1.lt; omega) ?_; intro v2 w2 hown2 hgrow2; obtain ⟨ao2, cap2, rfl⟩ := own_form hown2; obtain ⟨q0, q1, q2, q3, q4⟩ := append_keeps hp0 hp1 hown bel hown2 (grown_undrew hgrow2); have d1 := q1.c1; have d2 := q1.fz)
              all_goals
                clear hown2 hgrow2 hown bel c00 c01 c02 f0 c10 c11 c12 f1 hp0 hp1 d12 d1 d2
                go_wp2
                have q1' := q1.set1 (.slice ao2 (l.length + 1) cap2)
                have q0' := q0.far (p := ⟨w.heap.size + 1, 1, none⟩) (by simp) (.slice ao2 (l.length + 1) cap2)
                have q2' := own_set q2 (by simp) (.slice ao2 (l.length + 1) cap2) (p := ⟨w.heap.size + 1, 1, none⟩)
                have q3' := q3.setCell (p := ⟨w.heap.size + 1, 1, none⟩) (by simp) (.slice ao2 (l.length + 1) cap2)
                go_roundw
                case rel => exact ⟨k + 1, k + 1, _, l ++ [p], by omega, by omega, by simp; omega, by go_num, by go_num, hat2, q0', q1', (by rw [scl_append, List.length_append]; exact q2'), q3'⟩
                case measure => simp [intOf]; omega
      · obtain rfl : k = s.size + 1 := by omega
        have hsome : Hid (PM.split [] [] s.data.toList = some l) := by
          rcases hat.out with ⟨h, -⟩ | ⟨-, h⟩
          · omega
          · exact h
        clear hat hc
        go_wp2
        have hq := ((hp0.set0 (PM.first s)).set1 (.slice ao l.length cap)).set2 (PM.last s)
        have bel' := ((bel.setCell (p := ⟨w.heap.size, 0, none⟩) (Nat.le_refl _) (.bool (PM.first s))).setCell (p := ⟨w.heap.size, 1, none⟩) (Nat.le_refl _) (.slice ao l.length cap)).setCell (p := ⟨w.heap.size, 2, none⟩) (Nat.le_refl _) (.bool (PM.last s))
        have hown' := own_set (p := ⟨w.heap.size, 2, none⟩) (own_set (p := ⟨w.heap.size, 1, none⟩) (own_set (p := ⟨w.heap.size, 0, none⟩) hown (by simp) (.bool (PM.first s))) (by simp) (.slice ao l.length cap)) (by simp) (.bool (PM.last s))
        refine bodyPost_ret (res_path Tryz.results73 _ _ rfl hq) rfl ?_
        obtain ⟨r1, r2, r3, r4⟩ := hyes.out _ hsome.out
        unfold Parsed
        rw [r1, r2, r3, r4]
        exact ⟨_, rfl, own_base (by omega) hown', bel'⟩
set_option maxRecDepth 100000 in
set_option maxHeartbeats 1000000 in
theorem rParse_all (s : ByteArray) (w : World) (hs : s.size ≤ maxLen) : Calls Tryz.prog 73 #[.string s] w (Parsed s w) := by
  by_cases h1 : s.size = 0
  · have he : PM.perr s = 11 := by unfold PM.perr; rw [if_pos h1]
    have HE := W_hid (fun w' => @parsed_no s w w' 11 he (by decide))
    obtain ⟨e1, e2⟩ := empty_facts h1
    clear h1 he
    go_enter Tryz.func73, Tryz.ntmps73
    go_wp2_with fail
    exact bodyPost_ret (res_path Tryz.results73 _ _ rfl (PB.new w _ _ _ rfl)) rfl (HE.out _ ((Below.refl _ _).alloc (Nat.le_refl _) _))
  by_cases h2 : 256 < s.size
  · have he : PM.perr s = 17 := by unfold PM.perr; rw [if_neg h1, if_pos h2]
    have HE := W_hid (fun w' => @parsed_no s w w' 17 he (by decide))
    obtain ⟨e1, e2⟩ := full_facts h1
    have i4 : decide (256 < (s.size : Int)) = true := by simp; omega
    unfold maxLen at hs
    clear h1 he
    go_enter Tryz.func73, Tryz.ntmps73
    go_wp2_with fail
    exact bodyPost_ret (res_path Tryz.results73 _ _ rfl (PB.new w _ _ _ rfl)) rfl (HE.out _ ((Below.refl _ _).alloc (Nat.le_refl _) _))
  by_cases h0 : PM.has s 0 = true
  · have he : PM.perr s = 2 := by unfold PM.perr; rw [if_neg h1, if_neg h2, h0]; rfl
    have HE := W_hid (fun w' => @parsed_no s w w' 2 he (by decide))
    obtain ⟨e1, e2⟩ := full_facts h1
    have i4 : decide (256 < (s.size : Int)) = false := by simp; omega
    have hn : Hid (¬ (s.data.toList.take s.size).any (fun c => c.toNat == 0) = false) := fun h => by rw [has_none h] at h0; cases h0
    unfold maxLen at hs
    clear h1 he h0
    go_enter Tryz.func73, Tryz.ntmps73
    go_wp2_with fail
    go_loop [4] (fun i => ∃ k : Nat, k ≤ s.size ∧ i = .int .i64 k ∧ Hid ((s.data.toList.take k).any (fun c => c.toNat == 0) = false)) (fun i => s.size - (intOf i).toNat)
    case atStart => exact ⟨0, Nat.zero_le _, rfl, rfl⟩
    case round =>
    obtain ⟨k, hk, rfl, hno⟩ := hrel
    by_cases hlt : k < s.size
    · by_cases hc : (s[k].toNat : Int) = 0
      · have hb : ((s[k].toNat : Int) == 0) = true := by simpa using hc
        clear hc
        go_wp2
        exact bodyPost_ret (res_path Tryz.results73 _ _ rfl (PB.new w _ _ _ rfl)) rfl (HE.out _ ((Below.refl _ _).alloc (Nat.le_refl _) _))
      · have hb : ((s[k].toNat : Int) == 0) = false := by simpa using hc
        have hn2 : Hid ((s.data.toList.take (k + 1)).any (fun c => c.toNat == 0) = false) := by
          have h0 := hno.out
          show _ = false
          rw [any_take_snoc _ _ _ hlt, h0]
          simp only [Bool.false_or, beq_eq_false_iff_ne, ne_eq]
          omega
        clear hc
        go_wp2
        go_round
        case rel => exact ⟨k + 1, by omega, by go_num, hn2⟩
        case measure => simp [intOf]; omega
    · obtain rfl : k = s.size := by omega
      exact absurd hno.out hn.out
  · exact rParse_any s w (by omega) (by omega) (by simpa using h0)
def SS (w : World) (ao : Option Addr) (n cap : Nat) (l : List ByteArray) : Prop :=
  l.length = n ∧ n ≤ cap ∧ cap ≤ maxLen ∧ (ao = none → cap = 0) ∧ ∀ a, ao = some a → ∀ j u, (scl l)[j]? = some u → w.cell? (a.add j) = some u
theorem SS.below {w w' : World} {ao : Option Addr} {n cap : Nat} {l : List ByteArray} (h : SS w ao n cap l) {B : Nat} (hb : Below B w w') (hB : w.heap.size ≤ B) : SS w' ao n cap l := by
  refine ⟨h.1, h.2.1, h.2.2.1, h.2.2.2.1, fun a ha j u hu => ?_⟩
  have hc := h.2.2.2.2 a ha j u hu
  rw [hb.cell (Nat.lt_of_lt_of_le (World.block_lt_of_cell? w _ hc) hB)]
  exact hc
theorem SS.nil (w : World) : SS w none 0 0 [] := ⟨rfl, Nat.le_refl _, Nat.zero_le _, fun _ => rfl, fun _ h => by cases h⟩
theorem SS.alloc {w : World} {ao : Option Addr} {n cap : Nat} {l : List ByteArray} (h : SS w ao n cap l) (o : Obj) : SS (w.alloc o) ao n cap l := h.below (Below.alloc (Below.refl _ _) (Nat.le_refl _) o) (Nat.le_refl _)
theorem SS_own {w : World} {base e : Nat} {n cap : Nat} {ao : Option Addr} {l : List ByteArray} (h : w.ownsRow base e 1 (.slice ao n cap) n (scl l)) : SS w ao n cap l := by
  have hl : l.length = n := by have := h.1; rw [scl_length] at this; omega
  rcases h.2 with ⟨h', h''⟩ | ⟨g', cap', cur, h', hb, hg, hnc, hcm, _⟩
  · simp only [Value.slice.injEq] at h'
    obtain ⟨rfl, rfl, rfl⟩ := h'
    obtain rfl := List.eq_nil_of_length_eq_zero hl
    exact SS.nil w
  · simp only [Value.slice.injEq, true_and] at h'
    obtain ⟨rfl, rfl⟩ := h'
    refine ⟨hl, hnc, hcm, (fun h => by cases h), fun a ha j u hu => ?_⟩
    obtain rfl := Option.some.inj ha
    exact h.cells (g := g') rfl j u hu
theorem SS.at_ {w : World} {ao : Option Addr} {n cap : Nat} {l : List ByteArray} (h : SS w ao n cap l) (hn : 0 < n) : ∃ blk off, ao = some ⟨blk, off, none⟩ ∧ ∀ j, (hj : j < n) → w.cell? ⟨blk, off + j, none⟩ = some (.string (l[j]'(by rw [h.1]; exact hj))) := by
  obtain ⟨hl, h1, h2, h3, h4⟩ := h
  cases ao with
  | none => have := h3 rfl; omega
  | some a =>
    have hcell : ∀ j, (hj : j < n) → w.cell? (a.add j) = some (.string (l[j]'(by rw [hl]; exact hj))) := fun j hj => by
      refine h4 a rfl j _ ?_
      rw [scl_get, List.getElem?_eq_getElem (by rw [hl]; exact hj)]; rfl
    obtain ⟨b, off, spot⟩ := a
    have h0 := hcell 0 hn
    have hs : spot = none := by simpa [Addr.add] using World.cell?_spot h0
    subst hs
    exact ⟨b, off, rfl, fun j hj => by have := hcell j hj; rwa [Addr.add_lit] at this⟩
def pathv (a : Bool) (v : Value) (d : Bool) : Value := .agg #[.bool a, v, .bool d]
def same (a1 : Bool) (l1 : List ByteArray) (d1 a2 : Bool) (l2 : List ByteArray) (d2 : Bool) : Bool := decide (a1 = a2) && decide (d1 = d2) && decide (l1 = l2)
namespace RN
open IN (Keeps)
def kx : List (ByteArray × Int × Int) → ByteArray → Nat
  | [], _ => 0
  | x :: l, k => if x.1 = k then 0 else kx l k + 1
theorem kx_le : ∀ (l : List (ByteArray × Int × Int)) (k : ByteArray), kx l k ≤ l.length
  | [], _ => Nat.le_refl _
  | x :: l, k => by
    unfold kx
    split
    · omega
    · have := kx_le l k
      rw [List.length_cons]; omega
theorem kx_at : ∀ (l : List (ByteArray × Int × Int)) (k : ByteArray) (h : kx l k < l.length), l[kx l k].1 = k
  | [], k, h => by cases h
  | x :: l, k, h => by
    by_cases e : x.1 = k
    · have : kx (x :: l) k = 0 := by simp [kx, e]
      simp only [this, List.getElem_cons_zero, e]
    · have h2 : kx (x :: l) k = kx l k + 1 := by simp [kx, e]
      rw [h2, List.length_cons] at h
      simp only [h2, List.getElem_cons_succ]
      exact kx_at l k (by omega)
theorem kx_ne : ∀ (l : List (ByteArray × Int × Int)) (k : ByteArray) (j : Nat) (hj : j < l.length), j < kx l k → l[j].1 ≠ k
  | [], k, j, hj, _ => by cases hj
  | x :: l, k, j, hj, h => by
    by_cases e : x.1 = k
    · have : kx (x :: l) k = 0 := by simp [kx, e]
      omega
    · have h2 : kx (x :: l) k = kx l k + 1 := by simp [kx, e]
      cases j with
      | zero => exact e
      | succ j =>
        simp only [List.getElem_cons_succ]
        exact kx_ne l k j (by rw [List.length_cons] at hj; omega) (by omega)
def hasA (l : List (ByteArray × Int × Int)) (k : ByteArray) : Int := match l.find? (fun x => decide (x.1 = k)) with
  | some x => x.2.1
  | none => 0
theorem has_kx : ∀ (l : List (ByteArray × Int × Int)) (k : ByteArray), hasA l k = if h : kx l k < l.length then l[kx l k].2.1 else 0
  | [], k => by simp [hasA]
  | x :: l, k => by
    by_cases e : x.1 = k
    · have h1 : kx (x :: l) k = 0 := by simp [kx, e]
      have h2 : hasA (x :: l) k = x.2.1 := by simp [hasA, e]
      rw [h2]
      simp only [h1, List.length_cons, Nat.zero_lt_succ, dite_true, List.getElem_cons_zero]
    · have h1 : kx (x :: l) k = kx l k + 1 := by simp [kx, e]
      have h2 : hasA (x :: l) k = hasA l k := by simp [hasA, e]
      rw [h2, has_kx l k]
      simp only [h1, List.length_cons, Nat.add_lt_add_iff_right, List.getElem_cons_succ]
theorem NE.form {w : World} {v : Value} {l : List (ByteArray × Int × Int)} (h : NE w v l) : ∃ ao cap, v = .slice ao l.length cap := by
  obtain ⟨b, hr⟩ := h
  exact Own.form hr
theorem NE.el {w : World} {v : Value} {l : List (ByteArray × Int × Int)} (h : NE w v l) {i : Nat} (hi : i < l.length) : ∃ g cap, v = .slice (some ⟨g, 0, none⟩) l.length cap ∧ g < w.heap.size ∧ l.length ≤ cap ∧ cap ≤ maxLen ∧ w.cell? ⟨g, i * 3, none⟩ = some (.string l[i].1) ∧ w.cell? ⟨g, i * 3 + 1, none⟩ = some (.int .i64 l[i].2.1) ∧ w.cell? ⟨g, i * 3 + 2, none⟩ = some (.int .i64 l[i].2.2) := by
  obtain ⟨b, hr⟩ := h
  rcases hr.2 with ⟨rfl, h0⟩ | ⟨g, cap, cur, rfl, hb, hg, h1, h2, h3, h4⟩
  · omega
  · have hc : ∀ m u, m < 3 → (krow l[i])[m]? = some u → w.cell? ⟨g, i * 3 + m, none⟩ = some u := fun m u hm hu => by
      have := hr.cells (g := g) rfl (i * 3 + m) u (by rw [kcl_get l i hi m hm]; exact hu)
      rw [Addr.add_lit, Nat.zero_add] at this
      exact this
    exact ⟨g, cap, rfl, IN.lt_of_some hg, h1, h2, hc 0 _ (by decide) rfl, hc 1 _ (by decide) rfl, hc 2 _ (by decide) rfl⟩
section
variable {base : Nat} {w w' : World} {rt rg : Nat} {v : Value} {q : List QE}
set_option maxRecDepth 100000 in
set_option maxHeartbeats 4000000 in
theorem rhas_any (n : Int) (k : ByteArray) {l : List DD} (h : DM base w rt rg v q) (hF : Fit w q l) (hlen : l.length ≤ 100000) (hn : ix l n < l.length) (hln : l[ix l n].l.length ≤ 100000) :
    Calls Tryz.prog 132 #[.pointer (some ⟨rt, 0, none⟩), .int .i64 n, .string k] w fun e w' => e = .returned (.int .i64 (hasA l[ix l n].l k)) ∧ Below w.heap.size w w' := by
  have cD := fun W (hb : Below w.heap.size w W) => rdir_any n (h.keep hb) (hF.keep hb) hlen
  have hda : dirA l n = (ix l n : Int) := by unfold dirA; rw [if_pos hn]
  simp only [hda] at cD
  have hql := hF.len
  obtain ⟨g, cap, rfl, -, hg, -, hcap, -, -, -, -, e2⟩ := h.el (i := ix l n) (by omega)
  have hNE := (hF.at_ (ix l n) (by omega) hn).v
  have c1 := h.box.cell (j := 1) rfl
  obtain ⟨u, hu⟩ : ∃ u, (q[ix l n]'(by omega)).v = u := ⟨_, rfl⟩
  rw [hu] at hNE e2
  obtain ⟨r, hr⟩ : ∃ r, l[ix l n].l = r := ⟨_, rfl⟩
  rw [hr] at hNE hln ⊢
  clear hu hr hda
  obtain ⟨ao, c2, rfl⟩ := hNE.form
  rw [has_kx]
  obtain ⟨Z, hZ⟩ : ∃ Z, (if h : kx r k < r.length then r[kx r k].2.1 else 0) = Z := ⟨_, rfl⟩
  rw [hZ]
  have hz1 : ∀ h : kx r k < r.length, r[kx r k].2.1 = Z := fun h => by rw [← hZ, dif_pos h]
  have hz2 : ¬ kx r k < r.length → (0 : Int) = Z := fun h => by rw [← hZ, dif_neg h]
  clear hZ
  have hkle := kx_le r k
  have hkne := kx_ne r k
  have hkat := kx_at r k
  generalize kx r k = K at hkle hkne hkat hz1 hz2
  generalize ix l n = p at *
  obtain ⟨N, hN⟩ : ∃ N, q.length = N := ⟨_, rfl⟩
  rw [hN] at c1 hcap
  have hp : (p : Int) < (N : Int) := by omega
  have hqN := W_hid (And.intro hql hN)
  clear hN hql hn h hF hlen
  replace cD := W_hid cD
  replace hNE := W_hid hNE
  replace hkne := W_hid hkne
  replace hkat := W_hid hkat
  go_enter Tryz.func132, Tryz.ntmps132
  go_wp2_with fail
  go_region_held3 (fun w' => w'.cell? ⟨rt, 1, none⟩ = some (.slice (some ⟨g, 0, none⟩) N cap) ∧ w'.cell? ⟨g, p * 3 + 2, none⟩ = some (.slice ao r.length c2) ∧ Below w.heap.size w w') (first | assumption | (refine ⟨?_, ?_, ?_⟩ <;> first | assumption | exact (Below.refl _ _).drew | exact Below.drew (by assumption) | go_keep))
    (first | (go_at_call 128; refine (cD.out _ ((Below.refl _ w).drew)).mono ?_; rintro e w1 ⟨rfl, rfl⟩))
  all_goals
    have hNW := hNE.out.move (w' := w.drew) (fun _ _ _ => rfl)
    have bW : Below w.heap.size w w.drew := (Below.refl _ w).drew
    obtain ⟨W, hW⟩ : ∃ W, w.drew = W := ⟨_, rfl⟩
    rw [hW] at hNW bW ⊢
    have hNW := W_hid hNW
    replace bW := W_hid bW
    obtain ⟨R, hR⟩ : ∃ R, r.length = R := ⟨_, rfl⟩
    rw [hR] at hln hkle
    have hz1 := W_hid hz1
    have hz2 := W_hid hz2
    replace hR := W_hid hR
    clear hW hNE e2 c1 hg hcap hp cD
    rw [hR.out]
    go_wp2_with fail
    go_loopw [8] (fun i wr => ∃ j : Nat, j ≤ K ∧ i = .int .i64 (j : Int) ∧ W = wr) (fun i _ => R - (intOf i).toNat)
    case atStart => exact ⟨0, Nat.zero_le _, rfl, rfl⟩
    case round =>
      obtain ⟨j, hj, rfl, hwr⟩ := hrel
      subst hwr
      by_cases hlt : j < R
      · have hjr : j < r.length := by rw [hR.out]; exact hlt
        obtain ⟨g2, cap2, hv, -, -, -, s0, s1, -⟩ := hNW.out.el hjr
        simp only [Value.slice.injEq] at hv
        obtain ⟨rfl, -, -⟩ := hv
        by_cases hjK : j < K
        · have hx := hkne.out j hjr hjK
          obtain ⟨a, ha⟩ : ∃ a, r[j].1 = a := ⟨_, rfl⟩
          rw [ha] at s0 hx
          have hx1 : (a.toList == k.toList) = false := by
            simp only [beq_eq_false_iff_ne, ne_eq]
            exact fun e => hx (list_inj e)
          have hx2 : (a.toList = k.toList) = False := eq_false fun e => hx (list_inj e)
          clear ha hjr hx s1
          go_wp2_with fail
          go_roundw
          case rel => exact ⟨j + 1, by omega, by go_num, by first | trivial | rfl⟩
          case measure => simp [intOf]; omega
        · obtain rfl : j = K := by omega
          have hx := hkat.out hjr
          rw [hx] at s0
          have hz := hz1.out hjr
          rw [hz] at s1
          clear hx hz hjr
          go_wp2_with fail
          go_ret
          exact ⟨rfl, bW.out⟩
      · obtain rfl : j = K := by omega
        have hz := hz2.out (by rw [hR.out]; omega)
        subst hz
        have hjN : j = R := by omega
        replace hjN := W_hid hjN
        have hge : (R : Int) ≤ (j : Int) := by omega
        go_wp2_with fail
        go_ret
        exact ⟨rfl, bW.out⟩
end
end RN
end Go.Proofs.YtmnmheocmcmpmaaGreat

namespace Go.Proofs.YtmnmheocmcmpmaaGreat
open Go.ChangeShapes Go.WideShapes Go.ChangeAt Go.RowKit Go.Maps
set_option linter.unusedVariables false
set_option linter.unusedSimpArgs false
namespace NT
open IN (Keeps)
def pa (A : Int → Option (Nat × Nat)) (n : Int) : Option Nat := (A n).map (·.1)
def nm (A : Int → Option (Nat × Nat)) (l : List (ByteArray × Int)) : ByteArray → Option (Int × Option Nat) := fun k => (look k l).map fun j => (j, pa A j)
def dcl (A : Int → Option (Nat × Nat)) (d : Dr) (m : Nat) : List Value := [.int .i64 d.up, IS.ptr (pa A d.up), .map (some m)]
structure TM (base : Nat) (w : World) (tg sg mb : Nat) (A : Int → Option (Nat × Nat)) (D : Ds) : Prop where
  box : Blk w tg 155 [.pointer (some ⟨sg, 0, none⟩), .int .i64 1, IS.ptr (pa A 1)]
  dom : ∀ n, A n = none ↔ D n = none
  root : D 1 ≠ none
  dir : ∀ n g m d, A n = some (g, m) → D n = some d → Blk w g 163 (dcl A d m) ∧ NS.MB w m (nm A d.l)
  inj : ∀ n n' g m g' m', A n = some (g, m) → A n' = some (g', m') → n ≠ n' → g ≠ g' ∧ m ≠ m'
  ge : base ≤ tg ∧ ∀ n g m, A n = some (g, m) → base ≤ g ∧ base ≤ m ∧ m ≠ mb
def DT (A : Int → Option (Nat × Nat)) (k : Nat) (o : Obj) : Prop := (∃ n m, A n = some (k, m)) ∨ ∃ n g, A n = some (g, k)
section
variable {base : Nat} {w w' : World} {tg sg mb : Nat} {A : Int → Option (Nat × Nat)} {D : Ds}
theorem TM.low (h : TM base w tg sg mb A D) : base ≤ w.heap.size := Nat.le_trans h.ge.1 (Nat.le_of_lt h.box.lt)
theorem TM.has (h : TM base w tg sg mb A D) {n : Int} {d : Dr} (hD : D n = some d) : ∃ g m, A n = some (g, m) ∧ Blk w g 163 (dcl A d m) ∧ NS.MB w m (nm A d.l) := by
  cases hA : A n with
  | none => rw [(h.dom n).1 hA] at hD; cases hD
  | some x =>
    obtain ⟨g, m⟩ := x
    exact ⟨g, m, rfl, h.dir n g m d hA hD⟩
theorem TM.hasA (h : TM base w tg sg mb A D) {n : Int} {g m : Nat} (hA : A n = some (g, m)) : ∃ d, D n = some d ∧ Blk w g 163 (dcl A d m) ∧ NS.MB w m (nm A d.l) := by
  cases hD : D n with
  | none => rw [(h.dom n).2 hD] at hA; cases hA
  | some d => exact ⟨d, rfl, h.dir n g m d hA hD⟩
theorem TM.moved (h : TM base w tg sg mb A D) (h1 : w'.heap[tg]? = w.heap[tg]?) (h2 : ∀ n g m, A n = some (g, m) → w'.heap[g]? = w.heap[g]? ∧ w'.heap[m]? = w.heap[m]?) : TM base w' tg sg mb A D :=
  ⟨h1.trans h.box, h.dom, h.root, fun n g m d hA hD => by
    obtain ⟨p, q⟩ := h.dir n g m d hA hD
    obtain ⟨e1, e2⟩ := h2 n g m hA
    exact ⟨e1.trans p, q.heap e2⟩, h.inj, h.ge⟩
theorem TM.keep (h : TM base w tg sg mb A D) (hb : Below w.heap.size w w') : TM base w' tg sg mb A D :=
  h.moved (hb.block _ h.box.lt) fun n g m hA => by
    obtain ⟨d, _, p, q⟩ := h.hasA hA
    exact ⟨hb.block _ p.lt, hb.block _ q.lt⟩
theorem TM.drew (h : TM base w tg sg mb A D) (t : Nat) : TM base (w.drewN t) tg sg mb A D := h.moved rfl fun _ _ _ _ => ⟨rfl, rfl⟩
theorem TM.alloc (h : TM base w tg sg mb A D) (o : Obj) : TM base (w.alloc o) tg sg mb A D := h.keep ((Below.refl _ _).alloc (Nat.le_refl _) o)
theorem TM.keeps (h : TM base w tg sg mb A D) {B : Nat} {T : Nat → Obj → Prop} (hK : Keeps B T w w') (h1 : ∀ k c s, ¬ T k (.cells c 155 s)) (h2 : ∀ k c s, ¬ T k (.cells c 163 s)) (h3 : ∀ n g m es c, A n = some (g, m) → ¬ T m (.map es c)) : TM base w' tg sg mb A D :=
  h.moved ((hK.block _ _ h.box (h1 _ _ _)).trans (Eq.symm h.box)) fun n g m hA => by
    obtain ⟨d, _, p, q⟩ := h.hasA hA
    obtain ⟨es, c, hm⟩ := q.obj
    exact ⟨(hK.block _ _ p (h2 _ _ _)).trans (Eq.symm p), (hK.block _ _ hm (h3 n g m es c hA)).trans hm.symm⟩
theorem TM.store (h : TM base w tg sg mb A D) {B : Nat} (hK : Keeps B (IN.PT mb) w w') : TM base w' tg sg mb A D :=
  h.keeps hK (by simp [IN.PT]) (by simp [IN.PT]) (fun n g m es c hA => by
    have := (h.ge.2 n g m hA).2.2
    simp [IN.PT, this])
end
end NT
namespace NT
open IN (Keeps)
def boxed (w : World) (n : Int) (x : Option Nat) : World := w.alloc (.cells #[.int .i64 n, IS.ptr x] 141)
set_option maxRecDepth 100000 in
set_option maxHeartbeats 1000000 in
theorem isFile_any (n : Int) (x : Option Nat) (w : World) : Calls Tryz.prog 83 #[.agg #[.int .i64 n, IS.ptr x]] w fun e w' => e = .returned (.bool x.isNone) ∧ Below w.heap.size w w' := by
  have hb := (Below.refl w.heap.size w).alloc (Nat.le_refl _) (.cells #[.int .i64 n, IS.ptr x] 141)
  cases x with
  | none =>
    simp only [IS.ptr] at hb ⊢
    go_enter Tryz.func83, Tryz.ntmps83
    go_wp2_with fail
    go_ret
    exact ⟨rfl, hb⟩
  | some g =>
    simp only [IS.ptr] at hb ⊢
    go_enter Tryz.func83, Tryz.ntmps83
    go_wp2_with fail
    go_ret
    exact ⟨rfl, hb⟩
set_option maxRecDepth 100000 in
set_option maxHeartbeats 1000000 in
theorem kind_any (n : Int) (x : Option Nat) (w : World) : Calls Tryz.prog 152 #[.agg #[.int .i64 n, IS.ptr x]] w fun e w' => e = .returned (.int .i64 (if x = none then 1 else 2)) ∧ Below w.heap.size w w' := by
  have hb := (Below.refl w.heap.size w).alloc (Nat.le_refl _) (.cells #[.int .i64 n, IS.ptr x] 141)
  have cF := isFile_any n x
  cases x with
  | none =>
    simp only [IS.ptr] at hb cF ⊢
    go_enter Tryz.func152, Tryz.ntmps152
    go_wp2_with (go_at_call 83; refine (cF _).mono ?_; rintro e w' ⟨rfl, b1⟩)
    go_ret
    exact ⟨rfl, hb.trans (b1.mono hb.size)⟩
  | some g =>
    simp only [IS.ptr] at hb cF ⊢
    go_enter Tryz.func152, Tryz.ntmps152
    go_wp2_with (go_at_call 83; refine (cF _).mono ?_; rintro e w' ⟨rfl, b1⟩)
    go_ret
    exact ⟨rfl, hb.trans (b1.mono hb.size)⟩
theorem res_node {fn : Func} {r t : Tmp} (hres : fn.results = #[.cell r 141, .tmp t]) (tmps : Array Value) (w : World) {g : Nat} {n p : Value} (hr : tmps.getD r undef = .pointer (some ⟨g, 0, none⟩)) (h : Blk w g 141 [n, p]) :
    (results fn tmps).run Tryz.prog w = .ok (.tuple #[.agg #[n, p], tmps.getD t undef]) w := by
  have h0 := h.cell (j := 0) rfl
  have h1 := h.cell (j := 1) rfl
  rw [Array.getD_eq_getD_getElem?] at hr
  simp [results, hres, go_sem, hr, h0, h1]
theorem new2 (w : World) (a b : Obj) : Below w.heap.size w ((w.alloc a).alloc b) := ((Below.refl _ w).alloc (Nat.le_refl _) a).alloc (by simp) b
theorem new3 (w : World) (a b c : Obj) : Below w.heap.size w (((w.alloc a).alloc b).alloc c) := (new2 w a b).alloc (by simp; omega) c
def DB (w : World) (g : Nat) (u : Int) (pu : Option Nat) (m : Nat) (M : ByteArray → Option (Int × Option Nat)) : Prop := Blk w g 163 [.int .i64 u, IS.ptr pu, .map (some m)] ∧ NS.MB w m M
theorem DB.keep {w w' : World} {g m : Nat} {u : Int} {pu : Option Nat} {M : ByteArray → Option (Int × Option Nat)} (h : DB w g u pu m M) (hb : Below w.heap.size w w') : DB w' g u pu m M := ⟨h.1.keep hb, h.2.keep hb⟩
set_option maxRecDepth 100000 in
set_option maxHeartbeats 2000000 in
theorem get_any (g m : Nat) (u : Int) (pu : Option Nat) (M : ByteArray → Option (Int × Option Nat)) (k : ByteArray) (hk : NS.Sm k) (w : World) (h : DB w g u pu m M) :
    Calls Tryz.prog 151 #[.pointer (some ⟨g, 0, none⟩), .string k] w fun e w' => e = .returned (.tuple #[NS.nv ((M k).getD (0, none)), .bool (M k).isSome]) ∧ Below w.heap.size w w' := by
  have c2 := fun o => (h.1.alloc o).cell (j := 2) rfl
  obtain ⟨r, hr⟩ : ∃ r, (M k).getD (0, none) = r := ⟨_, rfl⟩
  obtain ⟨b, hbb⟩ : ∃ b, (M k).isSome = b := ⟨_, rfl⟩
  rw [hr, hbb]
  have hl := fun o => (h.2.alloc o).look k hk
  simp only [hr, hbb] at hl
  clear hr hbb
  replace h := W_hid h
  obtain ⟨n, x⟩ := r
  unfold NS.nv at hl ⊢
  cases x with
  | none =>
    simp only [IS.ptr] at hl ⊢
    go_enter Tryz.func151, Tryz.ntmps151
    go_wp2_with fail
    exact bodyPost_ret (res_node Tryz.results151 _ _ rfl ((Blk.new _ _ _ rfl).alloc _)) rfl ⟨rfl, new2 _ _ _⟩
  | some g' =>
    simp only [IS.ptr] at hl ⊢
    go_enter Tryz.func151, Tryz.ntmps151
    go_wp2_with fail
    exact bodyPost_ret (res_node Tryz.results151 _ _ rfl ((Blk.new _ _ _ rfl).alloc _)) rfl ⟨rfl, new2 _ _ _⟩
set_option maxRecDepth 100000 in
set_option maxHeartbeats 2000000 in
theorem step_file (n : Int) (k : ByteArray) (w : World) :
    Calls Tryz.prog 191 #[.agg #[.int .i64 n, .pointer none], .string k] w fun e w' => e = .returned (.tuple #[.agg #[.int .i64 0, .pointer none], .int .i64 13]) ∧ Below w.heap.size w w' := by
  have cF := fun w => W_hid (isFile_any n none w)
  simp only [IS.ptr, Option.isNone_none] at cF
  go_enter Tryz.func191, Tryz.ntmps191
  go_wp2_with fail
  refine (cF _).out.mono ?_
  rintro e w1 ⟨rfl, b1⟩
  have n1 : Blk w1 (w.heap.size + 1) 141 [.int .i64 0, .pointer none] := (Blk.new _ _ _ (by simp)).keep b1
  have c0 := n1.cell (j := 0) rfl
  have c1 := n1.cell (j := 1) rfl
  have f1 := n1.fz
  have N1 := W_hid ((n1.set 0 (.int .i64 0)).set 1 (.pointer none))
  have BB := W_hid ((((new2 w _ _).trans (b1.mono (by simp; omega))).setCell (p := ⟨w.heap.size + 1, 0, none⟩) (by simp) (.int .i64 0)).setCell (p := ⟨w.heap.size + 1, 1, none⟩) (by simp) (.pointer none))
  clear b1 n1
  go_wp2_with fail
  refine bodyPost_ret (res_node Tryz.results191 _ _ rfl N1.out) rfl ?_
  exact ⟨rfl, BB.out⟩
theorem ptr_form (x : Option Nat) : ∃ pp : Option Addr, IS.ptr x = .pointer pp := by cases x <;> exact ⟨_, rfl⟩
def stv (n : Int) (g : Nat) (u : Int) (pu : Option Nat) (M : ByteArray → Option (Int × Option Nat)) (k : ByteArray) : Int × Option Nat := if k = PM.dot then (n, some g) else if k = PM.dots then (u, pu) else (M k).getD (0, none)
def ste (M : ByteArray → Option (Int × Option Nat)) (k : ByteArray) : Int := if k = PM.dot then 0 else if k = PM.dots then 0 else if (M k).isSome = true then 0 else 11
set_option maxRecDepth 100000 in
set_option maxHeartbeats 4000000 in
theorem step_dot (n : Int) (g : Nat) (w : World) :
    Calls Tryz.prog 191 #[.agg #[.int .i64 n, .pointer (some ⟨g, 0, none⟩)], .string PM.dot] w fun e w' => e = .returned (.tuple #[.agg #[.int .i64 n, .pointer (some ⟨g, 0, none⟩)], .int .i64 0]) ∧ Below w.heap.size w w' := by
  have cF := fun w => W_hid (isFile_any n (some g) w)
  simp only [IS.ptr, Option.isNone_some] at cF
  obtain ⟨k, hk⟩ : ∃ k, PM.dot = k := ⟨_, rfl⟩
  rw [hk]
  have e1 := dot_yes hk.symm
  clear hk
  go_enter Tryz.func191, Tryz.ntmps191
  go_wp2_with fail
  refine (cF _).out.mono ?_
  rintro e w1 ⟨rfl, b1⟩
  have n0 : Blk w1 w.heap.size 141 [.int .i64 n, .pointer (some ⟨g, 0, none⟩)] := ((Blk.new _ _ _ rfl).alloc _).keep b1
  have n1 : Blk w1 (w.heap.size + 1) 141 [.int .i64 0, .pointer none] := (Blk.new _ _ _ (by simp)).keep b1
  have c0 := n1.cell (j := 0) rfl
  have c1 := n1.cell (j := 1) rfl
  have d0 := n0.cell (j := 0) rfl
  have d1 := n0.cell (j := 1) rfl
  have f1 := n1.fz
  have N1 := W_hid ((n1.set 0 (.int .i64 n)).set 1 (.pointer (some ⟨g, 0, none⟩)))
  have BB := W_hid ((((new2 w _ _).trans (b1.mono (by simp; omega))).setCell (p := ⟨w.heap.size + 1, 0, none⟩) (by simp) (.int .i64 n)).setCell (p := ⟨w.heap.size + 1, 1, none⟩) (by simp) (.pointer (some ⟨g, 0, none⟩)))
  clear b1 n1 n0
  go_wp2_with fail
  refine bodyPost_ret (res_node Tryz.results191 _ _ rfl N1.out) rfl ?_
  exact ⟨rfl, BB.out⟩
set_option maxRecDepth 100000 in
set_option maxHeartbeats 4000000 in
theorem step_up (n : Int) (g m : Nat) (u : Int) (pu : Option Nat) (M : ByteArray → Option (Int × Option Nat)) (w : World) (h : DB w g u pu m M) :
    Calls Tryz.prog 191 #[.agg #[.int .i64 n, .pointer (some ⟨g, 0, none⟩)], .string PM.dots] w fun e w' => e = .returned (.tuple #[NS.nv (u, pu), .int .i64 0]) ∧ Below w.heap.size w w' := by
  have cF := fun w => W_hid (isFile_any n (some g) w)
  simp only [IS.ptr, Option.isNone_some] at cF
  have h1 := h.1
  clear h
  unfold NS.nv
  obtain ⟨pp, hpp⟩ := ptr_form pu
  rw [hpp] at h1 ⊢
  clear hpp
  obtain ⟨k, hk⟩ : ∃ k, PM.dots = k := ⟨_, rfl⟩
  rw [hk]
  have e1 := dots_yes hk.symm
  clear hk
  go_enter Tryz.func191, Tryz.ntmps191
  go_wp2_with fail
  refine (cF _).out.mono ?_
  rintro e w1 ⟨rfl, b1⟩
  have n0 : Blk w1 w.heap.size 141 [.int .i64 n, .pointer (some ⟨g, 0, none⟩)] := ((Blk.new _ _ _ rfl).alloc _).keep b1
  have n1 : Blk w1 (w.heap.size + 1) 141 [.int .i64 0, .pointer none] := (Blk.new _ _ _ (by simp)).keep b1
  have hd := ((h1.alloc _).alloc _).keep b1
  have c0 := n1.cell (j := 0) rfl
  have c1 := n1.cell (j := 1) rfl
  have d0 := n0.cell (j := 0) rfl
  have d1 := n0.cell (j := 1) rfl
  have g0 := hd.cell (j := 0) rfl
  have g1 := hd.cell (j := 1) rfl
  have f1 := n1.fz
  have N1 := W_hid ((n1.set 0 (.int .i64 u)).set 1 (.pointer pp))
  have BB := W_hid ((((new2 w _ _).trans (b1.mono (by simp; omega))).setCell (p := ⟨w.heap.size + 1, 0, none⟩) (by simp) (.int .i64 u)).setCell (p := ⟨w.heap.size + 1, 1, none⟩) (by simp) (.pointer pp))
  clear b1 n1 n0 hd h1
  go_wp2_with fail
  refine bodyPost_ret (res_node Tryz.results191 _ _ rfl N1.out) rfl ?_
  exact ⟨rfl, BB.out⟩
set_option maxRecDepth 100000 in
set_option maxHeartbeats 4000000 in
theorem step_name (n : Int) (g m : Nat) (u : Int) (pu : Option Nat) (M : ByteArray → Option (Int × Option Nat)) (k : ByteArray) (hs : NS.Sm k) (k1 : k ≠ PM.dot) (k2 : k ≠ PM.dots) (w : World) (h : DB w g u pu m M) :
    Calls Tryz.prog 191 #[.agg #[.int .i64 n, .pointer (some ⟨g, 0, none⟩)], .string k] w fun e w' => e = .returned (.tuple #[NS.nv ((M k).getD (0, none)), .int .i64 (if (M k).isSome = true then 0 else 11)]) ∧ Below w.heap.size w w' := by
  have cF := fun w => W_hid (isFile_any n (some g) w)
  simp only [IS.ptr, Option.isNone_some] at cF
  have cG := fun w h => W_hid (get_any g m u pu M k hs w h)
  have h := W_hid h
  obtain ⟨e1, e2⟩ := dot_no k1
  obtain ⟨e3, e4⟩ := dots_no k2
  clear k1 k2
  cases hM : M k with
  | none =>
    rw [hM] at cG
    simp only [Option.getD_none, Option.isSome_none, NS.nv, IS.ptr] at cG ⊢
    go_enter Tryz.func191, Tryz.ntmps191
    go_wp2_with fail
    refine (cF _).out.mono ?_
    rintro e w1 ⟨rfl, b1⟩
    have n0 : Blk w1 w.heap.size 141 [.int .i64 n, .pointer (some ⟨g, 0, none⟩)] := ((Blk.new _ _ _ rfl).alloc _).keep b1
    have n1 : Blk w1 (w.heap.size + 1) 141 [.int .i64 0, .pointer none] := (Blk.new _ _ _ (by simp)).keep b1
    have hd := (h.out.keep (new2 w _ _)).keep b1
    have d0 := n0.cell (j := 0) rfl
    have d1 := n0.cell (j := 1) rfl
    have BB := W_hid ((new2 w _ _).trans (b1.mono (by simp; omega)))
    have n1 := W_hid n1
    have cG1 := cG _ hd
    clear b1 n0 hd cG
    go_wp2_with fail
    refine cG1.out.mono ?_
    rintro e w2 ⟨rfl, b2⟩
    have n2 := ((n1.out.keep b2)).alloc (.cells #[.int .i64 0, .pointer none] 141)
    have c0 := n2.cell (j := 0) rfl
    have c1 := n2.cell (j := 1) rfl
    have f1 := n2.fz
    have N1 := W_hid ((n2.set 0 (.int .i64 0)).set 1 (.pointer none))
    have b2' : Below w.heap.size w w2 := BB.out.trans (b2.mono BB.out.size)
    have B2 := W_hid (((b2'.alloc b2'.size (.cells #[.int .i64 0, .pointer none] 141)).setCell (p := ⟨w.heap.size + 1, 0, none⟩) (by simp) (.int .i64 0)).setCell (p := ⟨w.heap.size + 1, 1, none⟩) (by simp) (.pointer none))
    clear b2 n2 b2' n1 BB cG1
    go_wp2_with fail
    refine bodyPost_ret (res_node Tryz.results191 _ _ rfl N1.out) rfl ?_
    exact ⟨rfl, B2.out⟩
  | some r =>
    rw [hM] at cG
    obtain ⟨r1, r2⟩ := r
    obtain ⟨pp, hpp⟩ := ptr_form r2
    simp only [Option.getD_some, Option.isSome_some, NS.nv, hpp] at cG ⊢
    clear hpp
    go_enter Tryz.func191, Tryz.ntmps191
    go_wp2_with fail
    refine (cF _).out.mono ?_
    rintro e w1 ⟨rfl, b1⟩
    have n0 : Blk w1 w.heap.size 141 [.int .i64 n, .pointer (some ⟨g, 0, none⟩)] := ((Blk.new _ _ _ rfl).alloc _).keep b1
    have n1 : Blk w1 (w.heap.size + 1) 141 [.int .i64 0, .pointer none] := (Blk.new _ _ _ (by simp)).keep b1
    have hd := (h.out.keep (new2 w _ _)).keep b1
    have d0 := n0.cell (j := 0) rfl
    have d1 := n0.cell (j := 1) rfl
    have BB := W_hid ((new2 w _ _).trans (b1.mono (by simp; omega)))
    have n1 := W_hid n1
    have cG1 := cG _ hd
    clear b1 n0 hd cG
    go_wp2_with fail
    refine cG1.out.mono ?_
    rintro e w2 ⟨rfl, b2⟩
    have n2 := ((n1.out.keep b2)).alloc (.cells #[.int .i64 r1, .pointer pp] 141)
    have c0 := n2.cell (j := 0) rfl
    have c1 := n2.cell (j := 1) rfl
    have f1 := n2.fz
    have N1 := W_hid ((n2.set 0 (.int .i64 r1)).set 1 (.pointer pp))
    have b2' : Below w.heap.size w w2 := BB.out.trans (b2.mono BB.out.size)
    have B2 := W_hid (((b2'.alloc b2'.size (.cells #[.int .i64 r1, .pointer pp] 141)).setCell (p := ⟨w.heap.size + 1, 0, none⟩) (by simp) (.int .i64 r1)).setCell (p := ⟨w.heap.size + 1, 1, none⟩) (by simp) (.pointer pp))
    clear b2 n2 b2' n1 BB cG1
    go_wp2_with fail
    refine bodyPost_ret (res_node Tryz.results191 _ _ rfl N1.out) rfl ?_
    exact ⟨rfl, B2.out⟩
def rv (A : Int → Option (Nat × Nat)) : Except Int Int → Value
  | .ok m => NS.nv (m, pa A m)
  | .error _ => NS.nv (0, none)
section
variable {base : Nat} {w w' : World} {tg sg mb : Nat} {A : Int → Option (Nat × Nat)} {D : Ds}
theorem step_any (n : Int) (k : ByteArray) (hs : NS.Sm k) (w : World) (h : TM base w tg sg mb A D) :
    Calls Tryz.prog 191 #[NS.nv (n, pa A n), .string k] w fun e w' => e = .returned (.tuple #[rv A (step D n k), .int .i64 (er (step D n k))]) ∧ Below w.heap.size w w' := by
  cases hD : D n with
  | none =>
    have hA := (h.dom n).2 hD
    have e1 : pa A n = none := by unfold pa; rw [hA]; rfl
    have e2 : step D n k = .error 13 := by unfold step; rw [hD]
    rw [e1, e2]
    exact step_file n k w
  | some d =>
    obtain ⟨g, m, hA, hb, hm⟩ := h.has hD
    have e1 : pa A n = some g := by unfold pa; rw [hA]; rfl
    have hB : DB w g d.up (pa A d.up) m (nm A d.l) := ⟨hb, hm⟩
    rw [e1]
    by_cases k1 : k = PM.dot
    · have e2 : step D n k = .ok n := by unfold step; rw [hD]; simp [k1]
      have e3 : rv A (.ok n) = NS.nv (n, some g) := by simp [rv, e1]
      rw [e2, k1, e3]
      exact step_dot n g w
    · by_cases k2 : k = PM.dots
      · have e2 : step D n k = .ok d.up := by unfold step; rw [hD]; simp [k1, k2, PM.dot_ne.symm]
        rw [e2, k2]
        exact step_up n g m d.up _ _ w hB
      · have c := step_name n g m d.up _ _ k hs k1 k2 w hB
        cases hl : look k d.l with
        | none =>
          have e2 : step D n k = .error 11 := by unfold step; rw [hD]; simp [k1, k2, hl]
          have e3 : nm A d.l k = none := by simp [nm, hl]
          rw [e2]
          rw [e3] at c
          exact c
        | some j =>
          have e2 : step D n k = .ok j := by unfold step; rw [hD]; simp [k1, k2, hl]
          have e3 : nm A d.l k = some (j, pa A j) := by simp [nm, hl]
          rw [e2]
          rw [e3] at c
          exact c
end
end NT
namespace NT
open IN (Keeps)
section
variable {base : Nat} {w w' : World} {tg sg mb : Nat} {A : Int → Option (Nat × Nat)} {D : Ds}
theorem goes_take (D : Ds) (n : Int) (l : List ByteArray) (k : Nat) (hk : k < l.length) {m : Int} (h : goes D n (l.take k) = .ok m) : goes D n (l.take (k + 1)) = step D m l[k] := by
  rw [PM.take_snoc l k hk, goes_snoc, h]
theorem goes_stop (D : Ds) (x : ByteArray) (xs : List ByteArray) : ∀ (ys : List ByteArray) (n : Int) (e : Int), goes D n ys = .error e → goes D n (ys ++ xs) = .error e
  | [], n, e, h => by cases h
  | y :: ys, n, e, h => by
    simp only [List.cons_append, goes] at h ⊢
    cases hs : step D n y with
    | error e' => rw [hs] at h; exact h
    | ok m => rw [hs] at h; exact goes_stop D x xs ys m e h
set_option maxRecDepth 100000 in
set_option maxHeartbeats 4000000 in
theorem resolve_any (l : List ByteArray) (ao : Option Addr) (n cap : Nat) (w : World) (h : TM base w tg sg mb A D) (hl : SS w ao n cap l) (hs : ∀ k ∈ l, NS.Sm k) :
    Calls Tryz.prog 144 #[.pointer (some ⟨tg, 0, none⟩), .slice ao n cap] w fun e w' => e = .returned (.tuple #[rv A (goes D 1 l), .int .i64 (er (goes D 1 l))]) ∧ Below w.heap.size w w' := by
  obtain ⟨pp, hpp⟩ := ptr_form (pa A 1)
  have hb := h.box
  rw [hpp] at hb
  have hln : l.length = n := hl.1
  have hlim : n ≤ 9223372036854775807 := by have := hl.2.1; have := hl.2.2.1; unfold maxLen at *; omega
  have t1 := fun o => (hb.alloc o).cell (j := 1) rfl
  have t2 := fun o => (hb.alloc o).cell (j := 2) rfl
  have H := W_hid h
  have HL := W_hid hl
  have hpp := W_hid hpp
  clear h hb hl
  go_enter Tryz.func144, Tryz.ntmps144
  go_wp2_with fail
  go_loopw [17] (fun v wr => ∃ (i : Nat) (m : Int) (pm : Option Addr), v = .int .i64 (i : Int) ∧ i ≤ n ∧ Hid (goes D 1 (l.take i) = .ok m) ∧ Hid (IS.ptr (pa A m) = .pointer pm) ∧ Hid (Blk wr w.heap.size 141 [.int .i64 0, .pointer none]) ∧ Hid (Blk wr (w.heap.size + 1) 141 [.int .i64 m, .pointer pm]) ∧ Hid (Below w.heap.size w wr)) (fun v _ => n - (intOf v).toNat)
  case atStart => exact ⟨0, 1, pp, rfl, Nat.zero_le _, W_hid rfl, hpp, W_hid ((Blk.new _ _ _ rfl).alloc _), W_hid (Blk.new _ _ _ (by simp)), W_hid (new2 _ _ _)⟩
  case round =>
    obtain ⟨i, m, pm, rfl, hin, hg, hpm, hR, hN, hB⟩ := hrel
    by_cases hi : i < n
    · obtain ⟨blk, off, rfl, hcell⟩ := HL.out.at_ (by omega)
      have hi' : i < l.length := by omega
      have ce : wr.cell? ⟨blk, off + i, none⟩ = some (.string l[i]) := by
        have := hcell i hi
        rw [hB.out.cell (World.block_lt_of_cell? w _ this)]
        exact this
      have cS := step_any m l[i] (hs _ (List.getElem_mem _)) wr (H.out.keep hB.out)
      unfold NS.nv at cS
      simp only [hpm.out] at cS
      have hnext := goes_take D 1 l i hi' hg.out
      obtain ⟨x, hx⟩ : ∃ x, l[i] = x := ⟨_, rfl⟩
      rw [hx] at ce cS hnext
      have n0 := hN.out.cell (j := 0) rfl
      have n1 := hN.out.cell (j := 1) rfl
      cases hst : step D m x with
      | error e =>
        rw [hst] at hnext cS
        have hall : goes D 1 l = .error e := by
          have := goes_stop D x (l.drop (i + 1)) (l.take (i + 1)) 1 e hnext
          rwa [List.take_append_drop] at this
        have he := W_hid (step_er hst)
        simp only [rv, er, NS.nv, IS.ptr] at cS
        have cS := W_hid cS
        have hall := W_hid hall
        have hne : (e == 0) = false := by simpa using he.out
        clear hst hnext hx hcell
        go_wp2_with fail
        refine cS.out.mono ?_
        rintro e' w1 ⟨rfl, b1⟩
        have r1 := (hR.out.keep b1).alloc (.cells #[.int .i64 0, .pointer none] 141)
        have c0 := r1.cell (j := 0) rfl
        have c1 := r1.cell (j := 1) rfl
        have f1 := r1.fz
        have N1 := W_hid ((r1.set 0 (.int .i64 0)).set 1 (.pointer none))
        have b2 : Below w.heap.size w w1 := hB.out.trans (b1.mono hB.out.size)
        have B2 := W_hid (((b2.alloc b2.size (.cells #[.int .i64 0, .pointer none] 141)).setCell (p := ⟨w.heap.size, 0, none⟩) (by simp) (.int .i64 0)).setCell (p := ⟨w.heap.size, 1, none⟩) (by simp) (.pointer none))
        clear b1 r1 b2 n0 n1 ce cS
        go_wp2_with fail
        refine bodyPost_ret (res_node Tryz.results144 _ _ rfl N1.out) rfl ?_
        refine ⟨?_, B2.out⟩
        rw [hall.out]
        rfl
      | ok m' =>
        rw [hst] at hnext cS
        obtain ⟨pm', hpm'⟩ := ptr_form (pa A m')
        simp only [rv, er, NS.nv, hpm'] at cS
        have cS := W_hid cS
        have hpm' := W_hid hpm'
        have hnext := W_hid hnext
        clear hst hx hcell
        go_wp2_with fail
        refine cS.out.mono ?_
        rintro e' w1 ⟨rfl, b1⟩
        have r1 := W_hid ((hR.out.keep b1).alloc (.cells #[.int .i64 m', .pointer pm'] 141))
        have q1 := (hN.out.keep b1).alloc (.cells #[.int .i64 m', .pointer pm'] 141)
        have c0 := q1.cell (j := 0) rfl
        have c1 := q1.cell (j := 1) rfl
        have f1 := q1.fz
        have N1 := W_hid ((q1.set 0 (.int .i64 m')).set 1 (.pointer pm'))
        have b2 : Below w.heap.size w w1 := hB.out.trans (b1.mono hB.out.size)
        have B2 := W_hid (((b2.alloc b2.size (.cells #[.int .i64 m', .pointer pm'] 141)).setCell (p := ⟨w.heap.size + 1, 0, none⟩) (by simp) (.int .i64 m')).setCell (p := ⟨w.heap.size + 1, 1, none⟩) (by simp) (.pointer pm'))
        have R2 := W_hid ((r1.out.far (p := ⟨w.heap.size + 1, 0, none⟩) (by simp) (.int .i64 m')).far (p := ⟨w.heap.size + 1, 1, none⟩) (by simp) (.pointer pm'))
        clear b1 r1 b2 n0 n1 ce cS q1
        go_wp2_with fail
        exact ⟨⟨i + 1, m', pm', by go_num, by omega, hnext, hpm', R2, N1, B2⟩, by simp [intOf]; omega⟩
    · obtain rfl : i = n := by omega
      have n0 := hN.out.cell (j := 0) rfl
      have n1 := hN.out.cell (j := 1) rfl
      have c0 := hR.out.cell (j := 0) rfl
      have c1 := hR.out.cell (j := 1) rfl
      have f1 := hR.out.fz
      have hall : goes D 1 l = .ok m := by
        have := hg.out
        rwa [List.take_of_length_le (by omega)] at this
      have hall := W_hid hall
      have N1 := W_hid ((hR.out.set 0 (.int .i64 m)).set 1 (.pointer pm))
      have B2 := W_hid ((hB.out.setCell (p := ⟨w.heap.size, 0, none⟩) (by simp) (.int .i64 m)).setCell (p := ⟨w.heap.size, 1, none⟩) (by simp) (.pointer pm))
      go_wp2_with fail
      refine bodyPost_ret (res_node Tryz.results144 _ _ rfl N1.out) rfl ?_
      refine ⟨?_, B2.out⟩
      rw [hall.out]
      simp only [rv, er, NS.nv, hpm.out]
      rfl
theorem find_er {D : Ds} {l : List ByteArray} {d : Bool} {e : Int} (h : find D l d = .error e) : e ≠ 0 := by
  unfold find at h
  split at h
  · rename_i e' he
    cases h
    exact goes_er he
  · split at h <;> cases h
    decide
theorem pa_none (h : TM base w tg sg mb A D) (n : Int) : (pa A n).isNone = decide (D n = none) := by
  have := h.dom n
  unfold pa
  cases hA : A n <;> cases hD : D n <;> simp_all
set_option maxRecDepth 100000 in
set_option maxHeartbeats 1000000 in
theorem none_nil (w : World) : Calls Tryz.prog 74 #[.pointer none] w fun e w' => e = .returned (.bool true) ∧ w' = w := by
  go_enter Tryz.func74, Tryz.ntmps74
  go_wp2_with fail
  go_ret
  exact ⟨rfl, rfl⟩
set_option maxRecDepth 100000 in
set_option maxHeartbeats 1000000 in
theorem none_some (w : World) (h : TM base w tg sg mb A D) : Calls Tryz.prog 74 #[.pointer (some ⟨tg, 0, none⟩)] w fun e w' => e = .returned (.bool false) ∧ Below w.heap.size w w' := by
  have c1 := h.box.cell (j := 1) rfl
  have c2 := h.box.cell (j := 2) rfl
  have hn := pa_none h 1
  have cF := fun w => isFile_any 1 (pa A 1) w
  rw [hn, decide_eq_false h.root] at cF
  obtain ⟨pp, hpp⟩ := ptr_form (pa A 1)
  simp only [hpp] at c2 cF
  replace cF := fun w => W_hid (cF w)
  clear h hn hpp
  go_enter Tryz.func74, Tryz.ntmps74
  go_wp2_with fail
  refine (cF _).out.mono ?_
  rintro e w1 ⟨rfl, b1⟩
  go_wp2_with fail
  go_ret
  exact ⟨rfl, b1⟩
def bp (a : Bool) (ao : Option Addr) (n cap : Nat) (d : Bool) : Obj := .cells #[.bool a, .slice ao n cap, .bool d] 136
set_option maxRecDepth 100000 in
set_option maxHeartbeats 4000000 in
theorem find_any (a d : Bool) (l : List ByteArray) (ao : Option Addr) (n cap : Nat) (w : World) (h : TM base w tg sg mb A D) (hl : SS w ao n cap l) (hs : ∀ k ∈ l, NS.Sm k) :
    Calls Tryz.prog 76 #[.pointer (some ⟨tg, 0, none⟩), .agg #[.bool a, .slice ao n cap, .bool d]] w fun e w' => e = .returned (.tuple #[rv A (find D l d), .int .i64 (er (find D l d))]) ∧ Below w.heap.size w w' := by
  have b0 := new2 w (.cells #[.bool a, .slice ao n cap, .bool d] 136) (.cells #[.int .i64 0, .pointer none] 141)
  have cR := W_hid (resolve_any l ao n cap _ (h.keep b0) (hl.below b0 (Nat.le_refl _)) hs)
  have hpn := pa_none h
  have hp : Blk ((w.alloc (.cells #[.bool a, .slice ao n cap, .bool d] 136)).alloc (.cells #[.int .i64 0, .pointer none] 141)) w.heap.size 136 [.bool a, .slice ao n cap, .bool d] := (Blk.new _ _ _ rfl).alloc _
  clear h hl
  cases hg : goes D 1 l with
  | error e =>
    have hf : find D l d = .error e := by unfold find; rw [hg]
    rw [hg] at cR
    rw [hf]
    have hne : (e == 0) = false := by simpa using goes_er hg
    simp only [rv, er, NS.nv, IS.ptr] at cR ⊢
    clear hf hg hpn hp
    go_enter Tryz.func76, Tryz.ntmps76
    go_wp2_with fail
    refine cR.out.mono ?_
    rintro e' w1 ⟨rfl, b1⟩
    have n1 : Blk (w1.alloc (.cells #[.int .i64 0, .pointer none] 141)) (w.heap.size + 1) 141 [.int .i64 0, .pointer none] := ((Blk.new _ _ _ (by simp)).keep b1).alloc _
    have c0 := n1.cell (j := 0) rfl
    have c1 := n1.cell (j := 1) rfl
    have f1 := n1.fz
    have N1 := W_hid ((n1.set 0 (.int .i64 0)).set 1 (.pointer none))
    have b2 : Below w.heap.size w w1 := b0.trans (b1.mono b0.size)
    have B2 := W_hid (((b2.alloc b2.size (.cells #[.int .i64 0, .pointer none] 141)).setCell (p := ⟨w.heap.size + 1, 0, none⟩) (by simp) (.int .i64 0)).setCell (p := ⟨w.heap.size + 1, 1, none⟩) (by simp) (.pointer none))
    clear b1 n1 b2 cR b0
    go_wp2_with fail
    refine bodyPost_ret (res_node Tryz.results76 _ _ rfl N1.out) rfl ?_
    exact ⟨rfl, B2.out⟩
  | ok m =>
    rw [hg] at cR
    have hnp := hpn m
    obtain ⟨pm, hpm⟩ := ptr_form (pa A m)
    have cF := fun w => isFile_any m (pa A m) w
    rw [hnp] at cF
    simp only [rv, er, NS.nv, hpm] at cR cF
    replace cF := fun w => W_hid (cF w)
    have hfd : find D l d = if d = true ∧ D m = none then .error 13 else .ok m := by unfold find; rw [hg]
    clear hpn hnp hg
    have step1 : ∀ w1, Below _ _ w1 → Blk (w1.alloc (.cells #[.int .i64 m, .pointer pm] 141)) (w.heap.size + 1) 141 [.int .i64 0, .pointer none] ∧ Blk (w1.alloc (.cells #[.int .i64 m, .pointer pm] 141)) w.heap.size 136 [.bool a, .slice ao n cap, .bool d] ∧ Blk (w1.alloc (.cells #[.int .i64 m, .pointer pm] 141)) w1.heap.size 141 [.int .i64 m, .pointer pm] ∧ Below w.heap.size w (w1.alloc (.cells #[.int .i64 m, .pointer pm] 141)) := fun w1 b1 => by
      have b2 : Below w.heap.size w w1 := b0.trans (b1.mono b0.size)
      exact ⟨((Blk.new _ _ _ (by simp)).keep b1).alloc _, (hp.keep b1).alloc _, Blk.new _ _ _ rfl, b2.alloc b2.size _⟩
    replace step1 := W_hid step1
    replace hpm := W_hid hpm
    cases d with
    | false =>
      have hf : find D l false = .ok m := by rw [hfd]; simp
      rw [hf]
      simp only [rv, er, NS.nv]
      rw [hpm.out]
      clear hf hfd hp cF
      go_enter Tryz.func76, Tryz.ntmps76
      go_wp2_with fail
      refine cR.out.mono ?_
      rintro e' w1 ⟨rfl, b1⟩
      obtain ⟨n1, p1, q1, B1⟩ := step1.out w1 b1
      have c0 := n1.cell (j := 0) rfl
      have c1 := n1.cell (j := 1) rfl
      have f1 := n1.fz
      have p2 := p1.cell (j := 2) rfl
      have N1 := W_hid ((n1.set 0 (.int .i64 m)).set 1 (.pointer pm))
      have B2 := W_hid ((B1.setCell (p := ⟨w.heap.size + 1, 0, none⟩) (by simp) (.int .i64 m)).setCell (p := ⟨w.heap.size + 1, 1, none⟩) (by simp) (.pointer pm))
      clear b1 n1 p1 q1 B1 cR b0
      go_wp2_with fail
      refine bodyPost_ret (res_node Tryz.results76 _ _ rfl N1.out) rfl ?_
      exact ⟨rfl, B2.out⟩
    | true =>
      by_cases hD : D m = none
      · have hf : find D l true = .error 13 := by rw [hfd]; simp [hD]
        rw [decide_eq_true hD] at cF
        rw [hf]
        simp only [rv, er, NS.nv, IS.ptr]
        clear hf hfd hp hD
        go_enter Tryz.func76, Tryz.ntmps76
        go_wp2_with fail
        refine cR.out.mono ?_
        rintro e' w1 ⟨rfl, b1⟩
        obtain ⟨n1, p1, q1, B1⟩ := step1.out w1 b1
        have p2 := p1.cell (j := 2) rfl
        have q10 := q1.cell (j := 0) rfl
        have q11 := q1.cell (j := 1) rfl
        have n1 := W_hid n1
        have B1 := W_hid B1
        clear b1 p1 q1 cR b0
        go_wp2_with fail
        refine (cF _).out.mono ?_
        rintro e' w2 ⟨rfl, b2⟩
        have n2 := n1.out.keep b2
        have c0 := n2.cell (j := 0) rfl
        have c1 := n2.cell (j := 1) rfl
        have f1 := n2.fz
        have N1 := W_hid ((n2.set 0 (.int .i64 0)).set 1 (.pointer none))
        have B2 := W_hid (((B1.out.trans (b2.mono B1.out.size)).setCell (p := ⟨w.heap.size + 1, 0, none⟩) (by simp) (.int .i64 0)).setCell (p := ⟨w.heap.size + 1, 1, none⟩) (by simp) (.pointer none))
        clear b2 n2 n1
        go_wp2_with fail
        refine bodyPost_ret (res_node Tryz.results76 _ _ rfl N1.out) rfl ?_
        exact ⟨rfl, B2.out⟩
      · have hf : find D l true = .ok m := by rw [hfd]; simp [hD]
        rw [decide_eq_false hD] at cF
        rw [hf]
        simp only [rv, er, NS.nv]
        rw [hpm.out]
        clear hf hfd hp hD
        go_enter Tryz.func76, Tryz.ntmps76
        go_wp2_with fail
        refine cR.out.mono ?_
        rintro e' w1 ⟨rfl, b1⟩
        obtain ⟨n1, p1, q1, B1⟩ := step1.out w1 b1
        have p2 := p1.cell (j := 2) rfl
        have q10 := q1.cell (j := 0) rfl
        have q11 := q1.cell (j := 1) rfl
        have n1 := W_hid n1
        have B1 := W_hid B1
        have Q1 := W_hid q1
        clear b1 p1 q1 cR b0
        go_wp2_with fail
        refine (cF _).out.mono ?_
        rintro e' w2 ⟨rfl, b2⟩
        have n2 := n1.out.keep b2
        have c0 := n2.cell (j := 0) rfl
        have c1 := n2.cell (j := 1) rfl
        have f1 := n2.fz
        have q2 := Q1.out.keep b2
        have q20 := q2.cell (j := 0) rfl
        have q21 := q2.cell (j := 1) rfl
        have N1 := W_hid ((n2.set 0 (.int .i64 m)).set 1 (.pointer pm))
        have B2 := W_hid (((B1.out.trans (b2.mono B1.out.size)).setCell (p := ⟨w.heap.size + 1, 0, none⟩) (by simp) (.int .i64 m)).setCell (p := ⟨w.heap.size + 1, 1, none⟩) (by simp) (.pointer pm))
        clear b2 n2 n1 q2
        go_wp2_with fail
        refine bodyPost_ret (res_node Tryz.results76 _ _ rfl N1.out) rfl ?_
        exact ⟨rfl, B2.out⟩
end
end NT
end Go.Proofs.YtmnmheocmcmpmaaGreat

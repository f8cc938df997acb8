/- A slice value that reads as a list of strings; the contract of Same, for all paths. -/
import Derived.Test.YtfhidjkhmjdioaaGreatZN02
import Derived.Test.YtfhidjkhmjdioaaGreatZN01
import Derived.Maps.AppendAt
import Derived.Laws.OwnMore
import Derived.Laws.AppendOwnNone
import Derived.StringKeys
import Derived.Sort.MapsRangeIn
import Derived.Deep.RegionLaw
import Derived.RegionTactic
import Derived.Deep.DeepAppendWide
import Derived.WalkSmall

namespace Go.Proofs.YtfhidjkhmjdioaaGreat
open Go.ChangeShapes Go.WideShapes Go.ChangeAt Go.RowKit
set_option linter.unusedVariables false
set_option linter.unusedSimpArgs false
namespace IS
theorem Two.own {g y : Nat} {w w' : World} (h : Two g y w w') (hy : w.heap.size ≤ y) : Two g g w w' := ⟨h.os, h.tape, h.output, h.size, fun k hk h1 _ => h.block k hk h1 (by omega)⟩
theorem Two.wider {g y : Nat} {w w' : World} (h : Two y y w w') : Two g y w w' := ⟨h.os, h.tape, h.output, h.size, fun k hk h1 h2 => h.block k hk h2 h2⟩
theorem RW.two {w w' : World} {g y N : Nat} {X : Nat → Nat} {rest : List Value} (h : RW w g N X rest) (t : Two y y w w') (hne : g ≠ y) : RW w' g N X rest := ⟨h.blk.two t hne hne⟩
theorem and_some (x m n : Nat) (hx : x < 18446744073709551616) (h1 : n < m) (h2 : m ≤ 2 * n) (hn : n ≤ 65536) : ∃ r : Nat, r < 2 * n ∧ bits BinOp.and IntKind.u64 (x : Int) ((m : Int) - 1) = (r : Int) := by
  have e : (m : Int) - 1 = ((m - 1 : Nat) : Int) := by omega
  have h3 : x &&& (m - 1) ≤ m - 1 := Nat.and_le_right
  exact ⟨x &&& (m - 1), by omega, by rw [e]; exact u64_and_nat _ _ hx (by omega)⟩
set_option maxRecDepth 100000 in
set_option maxHeartbeats 4000000 in
theorem break_any (g N cap : Nat) (rest : List Value) (a b : Nat) (X : Nat → Nat) (w : World) (h : RW w g N X rest) (hab : a + 8 ≤ b) (hb : b ≤ N) (hN : N < 65536) (hcap : N ≤ cap) :
    Calls Tryz.prog 181 #[.slice (some ⟨g, 0, none⟩) N cap, .int .i64 (a : Int), .int .i64 (b : Int)] w fun e w' => e = .returned (.tuple #[]) ∧ Two g g w w' ∧ ∃ Y, RW w' g N Y rest ∧ SO.Sw a b X Y := by
  have hgl := h.lt
  have h := W_hid h
  obtain ⟨n, hn⟩ : ∃ n, b - a = n := ⟨_, rfl⟩
  have hni : (b : Int) - (a : Int) = (n : Int) := by omega
  have hn8 : 8 ≤ n := by omega
  have hnN : n < 65536 := by omega
  obtain ⟨d, hd⟩ : ∃ d, n / 4 = d := ⟨_, rfl⟩
  have hdi : (n : Int).tdiv 4 = (d : Int) := by rw [← hd]; rfl
  obtain ⟨d2, hd2⟩ : ∃ d2, d * 2 = d2 := ⟨_, rfl⟩
  have hd2i : (d : Int) * 2 = (d2 : Int) := by omega
  obtain ⟨s1, hs1⟩ : ∃ s, a + d2 = s := ⟨_, rfl⟩
  have hs1i : (a : Int) + (d2 : Int) = (s1 : Int) := by omega
  obtain ⟨s0, hs0⟩ : ∃ s, s1 - 1 = s := ⟨_, rfl⟩
  have hs0i : (s1 : Int) - 1 = (s0 : Int) := by omega
  have hbd : Hid (a ≤ s0 ∧ s1 + 1 < b ∧ s0 + 1 = s1 ∧ a + n = b) := by show _ ∧ _ ∧ _ ∧ _; omega
  have hsm : s1 ≤ 65536 ∧ s0 ≤ 65536 ∧ d2 ≤ 65536 ∧ d ≤ 65536 := by omega
  have cP := W_hid (fun w => power_any n w (by omega) hnN)
  have b1 : Below w.heap.size w (w.alloc (.cells #[.int .u64 (n : Int)] 240)) := (Below.refl _ _).alloc (Nat.le_refl _) _
  have hY := W_hid (Blk.new w 240 [.int .u64 (n : Int)] rfl)
  have hR1 := W_hid (h.out.keep b1)
  have hT1 : Hid (Two g w.heap.size w (w.alloc (.cells #[.int .u64 (n : Int)] 240))) := Two.of b1
  have hgy : ¬ g = w.heap.size := by omega
  replace hd := W_hid hd
  replace hd2 := W_hid hd2
  replace hs1 := W_hid hs1
  replace hs0 := W_hid hs0
  replace hn := W_hid hn
  clear b1
  go_enter Tryz.func181, Tryz.ntmps181
  go_wp2_with fail
  refine (cP.out _).mono ?_
  rintro e w1 ⟨⟨m, rfl, hm1, hm2⟩, rfl⟩
  have hmi : 0 ≤ (m : Int) - 1 ∧ (m : Int) - 1 ≤ 131072 := by omega
  replace hm1 := W_hid hm1
  replace hm2 := W_hid hm2
  go_wp2_with fail
  obtain ⟨W1, hW1⟩ : ∃ W, w.alloc (.cells #[.int .u64 (n : Int)] 240) = W := ⟨_, rfl⟩
  rw [hW1] at hY hR1 hT1 ⊢
  go_loopw [9] (fun v wr => ∃ (q x : Nat) (Z : Nat → Nat), v = .int .i64 (q : Int) ∧ s0 ≤ q ∧ q ≤ s1 + 2 ∧ Hid (x < 18446744073709551616) ∧ Hid (Blk wr w.heap.size 240 [.int .u64 (x : Int)]) ∧ Hid (RW wr g N Z rest) ∧ Hid (SO.Sw a b X Z) ∧ Hid (Two g w.heap.size w wr)) (fun v _ => s1 + 2 - (intOf v).toNat)
  case atStart => exact ⟨s0, n, X, rfl, Nat.le_refl _, by have := hbd.out; omega, (show n < 18446744073709551616 by omega), hY, hR1, W_hid .refl, hT1⟩
  case round =>
    clear hY hR1 hT1
    obtain ⟨q, x, Z, rfl, hq1, hq2, hx, hY, hR, hS, hT⟩ := hrel
    by_cases hle : q ≤ s1 + 1
    · have hlei : (q : Int) ≤ (s1 : Int) + 1 := by omega
      have cN := W_hid (Next_any w.heap.size x wr hY.out hx.out)
      go_wp2_with fail
      refine cN.out.mono ?_
      rintro e w2 ⟨z, rfl, hz, hY2, hT2⟩
      obtain ⟨r, hr1, hr2⟩ := and_some z m n hz hm1.out hm2.out (by omega)
      have hR2 := W_hid (hR.out.two hT2 hgy)
      have hT3 := W_hid (hT.out.trans (Two.wider hT2))
      replace hz := W_hid hz
      replace hY2 := W_hid hY2
      have hrb : r ≤ 131072 := by omega
      clear hY hR hT hT2 cN
      obtain ⟨o, ho, hor⟩ : ∃ o : Nat, o < n ∧ ((r < n ∧ o = r) ∨ (n ≤ r ∧ (r : Int) - (n : Int) = (o : Int))) := by
        by_cases hh : r < n
        · exact ⟨r, hh, .inl ⟨hh, rfl⟩⟩
        · exact ⟨r - n, by omega, .inr ⟨by omega, by omega⟩⟩
      obtain ⟨p, hp⟩ : ∃ p, a + o = p := ⟨_, rfl⟩
      have hpi : (a : Int) + (o : Int) = (p : Int) := by omega
      have hpb : a ≤ p ∧ p < b ∧ p < N := by have := hbd.out; omega
      have hqb : a ≤ q ∧ q < b ∧ q < N := by have := hbd.out; omega
      have dq := hR2.out.cell q hqb.2.2
      have dp := hR2.out.cell p hpb.2.2
      have gz := hR2.out.fz
      obtain ⟨vq, hvq⟩ : ∃ v, Z q = v := ⟨_, rfl⟩
      obtain ⟨vp, hvp⟩ : ∃ v, Z p = v := ⟨_, rfl⟩
      have hR4 := W_hid (hR2.out.swap q p hqb.2.2 hpb.2.2)
      have hT4 := W_hid ((hT3.out.setCell (p := ⟨g, q, none⟩) (.inl rfl) (.int .i64 (Z p : Int))).setCell (p := ⟨g, p, none⟩) (.inl rfl) (.int .i64 (Z q : Int)))
      have hS4 := W_hid (hS.out.step (i := q) (j := p) hqb.1 hqb.2.1 hpb.1 hpb.2.1)
      have hY4 := W_hid ((hY2.out.far (p := ⟨g, q, none⟩) (fun e => hgy e.symm) (.int .i64 (vp : Int))).far (p := ⟨g, p, none⟩) (fun e => hgy e.symm) (.int .i64 (vq : Int)))
      rw [hvq, hvp] at hR4 hT4
      rw [hvq] at dq
      rw [hvp] at dp
      replace hvq := W_hid hvq
      replace hvp := W_hid hvp
      replace hp := W_hid hp
      obtain ⟨V, hV⟩ : ∃ V, World.drew ((w2.setCell ⟨g, q, none⟩ (.int .i64 (vp : Int))).setCell ⟨g, p, none⟩ (.int .i64 (vq : Int))) = V := ⟨_, rfl⟩
      have hR5 : RW V g N (SO.swp Z q p) rest := by rw [← hV]; exact hR4.out.drew
      have hT5 : Two g w.heap.size w V := by rw [← hV]; exact ⟨hT4.out.os, hT4.out.tape, hT4.out.output, hT4.out.size, hT4.out.block⟩
      have hY5 : Blk V w.heap.size 240 [.int .u64 (z : Int)] := by rw [← hV]; exact hY4.out
      replace hR5 := W_hid hR5
      replace hT5 := W_hid hT5
      replace hY5 := W_hid hY5
      clear hR2 hT3 hY2 hR4 hT4 hY4 hS
      obtain ⟨qn, hqn⟩ : ∃ x, q + 1 = x := ⟨_, rfl⟩
      have hqi : (q : Int) + 1 = (qn : Int) := by omega
      have hqs : s0 ≤ qn ∧ qn ≤ s1 + 2 := by omega
      have hqm : Hid (s1 + 2 - qn < s1 + 2 - q) := by show _ < _; omega
      replace hqn := W_hid hqn
      rcases hor with ⟨hr, rfl⟩ | ⟨hr, hro⟩
      all_goals
        have hcs : p = q ∨ ¬ p = q := by omega
        rcases hcs with hqa | hne
        case' inl =>
          obtain rfl : vq = vp := hvq.out.symm.trans (by rw [← hqa]; exact hvp.out)
          subst hqa
        case' inr => have hne2 : ¬ q = p := fun e => hne e.symm
        all_goals
          go_wp2_with fail
          go_region
          try rw [hV]
          clear hV dq dp gz
          go_wp2_with fail
          go_roundw
          case rel => exact ⟨qn, z, _, rfl, hqs.1, hqs.2, hz, hY5, hR5, hS4, hT5⟩
          case measure => (have := hqm.out); first | (simp [intOf]; omega) | simp [intOf]
    · have hlei : ¬ (q : Int) ≤ (s1 : Int) + 1 := by omega
      go_wp2_with fail
      go_end0
      exact ⟨rfl, Two.own hT.out (Nat.le_refl _), Z, hR.out, hS.out⟩
set_option maxRecDepth 100000 in
set_option maxHeartbeats 4000000 in
theorem pivot_any (g N cap : Nat) (rest : List Value) (a b : Nat) (X : Nat → Nat) (w : World) (h : RW w g N X rest) (hab : a + 8 ≤ b) (hb : b ≤ N) (hN : N < 65536) (hcap : N ≤ cap) :
    Calls Tryz.prog 182 #[.slice (some ⟨g, 0, none⟩) N cap, .int .i64 (a : Int), .int .i64 (b : Int)] w fun e w' => ∃ p c : Nat, e = .returned (.tuple #[.int .i64 (p : Int), .int .i64 (c : Int)]) ∧ a ≤ p ∧ p < b ∧ c ≤ 2 ∧ Two g g w w' ∧ RW w' g N X rest := by
  have hgl := h.lt
  have hN' : N ≤ 65536 := by omega
  obtain ⟨n, hn⟩ : ∃ n, b - a = n := ⟨_, rfl⟩
  have hni : (b : Int) - (a : Int) = (n : Int) := by omega
  have hn8 : 8 ≤ n := by omega
  have hnN : n < 65536 := by omega
  obtain ⟨d, hd⟩ : ∃ d, n / 4 = d := ⟨_, rfl⟩
  have hdi : (n : Int).tdiv 4 = (d : Int) := by rw [← hd]; rfl
  obtain ⟨d2, hd2⟩ : ∃ d2, d * 2 = d2 := ⟨_, rfl⟩
  have hd2i : (d : Int) * 2 = (d2 : Int) := by omega
  obtain ⟨d3, hd3⟩ : ∃ d3, d * 3 = d3 := ⟨_, rfl⟩
  have hd3i : (d : Int) * 3 = (d3 : Int) := by omega
  obtain ⟨i, hi⟩ : ∃ s, a + d = s := ⟨_, rfl⟩
  have hii : (a : Int) + (d : Int) = (i : Int) := by omega
  obtain ⟨j, hj⟩ : ∃ s, a + d2 = s := ⟨_, rfl⟩
  have hji : (a : Int) + (d2 : Int) = (j : Int) := by omega
  obtain ⟨k, hk⟩ : ∃ s, a + d3 = s := ⟨_, rfl⟩
  have hki : (a : Int) + (d3 : Int) = (k : Int) := by omega
  have hsm : i < 65536 ∧ j < 65536 ∧ k < 65536 ∧ d ≤ 65536 ∧ d2 ≤ 65536 ∧ d3 ≤ 65536 := by omega
  have hbd : Hid (a ≤ i ∧ i < b ∧ a ≤ j ∧ j < b ∧ a ≤ k ∧ k < b) := by show _ ∧ _ ∧ _ ∧ _ ∧ _ ∧ _; omega
  have hbd2 : Hid (50 ≤ n → a + 1 ≤ i ∧ i + 1 < b ∧ a + 1 ≤ j ∧ j + 1 < b ∧ a + 1 ≤ k ∧ k + 1 < b) := by intro _; omega
  have b1 : Below w.heap.size w (w.alloc (.cells #[.int .i64 0] 3)) := (Below.refl _ _).alloc (Nat.le_refl _) _
  have hY := Blk.new w 3 [.int .i64 0] rfl
  have hR1 := h.keep b1
  have hT1 : Two w.heap.size w.heap.size w (w.alloc (.cells #[.int .i64 0] 3)) := Two.of b1
  have hgy : w.heap.size ≠ g := by omega
  obtain ⟨W1, hW1⟩ : ∃ W, w.alloc (.cells #[.int .i64 0] 3) = W := ⟨_, rfl⟩
  rw [hW1] at hY hR1 hT1
  -- the three places
  have hmed := W_hid (fun a b c s (V : World) h h1 h2 h3 h4 h5 => median_any g N cap rest a b c w.heap.size s X V h h1 h2 h3 hN' hcap h4 hgy h5)
  have hadj := W_hid (fun a s (V : World) h h1 h2 h4 h5 => adjacent_any g N cap rest a w.heap.size s X V h h1 h2 hN' hcap h4 hgy h5)
  replace hn := W_hid hn
  replace hd := W_hid hd
  replace hd2 := W_hid hd2
  replace hd3 := W_hid hd3
  replace hi := W_hid hi
  replace hj := W_hid hj
  replace hk := W_hid hk
  replace hgy := W_hid hgy
  replace hY := W_hid hY
  replace hR1 := W_hid hR1
  replace hT1 := W_hid hT1
  clear b1 h
  go_enter Tryz.func182, Tryz.ntmps182
  by_cases h50 : 50 ≤ n
  · have hb2 := hbd2.out h50
    have hA1 := W_hid (hadj.out i 0 W1 hR1.out (by omega) (by omega) hY.out (by omega))
    go_wp2_with fail
    try rw [hW1]
    clear hW1
    refine hA1.out.mono ?_
    rintro e w2 ⟨p1, rfl, hp1, hp1', k1⟩
    obtain ⟨s1, l1, u1, y1⟩ := k1.ex
    have hA2 := W_hid (hadj.out j s1 w2 k1.row (by omega) (by omega) y1 (by omega))
    replace k1 := W_hid k1
    clear y1 hA1 hR1 hY
    go_wp2_with fail
    refine hA2.out.mono ?_
    rintro e w3 ⟨p2, rfl, hp2, hp2', k2⟩
    obtain ⟨s2, l2, u2, y2⟩ := k2.ex
    have hA3 := W_hid (hadj.out k s2 w3 k2.row (by omega) (by omega) y2 (by omega))
    replace k2 := W_hid k2
    clear y2 hA2
    go_wp2_with fail
    refine hA3.out.mono ?_
    rintro e w4 ⟨p3, rfl, hp3, hp3', k3⟩
    obtain ⟨s3, l3, u3, y3⟩ := k3.ex
    have hA4 := W_hid (hmed.out p1 p2 p3 s3 w4 k3.row (by omega) (by omega) (by omega) y3 (by omega))
    replace k3 := W_hid k3
    clear y3 hA3
    go_wp2_with fail
    refine hA4.out.mono ?_
    rintro e w5 ⟨p4, rfl, hp4, k4⟩
    obtain ⟨s4, l4, u4, y4⟩ := k4.ex
    have hfin : Hid (a ≤ p4 ∧ p4 < b ∧ Two g g w w5 ∧ RW w5 g N X rest) := ⟨by omega, by omega, Two.own (g := g) (Two.wider ((((hT1.out.trans k1.out.two).trans k2.out.two).trans k3.out.two).trans k4.two)) (Nat.le_refl _), k4.row⟩
    have c4 := y4.cell (j := 0) rfl
    have hs4 : s4 ≤ 12 := by omega
    clear k1 k2 k3 k4 hA4 y4 l1 l2 l3 l4 u1 u2 u3 u4 hb2 hp1 hp1' hp2 hp2' hp3 hp3' hp4 hT1
    have hcs : s4 = 0 ∨ s4 = 12 ∨ (¬ s4 = 0 ∧ ¬ s4 = 12) := by omega
    rcases hcs with rfl | rfl | ⟨q1, q2⟩
    · go_wp2_with fail
      go_ret2
      exact ⟨p4, 1, rfl, hfin.out.1, hfin.out.2.1, by omega, hfin.out.2.2⟩
    · go_wp2_with fail
      go_ret2
      exact ⟨p4, 2, rfl, hfin.out.1, hfin.out.2.1, by omega, hfin.out.2.2⟩
    · have z1 : ((s4 : Int) == 0) = false := by simp; omega
      have z2 : ((s4 : Int) == 12) = false := by simp; omega
      go_wp2_with fail
      go_ret2
      exact ⟨p4, 0, rfl, hfin.out.1, hfin.out.2.1, by omega, hfin.out.2.2⟩
  · have hb2 := hbd.out
    have hA4 := W_hid (hmed.out i j k 0 W1 hR1.out (by omega) (by omega) (by omega) hY.out (by omega))
    go_wp2_with fail
    try rw [hW1]
    clear hW1
    refine hA4.out.mono ?_
    rintro e w5 ⟨p4, rfl, hp4, k4⟩
    obtain ⟨s4, l4, u4, y4⟩ := k4.ex
    have hfin : Hid (a ≤ p4 ∧ p4 < b ∧ Two g g w w5 ∧ RW w5 g N X rest) := ⟨by omega, by omega, Two.own (g := g) (Two.wider (hT1.out.trans k4.two)) (Nat.le_refl _), k4.row⟩
    have c4 := y4.cell (j := 0) rfl
    have hs4 : s4 ≤ 12 := by omega
    clear k4 hA4 y4 l4 u4 hb2 hp4 hT1 hR1 hY
    have hcs : s4 = 0 ∨ s4 = 12 ∨ (¬ s4 = 0 ∧ ¬ s4 = 12) := by omega
    rcases hcs with rfl | rfl | ⟨q1, q2⟩
    · go_wp2_with fail
      go_ret2
      exact ⟨p4, 1, rfl, hfin.out.1, hfin.out.2.1, by omega, hfin.out.2.2⟩
    · go_wp2_with fail
      go_ret2
      exact ⟨p4, 2, rfl, hfin.out.1, hfin.out.2.1, by omega, hfin.out.2.2⟩
    · have z1 : ((s4 : Int) == 0) = false := by simp; omega
      have z2 : ((s4 : Int) == 12) = false := by simp; omega
      go_wp2_with fail
      go_ret2
      exact ⟨p4, 0, rfl, hfin.out.1, hfin.out.2.1, by omega, hfin.out.2.2⟩
end IS
namespace IS
def PdqAt (g N cap : Nat) (rest : List Value) (L : Nat) : Prop := ∀ (a b k : Nat) (X : Nat → Nat) (w : World), b - a = L → a ≤ b → b ≤ N → k ≤ 1000 → RW w g N X rest → SO.Bel X a b → SO.Inj X N → (∀ i, i < N → X i < 9223372036854775808) →
  Calls Tryz.prog 156 #[.slice (some ⟨g, 0, none⟩) N cap, .int .i64 (a : Int), .int .i64 (b : Int), .int .i64 (k : Int)] w fun e w' => e = .returned (.tuple #[]) ∧ Two g g w w' ∧ ∃ Y, RW w' g N Y rest ∧ SO.Sw a b X Y ∧ SO.Up Y a b
set_option maxRecDepth 100000 in
set_option maxHeartbeats 16000000 in
theorem pdq_step (g N cap : Nat) (rest : List Value) (hN : N < 65536) (hcap : N ≤ cap) (L : Nat) (IH : ∀ L', L' < L → PdqAt g N cap rest L') : PdqAt g N cap rest L := by
  intro a b k X w hL hab hb hk h hBel hInj hX
  have hN' : N ≤ 65536 := by omega
  have h := W_hid h
  have hBel := W_hid hBel
  have hInj := W_hid hInj
  have hX := W_hid hX
  have hIH := W_hid IH
  have hLf0 : Hid (SO.Left X a b a b) := SO.left_begin X a b
  have hXs : Hid (∀ Z : Nat → Nat, SO.Sw a b X Z → ∀ i, i < N → Z i < 9223372036854775808) := fun Z s i hi => (s.wide (Nat.zero_le a) hb).all (P := fun v => v < 9223372036854775808) (fun p _ hp => hX.out p hp) i (Nat.zero_le _) hi
  clear IH hX
  replace hL := W_hid hL
  go_enter Tryz.func156, Tryz.ntmps156
  go_wp2_with fail
  go_loopw [1, 2, 3, 8, 9] (fun u v l x y wr => ∃ (a1 b1 k1 : Nat) (t1 t2 : Bool) (Y : Nat → Nat), u = .int .i64 (a1 : Int) ∧ v = .int .i64 (b1 : Int) ∧ l = .int .i64 (k1 : Int) ∧ x = .bool t1 ∧ y = .bool t2 ∧ a ≤ a1 ∧ a1 ≤ b1 ∧ b1 ≤ b ∧ k1 ≤ 1000 ∧ Hid (RW wr g N Y rest) ∧ Hid (SO.Sw a b X Y) ∧ Hid (SO.Bel Y a1 b1) ∧ Hid (SO.Left Y a b a1 b1) ∧ Hid (Two g g w wr)) (fun u v _ _ _ _ => (intOf v - intOf u).toNat)
  case atStart => exact ⟨a, b, k, true, true, X, rfl, rfl, rfl, rfl, rfl, Nat.le_refl _, hab, Nat.le_refl _, hk, h, W_hid .refl, hBel, hLf0, W_hid (Two.refl _ _ _)⟩
  case round =>
    clear h hBel hLf0
    obtain ⟨a1, b1, k1, t1, t2, Y, rfl, rfl, rfl, rfl, rfl, q1, q2, q3, qk, hR, hS, hB, hLf, hT⟩ := hrel
    obtain ⟨n, hn⟩ : ∃ n, b1 - a1 = n := ⟨_, rfl⟩
    have hni : (b1 : Int) - (a1 : Int) = (n : Int) := by omega
    have hnb : n ≤ 65536 := by omega
    have hb1N : b1 ≤ N := by omega
    by_cases h12 : n ≤ 12
    · have c := W_hid (insert_any g N cap rest a1 b1 Y wr hR.out q2 hb1N hN' hcap (hXs.out Y hS.out))
      replace hn := W_hid hn
      go_wp2_with fail
      refine c.out.mono ?_
      rintro e w5 ⟨rfl, hT5, Z, hR5, hS5, hU5⟩
      have hfin : Hid (Two g g w w5 ∧ ∃ Y, RW w5 g N Y rest ∧ SO.Sw a b X Y ∧ SO.Up Y a b) := ⟨hT.out.trans hT5, Z, hR5, hS.out.trans (hS5.wide q1 q3), SO.left_done (SO.left_sw hLf.out hS5 q1 q3) hU5⟩
      clear c hT5 hR5 hS5 hU5
      go_wp2_with fail
      refine bodyPost_ret (results_none rfl _ _ _) rfl ?_
      exact ⟨rfl, hfin.out⟩
    · have hlt : a1 + 12 < b1 := by omega
      by_cases hk0 : k1 = 0
      · have c := W_hid (heap_any g N cap rest a1 b1 Y wr hR.out (by omega) hb1N hN' hcap)
        subst hk0
        replace hn := W_hid hn
        go_wp2_with fail
        refine c.out.mono ?_
        rintro e w5 ⟨rfl, hT5, Z, hR5, hS5, hU5⟩
        have hfin : Hid (Two g g w w5 ∧ ∃ Y, RW w5 g N Y rest ∧ SO.Sw a b X Y ∧ SO.Up Y a b) := ⟨hT.out.trans hT5, Z, hR5, hS.out.trans (hS5.wide q1 q3), SO.left_done (SO.left_sw hLf.out hS5 q1 q3) hU5⟩
        clear c hT5 hR5 hS5 hU5
        go_wp2_with fail
        refine bodyPost_ret (results_none rfl _ _ _) rfl ?_
        exact ⟨rfl, hfin.out⟩
      · have hkz : ((k1 : Int) == 0) = false := by simp; omega
        obtain ⟨kk, hkk⟩ : ∃ kk, k1 - 1 = kk := ⟨_, rfl⟩
        have hkki : (k1 : Int) - 1 = (kk : Int) := by omega
        have hkb : kk ≤ 1000 := by omega
        have cB := W_hid (break_any g N cap rest a1 b1 Y wr hR.out (by omega) hb1N hN hcap)
        replace hn := W_hid hn
        replace hkk := W_hid hkk
        -- the patterns
        go_upto_if 35 with fail
        go_cut [3] from 19 to 133 (fun l wx => ∃ (k2 : Nat) (Z : Nat → Nat), l = .int .i64 (k2 : Int) ∧ k2 ≤ 1000 ∧ Hid (RW wx g N Z rest) ∧ Hid (SO.Sw a1 b1 Y Z) ∧ Hid (Two g g w wx))
        case first =>
          cases t1 with
          | true =>
            go_wp2_with fail
            go_meet
            exact ⟨k1, Y, rfl, qk, hR, W_hid .refl, hT⟩
          | false =>
            go_wp2_with fail
            refine cB.out.mono ?_
            rintro e w5 ⟨rfl, hT5, Z, hR5, hS5⟩
            replace hT5 := W_hid (hT.out.trans hT5)
            replace hR5 := W_hid hR5
            replace hS5 := W_hid hS5
            go_wp2_with fail
            go_meet
            exact ⟨kk, Z, rfl, hkb, hR5, hS5, hT5⟩
        case rest =>
        clear hR hT cB
        obtain ⟨k2, Z, rfl, qk2, hR, hS2, hT⟩ := hcut
        have cV := W_hid (pivot_any g N cap rest a1 b1 Z wc hR.out (by omega) hb1N hN hcap)
        go_wp2_with fail
        refine cV.out.mono ?_
        rintro e w5 ⟨p, c, rfl, hp1, hp2, hc, hT5, hR5⟩
        replace hT := W_hid (hT.out.trans hT5)
        replace hR := W_hid hR5
        have cR := W_hid (reverse_any g N cap rest a1 b1 Z w5 hR5 (by omega) hb1N hN' hcap)
        obtain ⟨p2, hp2e⟩ : ∃ p2, b1 - 1 - (p - a1) = p2 := ⟨_, rfl⟩
        obtain ⟨b2, hb2e⟩ : ∃ b2, b1 - 1 = b2 := ⟨_, rfl⟩
        obtain ⟨p3, hp3e⟩ : ∃ p3, p - a1 = p3 := ⟨_, rfl⟩
        have e1 : (b1 : Int) - 1 = (b2 : Int) := by omega
        have e2 : (p : Int) - (a1 : Int) = (p3 : Int) := by omega
        have e3 : (b2 : Int) - (p3 : Int) = (p2 : Int) := by omega
        have hpb : Hid (a1 ≤ p2 ∧ p2 < b1) := by show _ ∧ _; omega
        have hpsm : p2 ≤ 65536 ∧ b2 ≤ 65536 ∧ p3 ≤ 65536 := by omega
        replace hp2e := W_hid hp2e
        replace hb2e := W_hid hb2e
        replace hp3e := W_hid hp3e
        clear cV hT5 hR5
        go_upto_if 50 with fail
        go_cut [11, 12] from 19 to 133 (fun u v wx => ∃ (p c : Nat) (Z2 : Nat → Nat), u = .int .i64 (p : Int) ∧ v = .int .i64 (c : Int) ∧ a1 ≤ p ∧ p < b1 ∧ Hid (RW wx g N Z2 rest) ∧ Hid (SO.Sw a1 b1 Z Z2) ∧ Hid (Two g g w wx))
        case first =>
          by_cases hc2 : c = 2
          · subst hc2
            go_wp2_with fail
            refine cR.out.mono ?_
            rintro e w6 ⟨rfl, hT6, Z2, hR6, hS6⟩
            replace hT6 := W_hid (hT.out.trans hT6)
            replace hR6 := W_hid hR6
            replace hS6 := W_hid hS6
            go_wp2_with fail
            go_meet
            exact ⟨p2, 1, Z2, rfl, rfl, hpb.out.1, hpb.out.2, hR6, hS6, hT6⟩
          · have hcz : ((c : Int) == 2) = false := by simp; omega
            go_wp2_with fail
            go_meet
            exact ⟨p, c, Z, rfl, rfl, hp1, hp2, hR, W_hid .refl, hT⟩
        case rest =>
        clear hR hT cR hp1 hp2 hc hpb hpsm e1 e2 e3 hp2e hb2e hp3e
        obtain ⟨p, c, Z2, rfl, rfl, hp1, hp2, hR, hS3, hT⟩ := hcut
        obtain ⟨W2, hW2⟩ : ∃ W, W = wc := ⟨wc, rfl⟩
        go_upto_region 15 with fail
        go_cut [68] from 19 to 133 (fun v wx => (∃ t : Bool, v = .bool t) ∧ wx = W2)
        case first =>
          have hce : c = 1 ∨ ¬ c = 1 := by omega
          rcases hce with rfl | hc1
          case' inr => have hcz : ((c : Int) == 1) = false := by simp; omega
          all_goals
            cases t1 <;> cases t2
          all_goals
            go_wp2_with fail
            go_meet
            exact ⟨⟨_, rfl⟩, hW2.symm⟩
        case rest =>
        obtain ⟨⟨t, rfl⟩, hwc⟩ := hcut
        rw [hwc]
        rw [← hW2] at hR hT
        clear hW2 hwc
        have hS23 := W_hid (hS2.out.trans hS3.out)
        have cI := W_hid (partins_any g N cap rest a1 b1 Z2 W2 hR.out (by omega) hb1N hN' hcap (SO.bel_sw (SO.bel_sw hB.out hS2.out) hS3.out))
        go_upto_if 68 with fail
        go_cut [] from 19 to 133 (fun wx => ∃ (Z4 : Nat → Nat), Hid (RW wx g N Z4 rest) ∧ Hid (SO.Sw a1 b1 Y Z4) ∧ Hid (Two g g w wx))
        case first =>
          cases t with
          | true =>
            go_wp2_with fail
            refine cI.out.mono ?_
            rintro e w6 ⟨tt, rfl, hT6, Z4, hR6, hS6, hU6⟩
            replace hT6 := W_hid (hT.out.trans hT6)
            replace hR6 := W_hid hR6
            replace hS6 := W_hid (hS23.out.trans hS6)
            cases tt with
            | true =>
              have hfin : Hid (Two g g w w6 ∧ ∃ Y, RW w6 g N Y rest ∧ SO.Sw a b X Y ∧ SO.Up Y a b) := ⟨hT6.out, Z4, hR6.out, hS.out.trans (hS6.out.wide q1 q3), SO.left_done (SO.left_sw hLf.out hS6.out q1 q3) (hU6 rfl)⟩
              clear hU6
              go_wp2_with fail
              refine bodyPost_ret (results_none rfl _ _ _) rfl ?_
              exact ⟨rfl, hfin.out⟩
            | false =>
              clear hU6
              go_wp2_with fail
              go_meet
              exact ⟨Z4, hR6, hS6, hT6⟩
          | false =>
            go_wp2_with fail
            go_meet
            exact ⟨Z2, hR, hS23, hT⟩
        case rest =>
        clear hR hT hS2 hS3 hS23 cI
        obtain ⟨Z4, hR, hS4, hT⟩ := hcut
        have hB4 := W_hid (SO.bel_sw hB.out hS4.out)
        have hS5 := W_hid (hS.out.trans (hS4.out.wide q1 q3))
        have hI5 := W_hid (hS5.out.inj hb hInj.out)
        have hLf5 := W_hid (SO.left_sw hLf.out hS4.out q1 q3)
        clear hLf hB hS hS4
        go_upto_region 17 with fail
        go_cut [87] from 19 to 133 (fun v wx => v = .bool false ∧ Hid (RW wx g N Z4 rest) ∧ Hid (Two g g w wx))
        case first =>
          rename_i J1 K1 hJ1 hK1
          by_cases ha0 : a1 = 0
          · subst ha0
            go_quiet (fail)
            refine hK1 _ _ (Met.intro (hJ1 _ _ ?_))
            repeat apply Exists.intro
            exact ⟨⟨rfl, W_hid (hR.out.drewN nq), W_hid (hT.out.drew nq)⟩, rfl⟩
          · obtain ⟨a0, ha⟩ : ∃ a0, a1 = a0 + 1 := ⟨a1 - 1, by omega⟩
            have ea : (a1 : Int) - 1 = (a0 : Int) := by omega
            have hpos : 0 < a1 := by omega
            have hb0 : a0 < N ∧ p < N := by omega
            have da := hR.out.cell a0 hb0.1
            have dp := hR.out.cell p hb0.2
            obtain ⟨va, hva⟩ : ∃ v, Z4 a0 = v := ⟨_, rfl⟩
            obtain ⟨vp, hvp⟩ : ∃ v, Z4 p = v := ⟨_, rfl⟩
            have hless : va < vp := by
              rcases hB4.out with h0 | h0
              · omega
              · have h1 := h0 p hp1 hp2
                rw [show a1 - 1 = a0 by omega, hva, hvp] at h1
                rcases Nat.lt_or_ge va vp with hh | hh
                · exact hh
                · have h2 := hI5.out a0 p hb0.1 hb0.2 (by rw [hva, hvp]; omega)
                  omega
            rw [hva] at da
            rw [hvp] at dp
            have hL := W_hid (fun t => Calls.quiet_of_same (Less_any va vp (wc.drewN t)))
            rw [show decide (va < vp) = true by simp [hless]] at hL
            replace ha := W_hid ha
            replace hva := W_hid hva
            replace hvp := W_hid hvp
            replace hless := W_hid hless
            go_quiet ((go_at_call 185; exact hL.out _))
            refine hK1 _ _ (Met.intro (hJ1 _ _ ?_))
            repeat apply Exists.intro
            exact ⟨⟨rfl, W_hid (hR.out.drewN nq), W_hid (hT.out.drew nq)⟩, rfl⟩
        case rest =>
        clear hR hT
        obtain ⟨rfl, hR, hT⟩ := hcut
        have cP := W_hid (partition_any g N cap rest a1 b1 p Z4 wc hR.out hp1 hp2 hb1N hN' hcap)
        go_wp2_with fail
        refine cP.out.mono ?_
        rintro e w7 ⟨m, t3, rfl, hm1, hm2, hT7, Z5, hR7, hS7, hP7⟩
        replace hT7 := W_hid (hT.out.trans hT7)
        have hB7 := W_hid (SO.bel_sw hB4.out hS7)
        have hS8 := W_hid (hS5.out.trans (hS7.wide q1 q3))
        have hI8 := W_hid (hS8.out.inj hb hInj.out)
        have hLf8 := W_hid (SO.left_sw hLf5.out hS7 q1 q3)
        replace hR7 := W_hid hR7
        replace hP7 := W_hid hP7
        obtain ⟨l1, hl1⟩ : ∃ l, m - a1 = l := ⟨_, rfl⟩
        obtain ⟨l2, hl2⟩ : ∃ l, b1 - m = l := ⟨_, rfl⟩
        obtain ⟨th, hth⟩ : ∃ t, n / 8 = t := ⟨_, rfl⟩
        have f1 : (m : Int) - (a1 : Int) = (l1 : Int) := by omega
        have f2 : (b1 : Int) - (m : Int) = (l2 : Int) := by omega
        have f3 : (n : Int).tdiv 8 = (th : Int) := by rw [← hth]; rfl
        have hlb : l1 ≤ 65536 ∧ l2 ≤ 65536 ∧ th ≤ 65536 := by omega
        obtain ⟨m1, hm1e⟩ : ∃ x, m + 1 = x := ⟨_, rfl⟩
        have f4 : (m : Int) + 1 = (m1 : Int) := by omega
        have hLL : Hid (l1 < L ∧ b1 - m1 < L ∧ m1 ≤ b1) := by
          have := hL.out
          show _ ∧ _ ∧ _
          omega
        have cL := W_hid (hIH.out l1 hLL.out.1 a1 m k2 Z5 w7 hl1 hm1 (by omega) qk2 hR7.out (SO.bel_left hB7.out (by omega)) hI8.out (hXs.out Z5 hS8.out))
        have cU := W_hid (hIH.out (b1 - m1) hLL.out.2.1 m1 b1 k2 Z5 w7 rfl hLL.out.2.2 hb1N qk2 hR7.out (by rw [← hm1e]; exact SO.bel_right hP7.out) hI8.out (hXs.out Z5 hS8.out))
        replace hl1 := W_hid hl1
        replace hl2 := W_hid hl2
        replace hth := W_hid hth
        clear cP hR hT hS7 hB4 hI5 hLf5 hS5
        by_cases hll : l1 < l2
        · clear cU
          go_wp2_with fail
          refine cL.out.mono ?_
          rintro e w8 ⟨rfl, hT8, Z6, hR8, hS9, hU9⟩
          have hP9 := SO.parted_left hP7.out hS9 hm2
          have hS9w := hS9.wide (a' := a1) (b' := b1) (Nat.le_refl _) (by omega)
          have hfin : Hid (RW w8 g N Z6 rest ∧ SO.Sw a b X Z6 ∧ SO.Bel Z6 m1 b1 ∧ SO.Left Z6 a b m1 b1 ∧ Two g g w w8) := by
            rw [← hm1e]
            exact ⟨hR8, hS8.out.trans (hS9.wide q1 (by omega)), SO.bel_right hP9, SO.left_lower (SO.left_sw hLf8.out hS9w q1 q3) hP9 hm1 hm2 hU9, hT7.out.trans hT8⟩
          have hmb : Hid (a ≤ m1 ∧ m1 ≤ b1 ∧ b1 - m1 < b1 - a1) := by show _ ∧ _ ∧ _; omega
          replace hm1e := W_hid hm1e
          clear hT8 hR8 hS9 hU9 hP9 hS9w cL
          go_wp2_with fail
          go_roundw
          case rel => exact ⟨m1, b1, k2, _, t3, Z6, rfl, rfl, rfl, rfl, rfl, hmb.out.1, hmb.out.2.1, q3, qk2, W_hid hfin.out.1, W_hid hfin.out.2.1, W_hid hfin.out.2.2.1, W_hid hfin.out.2.2.2.1, W_hid hfin.out.2.2.2.2⟩
          case measure => (have := hmb.out.2.2); first | (simp [intOf]; omega) | simp [intOf]
        · clear cL
          go_wp2_with fail
          refine cU.out.mono ?_
          rintro e w8 ⟨rfl, hT8, Z6, hR8, hS9, hU9⟩
          have hfin : Hid (RW w8 g N Z6 rest ∧ SO.Sw a b X Z6 ∧ SO.Bel Z6 a1 m ∧ SO.Left Z6 a b a1 m ∧ Two g g w w8) := by
            rw [← hm1e] at hS9 hU9
            have hP9 := SO.parted_right hP7.out hS9
            have hS9w := hS9.wide (a' := a1) (b' := b1) (by omega) (Nat.le_refl _)
            exact ⟨hR8, hS8.out.trans (hS9.wide (by omega) q3), SO.bel_left (SO.bel_sw hB7.out hS9w) (by omega), SO.left_upper (SO.left_sw hLf8.out hS9w q1 q3) hP9 hm1 hm2 hU9, hT7.out.trans hT8⟩
          have hmb : Hid (m ≤ b ∧ m - a1 < b1 - a1) := by show _ ∧ _; omega
          replace hm1e := W_hid hm1e
          clear hT8 hR8 hS9 hU9 cU
          go_wp2_with fail
          go_roundw
          case rel => exact ⟨a1, m, k2, _, t3, Z6, rfl, rfl, rfl, rfl, rfl, q1, hm1, hmb.out.1, qk2, W_hid hfin.out.1, W_hid hfin.out.2.1, W_hid hfin.out.2.2.1, W_hid hfin.out.2.2.2.1, W_hid hfin.out.2.2.2.2⟩
          case measure => (have := hmb.out.2); first | (simp [intOf]; omega) | simp [intOf]
theorem pdq_all (g N cap : Nat) (rest : List Value) (hN : N < 65536) (hcap : N ≤ cap) (L : Nat) : PdqAt g N cap rest L := by
  induction L using Nat.strongRecOn with
  | ind L ih => exact pdq_step g N cap rest hN hcap L ih
set_option maxRecDepth 100000 in
set_option maxHeartbeats 4000000 in
theorem Sort_all (g N cap : Nat) (rest : List Value) (X : Nat → Nat) (w : World) (h : RW w g N X rest) (hN : N < 65536) (hcap : N ≤ cap) (hX : ∀ i, i < N → X i < 9223372036854775808) (hI : SO.Inj X N) :
    Calls Tryz.prog 111 #[.slice (some ⟨g, 0, none⟩) N cap] w fun e w' => e = .returned (.tuple #[]) ∧ Two g g w w' ∧ ∃ Y, RW w' g N Y rest ∧ SO.Sw 0 N X Y ∧ SO.Up Y 0 N := by
  have cL := Len_any (N : Int) w (by omega) (by omega)
  have cP := W_hid (fun (k : Nat) hk => pdq_all g N cap rest hN hcap N 0 N k X w (by omega) (Nat.zero_le _) (Nat.le_refl _) hk h (.inl rfl) hI hX)
  clear h
  go_enter Tryz.func111, Tryz.ntmps111
  go_wp2_with (first
    | (go_at_call 157; refine cL.mono ?_; rintro e w' ⟨⟨k, rfl, hk⟩, rfl⟩)
    | (go_at_call 156; refine (cP.out _ (by omega)).mono ?_; rintro e w' ⟨rfl, hT, Y, hR, hS, hU⟩))
  go_end0
  exact ⟨rfl, hT, Y, hR, hS, hU⟩
end IS
namespace IS
set_option maxRecDepth 100000 in
set_option maxHeartbeats 4000000 in
theorem Sorted_all (Bm b : Nat) (M : Int → Option Nat) (w : World) (hBm : Bm < w.heap.size) (hb : b < w.heap.size) (hm : w.cell? ⟨Bm, 0, none⟩ = some (.map (some b))) (hMB : MB w b M)
    (hsm : ∀ ss, Nums M ss → ss.length < 65536) (hne : ∃ f : Nat, M f ≠ none) :
    Calls Tryz.prog 60 #[.func (.func 112) #[] #[.pointer (some ⟨Bm, 0, none⟩)]] w fun e w' => ∃ (v : Value) (l : List Nat), e = .returned v ∧ Nums M l ∧ l.Pairwise (· ≤ ·) ∧ Nlist w.heap.size w' v l ∧ Below w.heap.size w w' := by
  have cC := Collect_any Bm b M w hBm hb hm hMB
  have hlt := fun ss (h : Nums M ss) => h.lt hMB
  clear hm
  go_enter Tryz.func60, Tryz.ntmps60
  go_wp2_with (go_at_call 110; refine cC.mono ?_; rintro e w1 ⟨v, ss, rfl, hN, hown, hnil, hB⟩)
  have hne0 : ss ≠ [] := by
    obtain ⟨f, hf⟩ := hne
    intro e
    have := (hN.2 f).2 hf
    rw [e] at this
    cases this
  rcases hown.2 with ⟨h0, -⟩ | ⟨g, cap, cur, rfl, hbase, hg, h1, h2, h3, h4⟩
  · exact absurd (hnil.1 h0) hne0
  have hrw : RW w1 g ss.length (fun i => ss.getD i 0) (cur.toList.drop ss.length) := by
    refine ⟨?_⟩
    unfold Blk
    rw [hg, lst_of]
    have e : ss.map nk ++ cur.toList.drop ss.length = cur.toList := by
      rw [Nat.mul_one] at h4
      rw [← h4, List.take_append_drop]
    rw [e]
  have cS := W_hid (Sort_all g ss.length cap _ _ w1 hrw (hsm ss hN) (by omega) (fun i hi => by
    have := hlt ss hN (ss.getD i 0) (by rw [List.getD, List.getElem?_eq_getElem hi]; exact List.getElem_mem _)
    omega) (SO.inj_of_nodup _ _ (by rw [lst_of]; exact hN.1)))
  clear hrw h4 h3 hg
  go_wp2_with (go_at_call 111; refine cS.out.mono ?_; rintro e w2 ⟨rfl, hT, Y, hR, hS, hU⟩)
  go_ret
  refine ⟨_, SO.lst Y ss.length, rfl, ⟨?_, fun f => ?_⟩, up_pairwise hU, ⟨⟨g, cap, _, by rw [SO.lst_len]; rfl, hbase, by rw [SO.lst_len]; exact h1, hR.blk⟩⟩, hB.trans (hT.below hB.size hbase hbase)⟩
  · refine SO.lst_nodup _ _ (hS.inj (Nat.le_refl _) (SO.inj_of_nodup _ _ ?_))
    rw [lst_of]; exact hN.1
  · rw [hS.mem (Nat.le_refl _), lst_of, hN.2 f]
end IS
namespace Own
def Src (w : World) (size : Nat) (u : Value) (m : Nat) (ys : List Value) : Prop :=
  (u = .slice none 0 0 ∧ m = 0 ∧ ys = []) ∨ ∃ ad c, u = .slice (some ad) m c ∧ ys.length = m * size ∧ ∀ j v, ys[j]? = some v → w.cell? (ad.add j) = some v
theorem Src.keep {w w' : World} {size m : Nat} {u : Value} {ys : List Value} (h : Src w size u m ys) (hb : Below w.heap.size w w') : Src w' size u m ys := by
  rcases h with h | ⟨ad, c, h1, h2, h3⟩
  · exact .inl h
  · exact .inr ⟨ad, c, h1, h2, fun j v hj => by rw [hb.cell (World.block_lt_of_cell? w _ (h3 j v hj))]; exact h3 j v hj⟩
theorem Src.grown {w w' : World} {size m : Nat} {u : Value} {ys : List Value} {row : Option Nat} (h : Src w size u m ys) (hg : w.grownBy w' row) (hr : ∀ ad n c, u = .slice (some ad) n c → 0 < n → some ad.block ≠ row) : Src w' size u m ys := by
  rcases h with h | ⟨ad, c, h1, h2, h3⟩
  · exact .inl h
  · refine .inr ⟨ad, c, h1, h2, fun j v hj => ?_⟩
    have hm : 0 < m := by
      rcases Nat.eq_zero_or_pos m with h0 | h0
      · subst h0
        rw [Nat.zero_mul] at h2
        rw [List.eq_nil_of_length_eq_zero h2] at hj
        cases hj
      · exact h0
    refine cellg hg (h3 j v hj) ?_
    have e : (ad.add j).block = ad.block := by unfold Addr.add; split <;> rfl
    rw [e]
    exact hr ad m c h1 hm
def Info (P : Program) (e : TypeId) (z : Value) (size bytes : Nat) : Prop := ∃ i, P.info? e = some i ∧ i.zero = some z ∧ i.size = size ∧ i.bytes = bytes ∧ z.cells.size = size ∧ 0 < size
theorem info_of {P : Program} {e : TypeId} {z : Value} {size bytes : Nat} (h : (P.info? e).map (fun i => (i.zero, i.size, i.bytes)) = some (some z, size, bytes)) (h2 : z.cells.size = size) (h3 : 0 < size) : Info P e z size bytes := by
  cases hi : P.info? e with
  | none => rw [hi] at h; cases h
  | some i =>
    rw [hi] at h
    simp only [Option.map_some, Option.some.injEq, Prod.mk.injEq] at h
    exact ⟨i, hi, h.1, h.2.1, h.2.2, h2, h3⟩
theorem run_app {P : Program} {w : World} {t ty e : TypeId} {z : Value} {size bytes : Nat} (ht : P.underlying t = some (.slice e)) (hinf : Info P e z size bytes) {base n m : Nat} {v u : Value} {xs ys : List Value}
    (hown : w.ownsRow base e size v n xs) (hbase : base ≤ w.heap.size) (hs : Src w size u m ys) (h1 : ∀ u ∈ ys, u.oneCell' = true) (h63 : n + m ≤ maxLen) (hb : (n + m) * bytes ≤ 140737488355328) :
    ∃ v' w', (Builtin.append_ #[t, t] ty #[v, u]).run P w = .ok v' w' ∧ w'.ownsRow base e size v' (n + m) (xs ++ ys) ∧ w.grownBy w' v.ownBlock ∧ (v'.ownBlock = v.ownBlock ∨ v'.ownBlock = some w.heap.size) := by
  obtain ⟨i, hi, hz, hsize, hby, hzs, hsz⟩ := hinf
  rcases hs with ⟨rfl, rfl, rfl⟩ | ⟨ad, c, rfl, hl, hc⟩
  · refine ⟨v, w, run_append_owned_none (P := P) (w := w) base t ty e i size ht hi v n xs hown, ?_, World.grownBy.refl w _, .inl rfl⟩
    simpa using hown
  · obtain ⟨v', w', h1, h2, h3, -, h5⟩ := run_append_own_at (P := P) w base t ty e i z size bytes ht hi hz hsize hby hzs hsz v n xs hown ad m c ys hl hc h1 h63 hb hbase
    exact ⟨v', w', h1, h2, h3, h5⟩
theorem wpList_app {P : Program} {ops : Array Oper} {rest : List Oper} {o : Oper} {a : Act} {w : World} {Q : Exit → Act → World → Prop} (hgd : o.guard = none) (s x : Operand) (t : TypeId)
    (hop : o.op = Op.call { callee := Callee.builtin Builtin.append, args := #[s, x], argTypes := #[t, t] })
    {e : TypeId} {z : Value} {size bytes : Nat} (ht : P.underlying t = some (.slice e)) (hinf : Info P e z size bytes) {base n m : Nat} (v u : Value) {xs ys : List Value} (hs : a.eval s = v) (hx : a.eval x = u)
    (hown : w.ownsRow base e size v n xs) (hbase : base ≤ w.heap.size) (hsrc : Src w size u m ys) (h1 : ∀ u ∈ ys, u.oneCell' = true) (h63 : n + m ≤ maxLen) (hb : (n + m) * bytes ≤ 140737488355328)
    (hK : ∀ v' w', w'.ownsRow base e size v' (n + m) (xs ++ ys) → w.grownBy w' v.ownBlock → (v'.ownBlock = v.ownBlock ∨ v'.ownBlock = some w.heap.size) → wpList P ops Q rest (a.put o.dst v') w') : wpList P ops Q (o :: rest) a w := by
  refine wpList_plain hgd fun K' hK' => ?_
  obtain ⟨v', w', hrun, r1, r2, r3⟩ := run_app (ty := o.type) ht hinf hown hbase hsrc h1 h63 hb
  unfold Oper.wp
  simp [execOp, hop, resolve, invoke, builtin, hs, hx, hrun, Result.andThen]
  exact hK' _ _ (hK v' w' r1 r2 r3)
theorem make_room {P : Program} {t e : TypeId} {z : Value} {size bytes : Nat} (ht : P.underlying t = some (.slice e)) (hinf : Info P e z size bytes) (m : Nat) (zz : Int) (hzm : zz = m) (h : m * bytes ≤ 140737488355328) (h2 : m ≤ 140737488355328) :
    ∃ X : Obj, (∀ W : World, (Instr.makeSlice t (.int .i64 0) (.int .i64 zz)).run P W = .ok (.slice (some ⟨W.heap.size, 0, none⟩) 0 m) (W.alloc X)) ∧
    ∀ (W : World) (base : Nat), base ≤ W.heap.size → (W.alloc X).ownsRow base e size (.slice (some ⟨W.heap.size, 0, none⟩) 0 m) 0 [] := by
  subst hzm
  obtain ⟨i0, hi, hz0, hz1, hz2, hzs, hsz⟩ := hinf
  refine ⟨_, fun W => ?_, fun W base hb => World.ownsRow_made (size := size) W _ m hb (by unfold maxLen; omega) (size_madeCells z.cells (m * size))⟩
  have hr := run_make (P := P) W t e i0 z ht hi hz0 .i64 .i64 0 (m : Int) (Int.le_refl _) (by omega) (by rw [hz2, Int.mul_comm, ← Int.natCast_mul]; omega) (by omega)
  simp only [Int.toNat_zero, Int.toNat_natCast, hz1] at hr
  exact hr
end Own
namespace IS
set_option maxRecDepth 100000 in
set_option maxHeartbeats 1000000 in
theorem insert_nil (w : World) : Calls Tryz.prog 179 #[.slice none 0 0, .int .i64 0, .int .i64 0] w fun e w' => e = .returned (.tuple #[]) ∧ w' = w := by
  go_enter Tryz.func179, Tryz.ntmps179
  go_wp2_with fail
  go_loopw [6] (fun v wr => v = .int .i64 1 ∧ wr = w) (fun _ _ => 0)
  case atStart => exact ⟨rfl, rfl⟩
  case round =>
    obtain ⟨rfl, rfl⟩ := hrel
    go_wp2_with fail
    go_end0
    exact ⟨rfl, rfl⟩
set_option maxRecDepth 100000 in
set_option maxHeartbeats 1000000 in
theorem pdq_nil (k : Nat) (w : World) : Calls Tryz.prog 156 #[.slice none 0 0, .int .i64 0, .int .i64 0, .int .i64 (k : Int)] w fun e w' => e = .returned (.tuple #[]) ∧ w' = w := by
  have c := W_hid (insert_nil w)
  go_enter Tryz.func156, Tryz.ntmps156
  go_wp2_with fail
  go_loopw [1, 2, 3, 8, 9] (fun a b l _ _ wr => a = .int .i64 0 ∧ b = .int .i64 0 ∧ l = .int .i64 (k : Int) ∧ wr = w) (fun _ _ _ _ _ _ => 0)
  case atStart => exact ⟨rfl, rfl, rfl, rfl⟩
  case round =>
    obtain ⟨rfl, rfl, rfl, rfl⟩ := hrel
    go_wp2_with fail
    refine c.out.mono ?_
    rintro e w' ⟨rfl, rfl⟩
    go_wp2_with fail
    refine bodyPost_ret (results_none rfl _ _ _) rfl ?_
    exact ⟨rfl, rfl⟩
set_option maxRecDepth 100000 in
set_option maxHeartbeats 1000000 in
theorem Sort_nil (w : World) : Calls Tryz.prog 111 #[.slice none 0 0] w fun e w' => e = .returned (.tuple #[]) ∧ w' = w := by
  have cL := Len_any 0 w (by omega) (by omega)
  have cP := W_hid (fun k : Nat => pdq_nil k w)
  go_enter Tryz.func111, Tryz.ntmps111
  go_wp2_with (first
    | (go_at_call 157; refine cL.mono ?_; rintro e w' ⟨⟨k, rfl, hk⟩, rfl⟩)
    | (go_at_call 156; refine (cP.out _).mono ?_; rintro e w' ⟨rfl, rfl⟩))
  go_end0
  exact ⟨rfl, rfl⟩
def LC (base : Nat) (w : World) (v : Value) (l : List Nat) : Prop := ∃ ao cap, v = .slice ao l.length cap ∧ ∀ i (hi : i < l.length), ∃ blk off, ao = some ⟨blk, off, none⟩ ∧ base ≤ blk ∧ blk < w.heap.size ∧ w.cell? ⟨blk, off + i, none⟩ = some (.int .i64 (l[i] : Int))
theorem LC.nlist {base : Nat} {w : World} {v : Value} {l : List Nat} (h : Nlist base w v l) : LC base w v l := by
  obtain ⟨g, cap, rest, rfl, h1, h2, h3⟩ := h.ex
  refine ⟨_, _, rfl, fun i hi => ⟨g, 0, rfl, h1, h3.lt, ?_⟩⟩
  rw [Nat.zero_add]
  refine h3.cell ?_
  rw [List.getElem?_append_left (by simpa using hi), List.getElem?_map, List.getElem?_eq_getElem hi]
  rfl
set_option maxRecDepth 100000 in
set_option maxHeartbeats 4000000 in
theorem Sorted_nums (Bm b : Nat) (M : Int → Option Nat) (w : World) (hBm : Bm < w.heap.size) (hb : b < w.heap.size) (hm : w.cell? ⟨Bm, 0, none⟩ = some (.map (some b))) (hMB : MB w b M) (ks : List Nat) (hk : Nums M ks) (hr : ks.Pairwise (· < ·)) (hlen : ks.length < 65536) :
    Calls Tryz.prog 60 #[.func (.func 112) #[] #[.pointer (some ⟨Bm, 0, none⟩)]] w fun e w' => ∃ v, e = .returned v ∧ LC w.heap.size w' v ks ∧ Below w.heap.size w w' := by
  cases ks with
  | nil =>
    have cC := W_hid (Collect_any Bm b M w hBm hb hm hMB)
    have hS := W_hid Sort_nil
    have hk := W_hid hk
    clear hm hMB
    go_enter Tryz.func60, Tryz.ntmps60
    go_wp2_with fail
    refine cC.out.mono ?_
    rintro e w1 ⟨v, ss, rfl, hN, hown, hnil, hB⟩
    have hss : ss = [] := List.eq_nil_of_length_eq_zero (by have := hN.len_eq hk.out; simpa using this)
    obtain rfl := hnil.2 hss
    clear hN hown hnil hss
    go_wp2_with fail
    refine (hS.out w1).mono ?_
    rintro e w2 ⟨rfl, rfl⟩
    go_wp2_with fail
    go_ret
    exact ⟨_, rfl, ⟨none, 0, rfl, fun i hi => by simp at hi⟩, hB⟩
  | cons x r =>
    refine (Sorted_all Bm b M w hBm hb hm hMB (fun ss hs => by rw [hs.len_eq hk]; exact hlen) ⟨x, (hk.2 x).1 (by simp)⟩).mono ?_
    rintro e w' ⟨v, l, rfl, hN, hp, hl, hB⟩
    have hl1 : l.Pairwise (· < ·) := by
      refine List.pairwise_iff_getElem.2 fun i j hi hj hij => ?_
      have h3 := List.pairwise_iff_getElem.1 hp i j hi hj hij
      have h4 := List.pairwise_iff_getElem.1 hN.1 i j hi hj hij
      omega
    have e : l = x :: r := IN.rise_eq hl1 hr fun y => by rw [hN.2 y, hk.2 y]
    subst e
    exact ⟨v, rfl, LC.nlist hl, hB⟩
end IS
namespace IN
def stcl (l : List (Nat × Nd)) : List Value := l.flatMap fun x => stl (x.1 : Int) x.2
theorem stcl_app (a b : List (Nat × Nd)) : stcl (a ++ b) = stcl a ++ stcl b := List.flatMap_append
theorem stcl_one (x : Nat × Nd) : stcl [x] = stl (x.1 : Int) x.2 := by simp [stcl]
theorem info_stat : Own.Info Tryz.prog 65 (.agg zl.toArray) 6 48 := Own.info_of (by kernel_rfl) rfl (by decide)
theorem stl_cells (w : World) (n : Int) (d : Nd) (g : Nat) (hB : Blk w g 65 (stl n d)) : Own.Src w 6 (.slice (some ⟨g, 0, none⟩) 1 1) 1 (stl n d) :=
  .inr ⟨_, _, rfl, by simp [stl], fun j v hj => by
    have := hB.cell hj
    rw [Addr.add_lit, Nat.zero_add]
    exact this⟩
theorem stl_one (n : Int) (d : Nd) : ∀ u ∈ stl n d, u.oneCell' = true := by
  intro u hu
  simp only [stl, List.mem_cons, List.not_mem_nil, or_false] at hu
  rcases hu with rfl | rfl | rfl | rfl | rfl | rfl <;> rfl
section
variable {base sg mb I L B k : Nat} {M : Int → Option Nat} {S : Int → Option Nd}
set_option maxRecDepth 100000 in
theorem ask_one {w : World} {I L left : Int} (h : PM base w sg mb M I L left S) :
    Calls Tryz.prog 58 #[.int .i64 0, .slice (some ⟨w.heap.size, 0, none⟩) 1 1] (w.alloc (.cells #[.func (.func 59) #[.pointer (some ⟨sg, 0, none⟩)] #[]] 42)) fun e w' => e = .returned (.int .i64 0) ∧ Below w.heap.size w w' := by
  have hal := (Below.refl w.heap.size w).alloc (Nat.le_refl _) (.cells #[.func (.func 59) #[.pointer (some ⟨sg, 0, none⟩)] #[]] 42)
  refine (first_one (.pointer (some ⟨sg, 0, none⟩)) _ 0 0 w.heap.size _ (chk_blk w [.func (.func 59) #[.pointer (some ⟨sg, 0, none⟩)] #[]] _ rfl)
    (fun w => by kernel_rfl) (fun W hW => made_some _ W (h.keep (hal.trans (hW.mono hal.size))))).mono ?_
  rintro e w' ⟨rfl, hb⟩
  exact ⟨rfl, hal.trans (hb.mono hal.size)⟩
set_option maxRecDepth 100000 in
set_option maxHeartbeats 8000000 in
theorem All_any (w : World) (h : PS base w sg mb M I L B k S) :
    Calls Tryz.prog 22 #[.pointer (some ⟨sg, 0, none⟩)] w fun e w' => ∃ v, e = .returned v ∧ w'.ownsRow w.heap.size 65 6 v (lst S I).length (stcl (lst S I)) ∧ Below w.heap.size w w' := by
  have hmf : ∀ (fn : Fn) (first cap : Array Value) (w : World), (Instr.makeFunc fn first cap).run Tryz.prog w = .ok (.func fn first cap) w := fun _ _ _ _ => rfl
  have cA := W_hid (ask_one h.pm)
  have hlen := lst_len S I
  have hI := h.lim.1
  have hN := W_hid h.nums
  have hrise := W_hid (ks_rise S I)
  have hkl := W_hid (ks_len S I)
  have hgood := W_hid h.fn
  have hmem : Hid (∀ j (hj : j < (lst S I).length), 1 ≤ (lst S I)[j].1 ∧ (lst S I)[j].1 ≤ I ∧ S ((lst S I)[j].1 : Int) = some (lst S I)[j].2) := W_hid (fun j hj => mem_lst.1 (List.getElem_mem hj))
  have hkat : Hid (∀ j (hj : j < (ks S I).length) (hj2 : j < (lst S I).length), (ks S I)[j] = (lst S I)[j].1) := W_hid (fun j hj hj2 => by simp [ks])
  have H := W_hid h
  obtain ⟨Ls, hLs⟩ : ∃ Ls, lst S I = Ls := ⟨_, rfl⟩
  rw [hLs] at hlen hkl hmem hkat ⊢
  obtain ⟨Ks, hKs⟩ : ∃ Ks, ks S I = Ks := ⟨_, rfl⟩
  rw [hKs] at hN hrise hkl hkat
  obtain ⟨N, hNN⟩ : ∃ N, Ls.length = N := ⟨_, rfl⟩
  rw [hNN] at hlen hkl ⊢
  obtain ⟨X, hmk, hmo⟩ := Own.make_room (t := 48) Tryz.underlying48 info_stat N (N : Int) rfl (by omega) (by omega)
  replace hmo := W_hid hmo
  replace hNN := W_hid hNN
  clear h hLs hKs
  go_enter Tryz.func22, Tryz.ntmps22
  go_wp2_with fail
  refine cA.out.mono ?_
  rintro e w1 ⟨rfl, b1⟩
  have h1 := H.out.keep b1
  have c0 := h1.pm.box.cell (j := 0) rfl
  have hcnt : ∀ ty, (Builtin.len_ #[84] ty #[.map (some mb)]).run Tryz.prog w1 = .ok (.int .i64 (N : Int)) w1 := fun ty => by have := h1.pm.mp.count hN.out ty; rw [hkl.out] at this; exact this
  have hown0 := W_hid (hmo.out w1 w1.heap.size (Nat.le_refl _))
  have b2 := b1.alloc b1.size X
  obtain ⟨w2, hw2⟩ : ∃ w2, w1.alloc X = w2 := ⟨_, rfl⟩
  rw [hw2] at hown0 b2
  have hs2 : w2.heap.size = w1.heap.size + 1 := by rw [← hw2]; simp
  have h2 := H.out.keep b2
  have d0 := h2.pm.box.cell (j := 0) rfl
  have hbox := (Blk.new w2 84 [.map (some mb)] rfl).cell (j := 0) rfl
  have b3 := b2.alloc b2.size (.cells #[.map (some mb)] 84)
  have cK := W_hid (IS.Keys_any mb w2)
  have cS := W_hid (IS.Sorted_nums w2.heap.size mb M (w2.alloc (.cells #[.map (some mb)] 84)) (by simp) (by have := h2.pm.mp.lt; simp; omega) hbox (h2.pm.mp.alloc _) Ks hN.out hrise.out (by rw [hkl.out]; omega))
  have hs1 := b1.size
  have b1 := W_hid b1
  have b3 := W_hid b3
  replace hs2 := W_hid hs2
  clear cA hbox h1 h2 b2 hmo hN hrise
  go_wp2_with fail
  refine cK.out.mono ?_
  rintro e w3 ⟨rfl, rfl⟩
  go_wp2_with fail
  refine cS.out.mono ?_
  rintro e w4 ⟨v4, rfl, ⟨ao, cap, rfl, hcell⟩, b4⟩
  rw [hkl.out]
  have b5 := W_hid (b3.out.trans (b4.mono b3.out.size))
  have hown4 : Hid (w4.ownsRow w1.heap.size 65 6 (.slice (some ⟨w1.heap.size, 0, none⟩) 0 N) 0 []) := W_hid (Own.below (Own.below hown0.out ((Below.refl _ w2).alloc (Nat.le_refl _) _)) b4)
  have hcell : Hid (∀ i (hi : i < N), ∃ blk off, ao = some ⟨blk, off, none⟩ ∧ w1.heap.size < blk ∧ blk < w4.heap.size ∧ w4.cell? ⟨blk, off + i, none⟩ = some (.int .i64 ((Ls[i]'(by rw [hNN.out]; exact hi)).1 : Int))) := W_hid (fun i hi => by
    obtain ⟨blk, off, h1, h0, h2, h3⟩ := hcell i (by rw [hkl.out]; exact hi)
    rw [hkat.out i _ (by rw [hNN.out]; exact hi)] at h3
    exact ⟨blk, off, h1, by have := hs2.out; simp at h0; omega, h2, h3⟩)
  have hsw := hs1
  have hsz4 : w1.heap.size ≤ w4.heap.size := by have := b4.size; have := hs2.out; simp at *; omega
  clear hown0 b4 b3 cS cK hkat hkl d0 c0
  replace hw2 := W_hid hw2
  go_wp2_with fail
  go_loopw [24, 3] (fun i v wr => ∃ (j : Nat), j ≤ N ∧ i = .int .i64 (j : Int) ∧ Hid (wr.ownsRow w1.heap.size 65 6 v j (stcl (Ls.take j))) ∧ Hid (v.ownBlock = some w1.heap.size ∨ ∃ g, w4.heap.size ≤ g ∧ v.ownBlock = some g) ∧ Hid (Two w1.heap.size w1.heap.size w4 wr)) (fun i _ _ => N - (intOf i).toNat)
  case atStart => exact ⟨0, Nat.zero_le _, rfl, hown4, W_hid (.inl rfl), W_hid (Two.refl _ _ _)⟩
  case round =>
    obtain ⟨j, hj, rfl, hown, hob, hT⟩ := hrel
    have belr := W_hid (b5.out.trans (hT.out.below (B := w.heap.size) (by omega) hsw hsw))
    by_cases hlt : j < N
    · obtain ⟨blk, off, rfl, hb1, hb2, hc⟩ := hcell.out j hlt
      have hm := hmem.out j (by rw [hNN.out]; exact hlt)
      have htake := EM.take_snoc Ls j (by rw [hNN.out]; exact hlt)
      obtain ⟨⟨nj, dj⟩, hx⟩ : ∃ x, Ls[j]'(by rw [hNN.out]; exact hlt) = x := ⟨_, rfl⟩
      rw [hx] at hc hm htake
      simp only at hc hm
      have hc' : wr.cell? ⟨blk, off + j, none⟩ = some (.int .i64 (nj : Int)) := by
        rw [World.cell?_of_block (w := w4) (w' := wr) (a := ⟨blk, off + j, none⟩) (hT.out.block blk hb2 (by omega) (by omega))]
        exact hc
      have cT := stat_any (nj : Int) dj wr (H.out.keep belr.out).pm ⟨by omega, by omega⟩ hm.2.2 (hgood.out.good _ _ hm.2.2).ok
      simp only [stl] at cT
      replace cT := W_hid cT
      replace htake := W_hid htake
      have hsr := hT.out.size
      clear hx hc hm
      go_wp2_with fail
      refine cT.out.mono ?_
      rintro e w5 ⟨rfl, b6⟩
      have hsrc := stl_cells (w5.alloc (.cells #[.int .i64 (nj : Int), .int .i64 dj.kind, .int .i64 dj.links, .int .i64 dj.opens, .int .i64 dj.size, .int .i64 (EM.cnt dj.l : Int)] 65)) (nj : Int) dj w5.heap.size (Blk.new w5 65 (stl (nj : Int) dj) rfl)
      have b7 := b6.alloc b6.size (.cells #[.int .i64 (nj : Int), .int .i64 dj.kind, .int .i64 dj.links, .int .i64 dj.opens, .int .i64 dj.size, .int .i64 (EM.cnt dj.l : Int)] 65)
      have hown7 := W_hid (Own.below hown.out b7)
      have hT7 := W_hid (hT.out.trans (Two.of b7))
      have hs7 := b7.size
      have hsrc := W_hid hsrc
      clear b6 b7 cT hc'
      go_wp2_with (first
        | (at_builtin; refine Own.wpList_app rfl (.tmp 28) (.tmp 32) 48 rfl Tryz.underlying48 info_stat u3 (.slice (some ⟨w5.heap.size, 0, none⟩) 1 1) rfl rfl hown7.out (by omega) hsrc.out (stl_one _ _) (by unfold maxLen; omega) (by omega) ?_; intro v' w8 ho8 hg8 hb8))
      have hown8 : Hid (w8.ownsRow w1.heap.size 65 6 v' (j + 1) (stcl (Ls.take (j + 1)))) := W_hid (by rw [htake.out, stcl_app, stcl_one]; exact ho8)
      have hob8 : Hid (v'.ownBlock = some w1.heap.size ∨ ∃ g, w4.heap.size ≤ g ∧ v'.ownBlock = some g) := W_hid (by
        rcases hb8 with e | e
        · rw [e]; exact hob.out
        · exact .inr ⟨_, by omega, e⟩)
      have hT8 : Hid (Two w1.heap.size w1.heap.size w4 w8) := W_hid ⟨hg8.os.trans hT7.out.os, hg8.tape.trans hT7.out.tape, hg8.output.trans hT7.out.output, Nat.le_trans hT7.out.size hg8.size, fun k hk h1 h2 => by
        rw [hg8.block k (by omega) (fun e => by
          rcases hob.out with e2 | ⟨g, hg, e2⟩
          · rw [e2] at e; cases e; exact h1 rfl
          · rw [e2] at e; cases e; omega)]
        exact hT7.out.block k hk h1 h2⟩
      clear ho8 hg8 hb8 hown7 hT7 hsrc
      go_wp2_with fail
      go_roundw
      case rel => exact ⟨j + 1, by omega, by go_num, hown8, hob8, hT8⟩
      case measure => simp [intOf]; omega
    · obtain rfl : j = N := by omega
      have hfin := hown.out
      rw [List.take_of_length_le (Nat.le_of_eq hNN.out)] at hfin
      have hfin := W_hid (Own.low (base' := w.heap.size) hsw hfin)
      go_wp2_with fail
      go_ret
      exact ⟨_, rfl, hfin.out, belr.out⟩
end
end IN
end Go.Proofs.YtfhidjkhmjdioaaGreat

namespace Go.Proofs.YtfhidjkhmjdioaaGreat
open Go.ChangeShapes Go.WideShapes Go.ChangeAt Go.RowKit Go.Maps
set_option linter.unusedVariables false
set_option linter.unusedSimpArgs false
namespace IN
set_option maxRecDepth 100000 in
theorem nil_three (k2 k3 : Nat) (n : Int) (w : World) (e2 : ∀ w, (callFunc k2 #[.pointer none, .int .i64 n]).run Tryz.prog w = .ok (.enter k2 #[.pointer none, .int .i64 n]) w) (e3 : ∀ w, (callFunc k3 #[.pointer none, .int .i64 n]).run Tryz.prog w = .ok (.enter k3 #[.pointer none, .int .i64 n]) w) :
    Calls Tryz.prog 58 #[.int .i64 n, .slice (some ⟨w.heap.size, 0, none⟩) 3 3] (w.alloc (.cells #[.func (.func 59) #[.pointer none] #[], .func (.func k2) #[.pointer none] #[], .func (.func k3) #[.pointer none] #[]] 42)) fun e w' => e = .returned (.int .i64 1) ∧ Below w.heap.size w w' := by
  have hal := (Below.refl w.heap.size w).alloc (Nat.le_refl _) (.cells #[.func (.func 59) #[.pointer none] #[], .func (.func k2) #[.pointer none] #[], .func (.func k3) #[.pointer none] #[]] 42)
  refine (first_three (.pointer none) _ k2 k3 1 0 0 n w.heap.size _ (chk_blk w [.func (.func 59) #[.pointer none] #[], .func (.func k2) #[.pointer none] #[], .func (.func k3) #[.pointer none] #[]] _ rfl)
    (fun w => by kernel_rfl) e2 e3 (fun W hW => made_nil _ W) (fun W h _ => absurd h (by decide)) (fun W h _ _ => absurd h (by decide))).mono ?_
  rintro e w' ⟨rfl, hb⟩
  exact ⟨rfl, hal.trans (hb.mono hal.size)⟩
set_option maxRecDepth 100000 in
theorem nil_make (n : Int) (w : World) :
    Calls Tryz.prog 58 #[.int .i64 n, .slice (some ⟨w.heap.size, 0, none⟩) 3 3] (w.alloc (.cells #[.func (.func 59) #[.pointer none] #[], .func (.func 82) #[] #[], .func (.func 83) #[.pointer none] #[]] 42)) fun e w' => e = .returned (.int .i64 1) ∧ Below w.heap.size w w' := by
  have hal := (Below.refl w.heap.size w).alloc (Nat.le_refl _) (.cells #[.func (.func 59) #[.pointer none] #[], .func (.func 82) #[] #[], .func (.func 83) #[.pointer none] #[]] 42)
  refine (first_make (.pointer none) _ _ _ 1 0 0 n w.heap.size _ (chk_blk w [.func (.func 59) #[.pointer none] #[], .func (.func 82) #[] #[], .func (.func 83) #[.pointer none] #[]] _ rfl)
    (fun w => by kernel_rfl) (fun w => by kernel_rfl) (fun w => by kernel_rfl) (fun W hW => made_nil _ W) (fun W h _ => absurd h (by decide)) (fun W h _ _ => absurd h (by decide))).mono ?_
  rintro e w' ⟨rfl, hb⟩
  exact ⟨rfl, hal.trans (hb.mono hal.size)⟩
set_option maxRecDepth 100000 in
theorem nil_two (n : Int) (w : World) :
    Calls Tryz.prog 58 #[.int .i64 n, .slice (some ⟨w.heap.size, 0, none⟩) 2 2] (w.alloc (.cells #[.func (.func 59) #[.pointer none] #[], .func (.func 84) #[.pointer none] #[]] 42)) fun e w' => e = .returned (.int .i64 1) ∧ Below w.heap.size w w' := by
  have hal := (Below.refl w.heap.size w).alloc (Nat.le_refl _) (.cells #[.func (.func 59) #[.pointer none] #[], .func (.func 84) #[.pointer none] #[]] 42)
  refine (first_two (.pointer none) _ _ 1 0 n w.heap.size _ (chk_blk w [.func (.func 59) #[.pointer none] #[], .func (.func 84) #[.pointer none] #[]] _ rfl)
    (fun w => by kernel_rfl) (fun w => by kernel_rfl) (fun W hW => made_nil _ W) (fun W h _ => absurd h (by decide))).mono ?_
  rintro e w' ⟨rfl, hb⟩
  exact ⟨rfl, hal.trans (hb.mono hal.size)⟩
set_option maxRecDepth 100000 in
theorem nil_one (w : World) :
    Calls Tryz.prog 58 #[.int .i64 0, .slice (some ⟨w.heap.size, 0, none⟩) 1 1] (w.alloc (.cells #[.func (.func 59) #[.pointer none] #[]] 42)) fun e w' => e = .returned (.int .i64 1) ∧ Below w.heap.size w w' := by
  have hal := (Below.refl w.heap.size w).alloc (Nat.le_refl _) (.cells #[.func (.func 59) #[.pointer none] #[]] 42)
  refine (first_one (.pointer none) _ 1 0 w.heap.size _ (chk_blk w [.func (.func 59) #[.pointer none] #[]] _ rfl)
    (fun w => by kernel_rfl) (fun W hW => made_nil _ W)).mono ?_
  rintro e w' ⟨rfl, hb⟩
  exact ⟨rfl, hal.trans (hb.mono hal.size)⟩
set_option maxRecDepth 100000 in
set_option maxHeartbeats 2000000 in
theorem Close_nil (n : Int) (w : World) : Calls Tryz.prog 128 #[.pointer none, .int .i64 n] w fun e w' => e = .returned (.int .i64 1) ∧ Below w.heap.size w w' := by
  have hmf : ∀ (fn : Fn) (first cap : Array Value) (w : World), (Instr.makeFunc fn first cap).run Tryz.prog w = .ok (.func fn first cap) w := fun _ _ _ _ => rfl
  have cA := W_hid (nil_three 84 167 n w (fun w => by kernel_rfl) (fun w => by kernel_rfl))
  go_enter Tryz.func128, Tryz.ntmps128
  go_wp2_with fail
  refine cA.out.mono ?_
  rintro e w1 ⟨rfl, b1⟩
  go_wp2_with fail
  go_ret
  exact ⟨rfl, b1⟩
set_option maxRecDepth 100000 in
set_option maxHeartbeats 2000000 in
theorem Open_nil (n : Int) (w : World) : Calls Tryz.prog 68 #[.pointer none, .int .i64 n] w fun e w' => e = .returned (.int .i64 1) ∧ Below w.heap.size w w' := by
  have hmf : ∀ (fn : Fn) (first cap : Array Value) (w : World), (Instr.makeFunc fn first cap).run Tryz.prog w = .ok (.func fn first cap) w := fun _ _ _ _ => rfl
  have cA := W_hid (nil_two n w)
  go_enter Tryz.func68, Tryz.ntmps68
  go_wp2_with fail
  refine cA.out.mono ?_
  rintro e w1 ⟨rfl, b1⟩
  go_wp2_with fail
  go_ret
  exact ⟨rfl, b1⟩
set_option maxRecDepth 100000 in
set_option maxHeartbeats 2000000 in
theorem Make_nil (n : Int) (w : World) : Calls Tryz.prog 37 #[.pointer none, .int .i64 n] w fun e w' => e = .returned (.tuple #[.int .i64 0, .int .i64 1]) ∧ Below w.heap.size w w' := by
  have hmf : ∀ (fn : Fn) (first cap : Array Value) (w : World), (Instr.makeFunc fn first cap).run Tryz.prog w = .ok (.func fn first cap) w := fun _ _ _ _ => rfl
  have cA := W_hid (nil_make n w)
  go_enter Tryz.func37, Tryz.ntmps37
  go_wp2_with fail
  refine cA.out.mono ?_
  rintro e w1 ⟨rfl, b1⟩
  go_wp2_with fail
  go_ret2
  exact ⟨rfl, b1⟩
set_option maxRecDepth 100000 in
set_option maxHeartbeats 2000000 in
theorem Write_nil (n f : Int) (d : ByteArray) (w : World) : Calls Tryz.prog 73 #[.pointer none, .int .i64 n, .int .i64 f, .string d] w fun e w' => e = .returned (.int .i64 1) ∧ Below w.heap.size w w' := by
  have hmf : ∀ (fn : Fn) (first cap : Array Value) (w : World), (Instr.makeFunc fn first cap).run Tryz.prog w = .ok (.func fn first cap) w := fun _ _ _ _ => rfl
  have cA := W_hid (nil_three 84 119 n w (fun w => by kernel_rfl) (fun w => by kernel_rfl))
  go_enter Tryz.func73, Tryz.ntmps73
  go_wp2_with fail
  refine cA.out.mono ?_
  rintro e w1 ⟨rfl, b1⟩
  go_wp2_with fail
  go_ret
  exact ⟨rfl, b1⟩
set_option maxRecDepth 100000 in
set_option maxHeartbeats 2000000 in
theorem Trunc_nil (n f : Int) (w : World) : Calls Tryz.prog 81 #[.pointer none, .int .i64 n, .int .i64 f] w fun e w' => e = .returned (.int .i64 1) ∧ Below w.heap.size w w' := by
  have hmf : ∀ (fn : Fn) (first cap : Array Value) (w : World), (Instr.makeFunc fn first cap).run Tryz.prog w = .ok (.func fn first cap) w := fun _ _ _ _ => rfl
  have cA := W_hid (nil_three 84 119 n w (fun w => by kernel_rfl) (fun w => by kernel_rfl))
  go_enter Tryz.func81, Tryz.ntmps81
  go_wp2_with fail
  refine cA.out.mono ?_
  rintro e w1 ⟨rfl, b1⟩
  go_wp2_with fail
  go_ret
  exact ⟨rfl, b1⟩
set_option maxRecDepth 100000 in
set_option maxHeartbeats 2000000 in
theorem Read_nil (n f m : Int) (w : World) : Calls Tryz.prog 79 #[.pointer none, .int .i64 n, .int .i64 f, .int .i64 m] w fun e w' => e = .returned (.tuple #[.string ⟨#[]⟩, .int .i64 1]) ∧ Below w.heap.size w w' := by
  have hmf : ∀ (fn : Fn) (first cap : Array Value) (w : World), (Instr.makeFunc fn first cap).run Tryz.prog w = .ok (.func fn first cap) w := fun _ _ _ _ => rfl
  have cA := W_hid (nil_three 84 119 n w (fun w => by kernel_rfl) (fun w => by kernel_rfl))
  go_enter Tryz.func79, Tryz.ntmps79
  go_wp2_with fail
  refine cA.out.mono ?_
  rintro e w1 ⟨rfl, b1⟩
  go_wp2_with fail
  go_ret2
  exact ⟨rfl, b1⟩
set_option maxRecDepth 100000 in
set_option maxHeartbeats 2000000 in
theorem All_nil  (w : World) : Calls Tryz.prog 22 #[.pointer none] w fun e w' => e = .returned (.slice none 0 0) ∧ Below w.heap.size w w' := by
  have hmf : ∀ (fn : Fn) (first cap : Array Value) (w : World), (Instr.makeFunc fn first cap).run Tryz.prog w = .ok (.func fn first cap) w := fun _ _ _ _ => rfl
  have cA := W_hid (nil_one w)
  go_enter Tryz.func22, Tryz.ntmps22
  go_wp2_with fail
  refine cA.out.mono ?_
  rintro e w1 ⟨rfl, b1⟩
  go_wp2_with fail
  go_ret
  exact ⟨rfl, b1⟩
set_option maxRecDepth 100000 in
set_option maxHeartbeats 2000000 in
theorem Stat_nil (n : Int) (w : World) : Calls Tryz.prog 39 #[.pointer none, .int .i64 n] w fun e w' => e = .returned (.tuple #[.agg zl.toArray, .int .i64 1]) ∧ Below w.heap.size w w' := by
  have hmf : ∀ (fn : Fn) (first cap : Array Value) (w : World), (Instr.makeFunc fn first cap).run Tryz.prog w = .ok (.func fn first cap) w := fun _ _ _ _ => rfl
  obtain ⟨W0, hW0⟩ : ∃ W0, w.alloc (.cells #[.int .i64 0, .int .i64 0, .int .i64 0, .int .i64 0, .int .i64 0, .int .i64 0] 65) = W0 := ⟨_, rfl⟩
  have hb0 : Below w.heap.size w W0 := by rw [← hW0]; exact (Below.refl _ _).alloc (Nat.le_refl _) _
  have hr0 : Blk W0 w.heap.size 65 zl := by rw [← hW0]; exact Blk.new w _ zl rfl
  have hs0 : w.heap.size ≤ W0.heap.size := hb0.size
  have cA := W_hid (nil_two n W0)
  replace hb0 := W_hid hb0
  replace hr0 := W_hid hr0
  go_enter Tryz.func39, Tryz.ntmps39
  go_wp2_with fail
  refine cA.out.mono ?_
  rintro e w1 ⟨rfl, b1⟩
  have hr1 := hr0.out.keep b1
  have f1 := hr1.fz
  have r0 := hr1.cell (j := 0) rfl
  have r1 := hr1.cell (j := 1) rfl
  have r2 := hr1.cell (j := 2) rfl
  have r3 := hr1.cell (j := 3) rfl
  have r4 := hr1.cell (j := 4) rfl
  have r5 := hr1.cell (j := 5) rfl
  have hfin := W_hid (six_blk hr1 0 0 0 0 0 0)
  have hbl := W_hid (six_below (hb0.out.trans (b1.mono hs0)) (Nat.le_refl _) 0 0 0 0 0 0)
  clear hr1 b1
  go_wp2_with fail
  exact bodyPost_ret (res_two rfl _ _ rfl hfin.out) rfl ⟨rfl, hbl.out⟩
end IN
end Go.Proofs.YtfhidjkhmjdioaaGreat

namespace Go.Proofs.YtfhidjkhmjdioaaGreat
open Go.ChangeShapes Go.WideShapes Go.ChangeAt Go.RowKit Go.Maps
set_option linter.unusedVariables false
set_option linter.unusedSimpArgs false
set_option maxRecDepth 100000
set_option maxHeartbeats 2000000
namespace DC
theorem none_nil (w : World) : Calls Tryz.prog 44 #[.pointer none] w fun e w' => e = .returned (.bool true) ∧ w' = w := by
  go_enter Tryz.func44, Tryz.ntmps44
  go_wp2_with fail
  go_ret
  exact ⟨rfl, rfl⟩
theorem process_nil (p : Int) (w : World) : Calls Tryz.prog 64 #[.pointer none, .int .i64 p] w fun e w' => e = .returned (.tuple #[.pointer none, .int .i64 1]) ∧ w' = w := by
  have cN := fun w => W_hid (none_nil w)
  go_enter Tryz.func64, Tryz.ntmps64
  go_wp2_with fail
  refine (cN _).out.mono ?_
  rintro e w1 ⟨rfl, rfl⟩
  go_wp2_with fail
  go_ret2
  exact ⟨rfl, rfl⟩
theorem file_nil (p q r : Int) (w : World) : Calls Tryz.prog 70 #[.pointer none, .int .i64 p, .int .i64 q, .int .i64 r] w fun e w' => e = .returned (.tuple #[.pointer none, .int .i64 1]) ∧ w' = w := by
  have cN := fun p w => W_hid (process_nil p w)
  go_enter Tryz.func70, Tryz.ntmps70
  go_wp2_with fail
  refine (cN _ _).out.mono ?_
  rintro e w1 ⟨rfl, rfl⟩
  go_wp2_with fail
  go_ret2
  exact ⟨rfl, rfl⟩
theorem Add_nil (p : Int) (w : World) : Calls Tryz.prog 17 #[.pointer none, .int .i64 p] w fun e w' => e = .returned (.int .i64 1) ∧ w' = w := by
  have cN := fun w => W_hid (none_nil w)
  go_enter Tryz.func17, Tryz.ntmps17
  go_wp2_with fail
  refine (cN _).out.mono ?_
  rintro e w1 ⟨rfl, rfl⟩
  go_wp2_with fail
  go_ret
  exact ⟨rfl, rfl⟩
theorem Clone_nil (p q : Int) (w : World) : Calls Tryz.prog 34 #[.pointer none, .int .i64 p, .int .i64 q] w fun e w' => e = .returned (.int .i64 1) ∧ w' = w := by
  have cN := fun p w => W_hid (process_nil p w)
  go_enter Tryz.func34, Tryz.ntmps34
  go_wp2_with fail
  refine (cN _ _).out.mono ?_
  rintro e w1 ⟨rfl, rfl⟩
  go_wp2_with fail
  go_ret
  exact ⟨rfl, rfl⟩
theorem Drop_nil (p : Int) (w : World) : Calls Tryz.prog 36 #[.pointer none, .int .i64 p] w fun e w' => e = .returned (.int .i64 1) ∧ w' = w := by
  have cN := fun p w => W_hid (process_nil p w)
  go_enter Tryz.func36, Tryz.ntmps36
  go_wp2_with fail
  refine (cN _ _).out.mono ?_
  rintro e w1 ⟨rfl, rfl⟩
  go_wp2_with fail
  go_ret
  exact ⟨rfl, rfl⟩
theorem Open_nil (p : Int) (s : ByteArray) (q : Int) (w : World) : Calls Tryz.prog 26 #[.pointer none, .int .i64 p, .string s, .int .i64 q] w fun e w' => e = .returned (.tuple #[.int .i64 0, .int .i64 1]) ∧ w' = w := by
  have cN := fun p w => W_hid (process_nil p w)
  go_enter Tryz.func26, Tryz.ntmps26
  go_wp2_with fail
  refine (cN _ _).out.mono ?_
  rintro e w1 ⟨rfl, rfl⟩
  go_wp2_with fail
  go_ret2
  exact ⟨rfl, rfl⟩
theorem Close_nil (p q : Int) (w : World) : Calls Tryz.prog 31 #[.pointer none, .int .i64 p, .int .i64 q] w fun e w' => e = .returned (.int .i64 1) ∧ w' = w := by
  have cN := fun p q r w => W_hid (file_nil p q r w)
  go_enter Tryz.func31, Tryz.ntmps31
  go_wp2_with fail
  refine (cN _ _ _ _).out.mono ?_
  rintro e w1 ⟨rfl, rfl⟩
  go_wp2_with fail
  go_ret
  exact ⟨rfl, rfl⟩
theorem Dup_nil (p q : Int) (w : World) : Calls Tryz.prog 32 #[.pointer none, .int .i64 p, .int .i64 q] w fun e w' => e = .returned (.tuple #[.int .i64 0, .int .i64 1]) ∧ w' = w := by
  have cN := fun p q r w => W_hid (file_nil p q r w)
  go_enter Tryz.func32, Tryz.ntmps32
  go_wp2_with fail
  refine (cN _ _ _ _).out.mono ?_
  rintro e w1 ⟨rfl, rfl⟩
  go_wp2_with fail
  go_ret2
  exact ⟨rfl, rfl⟩
theorem Read_nil (p q n : Int) (w : World) : Calls Tryz.prog 30 #[.pointer none, .int .i64 p, .int .i64 q, .int .i64 n] w fun e w' => e = .returned (.tuple #[.string ByteArray.empty, .int .i64 1]) ∧ w' = w := by
  have cN := fun p q r w => W_hid (file_nil p q r w)
  go_enter Tryz.func30, Tryz.ntmps30
  go_wp2_with fail
  refine (cN _ _ _ _).out.mono ?_
  rintro e w1 ⟨rfl, rfl⟩
  go_wp2_with fail
  go_ret2
  exact ⟨rfl, rfl⟩
theorem Write_nil (p q : Int) (s : ByteArray) (w : World) : Calls Tryz.prog 27 #[.pointer none, .int .i64 p, .int .i64 q, .string s] w fun e w' => e = .returned (.tuple #[.int .i64 0, .int .i64 1]) ∧ w' = w := by
  have cN := fun p q r w => W_hid (file_nil p q r w)
  go_enter Tryz.func27, Tryz.ntmps27
  go_wp2_with fail
  refine (cN _ _ _ _).out.mono ?_
  rintro e w1 ⟨rfl, rfl⟩
  go_wp2_with fail
  go_ret2
  exact ⟨rfl, rfl⟩
theorem Seek_nil (p q n k : Int) (w : World) : Calls Tryz.prog 29 #[.pointer none, .int .i64 p, .int .i64 q, .int .i64 n, .int .i64 k] w fun e w' => e = .returned (.tuple #[.int .i64 0, .int .i64 1]) ∧ w' = w := by
  have cN := fun p q r w => W_hid (file_nil p q r w)
  go_enter Tryz.func29, Tryz.ntmps29
  go_wp2_with fail
  refine (cN _ _ _ _).out.mono ?_
  rintro e w1 ⟨rfl, rfl⟩
  go_wp2_with fail
  go_ret2
  exact ⟨rfl, rfl⟩
theorem Trunc_nil (p q n : Int) (w : World) : Calls Tryz.prog 33 #[.pointer none, .int .i64 p, .int .i64 q, .int .i64 n] w fun e w' => e = .returned (.int .i64 1) ∧ w' = w := by
  have cN := fun p q r w => W_hid (file_nil p q r w)
  go_enter Tryz.func33, Tryz.ntmps33
  go_wp2_with fail
  refine (cN _ _ _ _).out.mono ?_
  rintro e w1 ⟨rfl, rfl⟩
  go_wp2_with fail
  go_ret
  exact ⟨rfl, rfl⟩
theorem Procs_nil (w : World) : Calls Tryz.prog 24 #[.pointer none] w fun e w' => e = .returned (.slice none 0 0) ∧ w' = w := by
  have cN := fun w => W_hid (none_nil w)
  go_enter Tryz.func24, Tryz.ntmps24
  go_wp2_with fail
  refine (cN _).out.mono ?_
  rintro e w1 ⟨rfl, rfl⟩
  go_wp2_with fail
  go_ret
  exact ⟨rfl, rfl⟩
theorem Fds_nil (p : Int) (w : World) : Calls Tryz.prog 25 #[.pointer none, .int .i64 p] w fun e w' => e = .returned (.slice none 0 0) ∧ w' = w := by
  have cN := fun p w => W_hid (process_nil p w)
  go_enter Tryz.func25, Tryz.ntmps25
  go_wp2_with fail
  refine (cN _ _).out.mono ?_
  rintro e w1 ⟨rfl, rfl⟩
  go_wp2_with fail
  go_ret
  exact ⟨rfl, rfl⟩
theorem Stat_nil (p q : Int) (w : World) : Calls Tryz.prog 35 #[.pointer none, .int .i64 p, .int .i64 q] w fun e w' => e = .returned (.tuple #[.agg IN.zl.toArray, .int .i64 1]) ∧ Below w.heap.size w w' := by
  have cN := fun p q r w => W_hid (file_nil p q r w)
  obtain ⟨W0, hW0⟩ : ∃ W0, w.alloc (.cells #[.int .i64 0, .int .i64 0, .int .i64 0, .int .i64 0, .int .i64 0, .int .i64 0] 65) = W0 := ⟨_, rfl⟩
  have hb0 : Below w.heap.size w W0 := by rw [← hW0]; exact (Below.refl _ _).alloc (Nat.le_refl _) _
  have hr0 : Blk W0 w.heap.size 65 IN.zl := by rw [← hW0]; exact Blk.new w _ IN.zl rfl
  have hs0 : w.heap.size ≤ W0.heap.size := hb0.size
  replace hb0 := W_hid hb0
  go_enter Tryz.func35, Tryz.ntmps35
  go_wp2_with fail
  refine (cN _ _ _ _).out.mono ?_
  rintro e w1 ⟨rfl, rfl⟩
  have f1 := hr0.fz
  have r0 := hr0.cell (j := 0) rfl
  have r1 := hr0.cell (j := 1) rfl
  have r2 := hr0.cell (j := 2) rfl
  have r3 := hr0.cell (j := 3) rfl
  have r4 := hr0.cell (j := 4) rfl
  have r5 := hr0.cell (j := 5) rfl
  have hfin := W_hid (IN.six_blk hr0 0 0 0 0 0 0)
  have hbl := W_hid (IN.six_below hb0.out (Nat.le_refl _) 0 0 0 0 0 0)
  clear hr0
  go_wp2_with fail
  exact bodyPost_ret (IN.res_two rfl _ _ rfl hfin.out) rfl ⟨rfl, hbl.out⟩
theorem New_nil (a b c d e f g : Int) (w : World) : Calls Tryz.prog 14 #[.pointer none, .pointer none, IN.cap7 a b c d e f g] w fun e w' => e = .returned (.tuple #[.pointer none, .int .i64 1]) ∧ Below w.heap.size w w' := by
  have cS : ∀ w, Hid (Calls Tryz.prog 39 #[.pointer none, .int .i64 0] w fun e w' => e = .returned (.tuple #[.agg #[.int .i64 0, .int .i64 0, .int .i64 0, .int .i64 0, .int .i64 0, .int .i64 0], .int .i64 1]) ∧ Below w.heap.size w w') := fun w => W_hid (IN.Stat_nil 0 w)
  have b0 : Below w.heap.size w (w.alloc (.cells #[.int .i64 a, .int .i64 b, .int .i64 c, .int .i64 d, .int .i64 e, .int .i64 f, .int .i64 g] 25)) := (Below.refl _ w).alloc (Nat.le_refl _) _
  unfold IN.cap7
  go_enter Tryz.func14, Tryz.ntmps14
  go_wp2_with fail
  refine (cS _).out.mono ?_
  rintro e w1 ⟨rfl, b1⟩
  have B1 := W_hid (b0.trans (b1.mono b0.size))
  clear b0 b1
  go_wp2_with fail
  go_ret2
  exact ⟨rfl, B1.out.alloc B1.out.size _⟩
end DC
end Go.Proofs.YtfhidjkhmjdioaaGreat

namespace Go.Proofs.YtfhidjkhmjdioaaGreat
open Go.ChangeShapes Go.WideShapes Go.ChangeAt Go.RowKit
set_option linter.unusedVariables false
set_option linter.unusedSimpArgs false
set_option maxRecDepth 100000
set_option maxHeartbeats 4000000
namespace DC
theorem mask63 (x : BitVec 64) (h : x &&& ~~~(63#64) = 0#64) : x.toNat ≤ 63 := by
  have e : x = x &&& 63#64 := by
    apply BitVec.eq_of_getElem_eq
    intro i hi
    have hb : (x &&& ~~~(63#64))[i] = (0#64)[i] := by rw [h]
    simp only [BitVec.getElem_and, BitVec.getElem_not, BitVec.getElem_zero] at hb ⊢
    cases h1 : x[i] <;> cases h2 : (63#64)[i] <;> simp_all
  rw [e, BitVec.toNat_and]
  exact Nat.and_le_right
theorem few63 : ∀ k : Fin 64, bits BinOp.andNot IntKind.i64 ((k.val : Nat) : Int) 63 = 0 := by decide +kernel
theorem small63 (p : Int) (h1 : -9223372036854775808 ≤ p) (h2 : p ≤ 9223372036854775807) : (bits BinOp.andNot IntKind.i64 p 63 != 0) = decide (p < 0 ∨ p > 63) := by
  by_cases h : 0 ≤ p ∧ p ≤ 63
  · obtain ⟨k, rfl⟩ : ∃ k : Nat, p = k := ⟨p.toNat, by omega⟩
    have e := few63 ⟨k, by omega⟩
    rw [decide_eq_false (by omega)]
    simpa using e
  · rw [decide_eq_true (by omega)]
    cases hb : (bits BinOp.andNot IntKind.i64 p 63 != 0) with
    | true => rfl
    | false =>
      exfalso
      have h0 : bits BinOp.andNot IntKind.i64 p 63 = 0 := by simpa using hb
      have hz : (BitVec.ofInt 64 p &&& ~~~(63#64)) = 0#64 := by
        apply BitVec.eq_of_toNat_eq
        have hlt := (BitVec.ofInt 64 p &&& ~~~(63#64)).isLt
        have h1 : IntKind.i64.wrap (((BitVec.ofInt 64 p &&& ~~~(63#64)).toNat : Nat) : Int) = 0 := h0
        generalize (BitVec.ofInt 64 p &&& ~~~(63#64)).toNat = n at *
        simp [IntKind.wrap, IntKind.signed, IntKind.bits] at h1
        simp
        omega
      have h7 := mask63 _ hz
      rw [BitVec.toNat_ofInt] at h7
      omega
def flg (f : Int) : Bool := decide (1 ≤ f ∧ f ≤ 63) && !(bits .and .i64 f 3 == 0) && ((bits .and .i64 f 48 == 0) || (bits .and .i64 f 2 != 0)) && ((bits .and .i64 f 8 == 0) || (bits .and .i64 f 4 != 0))
theorem valid_any (f : Int) (h1 : -9223372036854775808 ≤ f) (h2 : f ≤ 9223372036854775807) (w : World) : Calls Tryz.prog 65 #[.int .i64 f] w fun e w' => e = .returned (.bool (flg f)) ∧ w' = w := by
  obtain ⟨t1, d1⟩ : ∃ t, (bits .andNot .i64 f 63 != 0) = t := ⟨_, rfl⟩
  obtain ⟨t2, d2⟩ : ∃ t, (bits .and .i64 f 3 == 0) = t := ⟨_, rfl⟩
  obtain ⟨t3, d3⟩ : ∃ t, (bits .and .i64 f 48 != 0) = t := ⟨_, rfl⟩
  obtain ⟨t4, d4⟩ : ∃ t, (bits .and .i64 f 2 == 0) = t := ⟨_, rfl⟩
  obtain ⟨t5, d5⟩ : ∃ t, (bits .and .i64 f 8 == 0) = t := ⟨_, rfl⟩
  obtain ⟨t6, d6⟩ : ∃ t, (bits .and .i64 f 4 != 0) = t := ⟨_, rfl⟩
  have ef : flg f = (!t1 && !t2 && (!t3 || !t4) && (t5 || t6)) := by
    unfold flg
    have e0 := small63 f h1 h2
    rw [d1] at e0
    have e3 : (bits .and .i64 f 48 == 0) = !t3 := by rw [← d3, bne, Bool.not_not]
    have e4 : (bits .and .i64 f 2 != 0) = !t4 := by rw [← d4, bne]
    rw [d2, e3, e4, d5, d6]
    have e1 : (decide (1 ≤ f ∧ f ≤ 63) && !t2) = (!t1 && !t2) := by
      by_cases hz : f = 0
      · subst hz
        have : t2 = true := by rw [← d2]; decide
        rw [this]; simp
      · rw [e0]
        by_cases h : 1 ≤ f ∧ f ≤ 63
        · rw [decide_eq_true h, decide_eq_false (by omega)]; rfl
        · rw [decide_eq_false h, decide_eq_true (by omega)]; rfl
    rw [e1]
  rw [ef]
  clear ef h1 h2
  cases t1 <;> cases t2 <;> cases t3 <;> cases t4 <;> cases t5 <;> cases t6 <;> (
    go_enter Tryz.func65, Tryz.ntmps65
    go_wp2_with fail
    go_ret
    exact ⟨rfl, rfl⟩)
end DC
namespace DC
structure Of where
  ino : Int
  off : Int
  flags : Int
  refs : Int
def FB (w : World) (g : Nat) (o : Of) : Prop := Blk w g 135 [.int .i64 o.ino, .int .i64 o.off, .int .i64 o.flags, .int .i64 o.refs]
def pv (x : Option Nat) : Value := .pointer (x.map fun g => ⟨g, 0, none⟩)
def PR (w : World) (g : Nat) (L : List (Option Nat)) : Prop := L.length = 64 ∧ Blk w g 111 (L.map pv)
theorem PR.at_ {w : World} {g : Nat} {L : List (Option Nat)} (h : PR w g L) {k : Nat} {x : Option Nat} (hx : L[k]? = some x) : w.cell? ⟨g, k, none⟩ = some (pv x) := h.2.cell (by rw [List.getElem?_map, hx]; rfl)
def getL (L : List (Option Nat)) (fd : Int) : Option Nat := if 0 ≤ fd then (L[fd.toNat]?).join else none
theorem getL_none {L : List (Option Nat)} {fd : Int} (h : fd < 0 ∨ L.length ≤ fd) : getL L fd = none := by
  unfold getL
  split
  · rw [List.getElem?_eq_none (by omega)]; rfl
  · rfl
theorem getL_at {L : List (Option Nat)} {k : Nat} {x : Option Nat} (h : L[k]? = some x) : getL L k = x := by
  unfold getL
  rw [if_pos (by omega), Int.toNat_natCast, h]; rfl
theorem allows_any (g : Nat) (o : Of) (need : Int) (w : World) (h : FB w g o) : Calls Tryz.prog 71 #[.pointer (some ⟨g, 0, none⟩), .int .i64 need] w fun e w' => e = .returned (.bool (bits .and .i64 o.flags need == need)) ∧ w' = w := by
  have c2 := h.cell (j := 2) rfl
  clear h
  go_enter Tryz.func71, Tryz.ntmps71
  go_wp2_with fail
  go_ret
  exact ⟨rfl, rfl⟩
theorem get_out (pa : Option Addr) (fd : Int) (w : World) (h : fd < 0 ∨ 64 ≤ fd) : Calls Tryz.prog 118 #[.pointer pa, .int .i64 fd] w fun e w' => e = .returned (.pointer none) ∧ w' = w := by
  by_cases h0 : fd < 0
  · go_enter Tryz.func118, Tryz.ntmps118
    go_wp2_with fail
    go_ret
    exact ⟨rfl, rfl⟩
  · have h1 : 64 ≤ fd := by omega
    go_enter Tryz.func118, Tryz.ntmps118
    go_wp2_with fail
    go_ret
    exact ⟨rfl, rfl⟩
theorem get_in (g k : Nat) (L : List (Option Nat)) (x : Option Nat) (w : World) (h : PR w g L) (hx : L[k]? = some x) : Calls Tryz.prog 118 #[.pointer (some ⟨g, 0, none⟩), .int .i64 k] w fun e w' => e = .returned (pv x) ∧ w' = w := by
  have c := h.at_ hx
  have hk : k < 64 := by
    have := (List.getElem?_eq_some_iff.mp hx).1
    rw [h.1] at this; exact this
  clear h hx
  obtain ⟨v, hv⟩ : ∃ v, pv x = .pointer v := ⟨_, rfl⟩
  rw [hv] at c ⊢
  go_enter Tryz.func118, Tryz.ntmps118
  go_wp2_with fail
  go_ret
  exact ⟨rfl, rfl⟩
end DC
end Go.Proofs.YtfhidjkhmjdioaaGreat

namespace Go.Proofs.YtfhidjkhmjdioaaGreat
open Go.ChangeShapes Go.WideShapes Go.ChangeAt Go.RowKit Go.Maps
set_option linter.unusedVariables false
set_option linter.unusedSimpArgs false
namespace DC
open IS (ptr pd PR_ptr PR_inv key key_of key_ne isKey keyed_int I64 own_tight upd)
theorem und_procs : Tryz.prog.underlying 99 = some (.map 3 108) := by kernel_rfl
theorem zero_proc (w : World) : (zeroValue 108).run Tryz.prog w = .ok (ptr none) w := by kernel_rfl
structure MB (w : World) (b n : Nat) (M : Int → Option Nat) : Prop where
  ex : ∃ D : DataW Unit, w.ownsMap Tryz.prog 3 IS.PR b (Maps.size D) D ∧ Maps.size D ≤ n ∧ (∀ f, I64 f → Maps.has D (key f) = (M f).isSome) ∧ (∀ f g, I64 f → M f = some g → ∀ z, D.atKey (key f) z = pd (some g))
  bound : ∀ f, M f ≠ none → I64 f
section
variable {w w' : World} {b n : Nat} {M : Int → Option Nat}
theorem own_size {D : DataW Unit} (h : w.ownsMap Tryz.prog 3 IS.PR b n D) : Maps.size D ≤ n := by
  obtain ⟨es, clock, hb, F, hs, rfl⟩ := h
  simpa [Maps.size, length_sorted] using hs
theorem MB.congr (h : MB w b n M) {M' : Int → Option Nat} (hM : ∀ f, M f = M' f) : MB w b n M' := by
  have : M = M' := funext hM
  rw [← this]; exact h
theorem MB.le (h : MB w b n M) {m : Nat} (hm : n ≤ m) : MB w b m M := by
  obtain ⟨⟨D, ho, hs, h1, h2⟩, hb⟩ := h
  exact ⟨⟨D, ho, by omega, h1, h2⟩, hb⟩
theorem MB.lt (h : MB w b n M) : b < w.heap.size := by obtain ⟨D, ho, _⟩ := h.ex; exact ho.lt
theorem MB.look (h : MB w b n M) (f : Int) (hf : I64 f) :
    (Instr.lookup 99 (.map (some b)) (.int .i64 f) false).run Tryz.prog w = .ok (ptr (M f)) w := by
  obtain ⟨⟨D, ho, hs, h1, h2⟩, hb⟩ := h
  obtain ⟨v, ps, hrun, hv⟩ := ho.lookup keyed_int und_procs (zero_proc w) (PR_ptr none) (key_of f hf)
  have e : v = ptr (M f) := by
    apply PR_inv (ps := ps)
    rw [hv]
    cases hm : M f with
    | none => have := h1 f hf; rw [hm] at this; rw [Maps.atKey_of_not_has (by simpa using this)]
    | some g => rw [h2 f g hf hm]
  rw [hrun, e]
theorem MB.put (h : MB w b n M) (hn : n < maxLen) (f : Int) (g : Nat) (hf : I64 f) :
    ∃ w', (Instr.mapUpdate 99 (.map (some b)) (.int .i64 f) (.pointer (some ⟨g, 0, none⟩))).run Tryz.prog w = .ok () w' ∧ MB w' b (n + 1) (upd M f (some g)) ∧ w.grownBy w' (some b) ∧ w'.heap.size = w.heap.size := by
  obtain ⟨⟨D, ho, hs, h1, h2⟩, hb⟩ := h
  obtain ⟨w', hrun, ho', ht⟩ := ho.store keyed_int und_procs (by omega) (key_of f hf) (PR_ptr (some g))
  refine ⟨w', hrun, ⟨⟨_, own_tight ho', ?_, fun k hk => ?_, fun k vs hk hv z => ?_⟩, fun k hk => ?_⟩, ht.grown, ?_⟩
  · exact Nat.le_trans (own_size ho') (by omega)
  · unfold upd
    by_cases e : k = f
    · subst e; rw [if_pos rfl, Maps.has_put_same ho.isMap (isKey k hk)]; rfl
    · rw [if_neg e, Maps.has_put_other (key_ne e), h1 k hk]
  · unfold upd at hv
    by_cases e : k = f
    · subst e; rw [if_pos rfl] at hv; cases hv; exact Maps.atKey_put_same ho.isMap (isKey k hk) _ _
    · rw [if_neg e] at hv; rw [Maps.atKey_put_other (key_ne e)]; exact h2 k vs hk hv z
  · unfold upd at hk
    by_cases e : k = f
    · exact e ▸ hf
    · rw [if_neg e] at hk; exact hb k hk
  · obtain ⟨es, c, es', c', hbb, rfl⟩ := ht
    simp [ChangeMaps.setBlock]
theorem MB.del (h : MB w b n M) (f : Int) (hf : I64 f) (ty : TypeId) :
    ∃ w', (Builtin.delete_ #[99, 3] ty #[.map (some b), .int .i64 f]).run Tryz.prog w = .ok (.tuple #[]) w' ∧ MB w' b n (upd M f none) ∧ w.grownBy w' (some b) ∧ w'.heap.size = w.heap.size := by
  obtain ⟨⟨D, ho, hs, h1, h2⟩, hb⟩ := h
  obtain ⟨w', hrun, ho', ht⟩ := ho.drop keyed_int und_procs (key_of f hf) ty
  refine ⟨w', hrun, ⟨⟨_, own_tight ho', ?_, fun g hg => ?_, fun g vs hg hv z => ?_⟩, fun g hg => ?_⟩, ht.grown, ?_⟩
  · exact Nat.le_trans (own_size ho') hs
  · unfold upd
    by_cases e : g = f
    · subst e; rw [if_pos rfl, Maps.has_del_same]; rfl
    · rw [if_neg e, Maps.has_del_other (key_ne e), h1 g hg]
  · unfold upd at hv
    by_cases e : g = f
    · rw [if_pos e] at hv; cases hv
    · rw [if_neg e] at hv; rw [Maps.atKey_del_other (key_ne e)]; exact h2 g vs hg hv z
  · unfold upd at hg
    by_cases e : g = f
    · rw [if_pos e] at hg; exact absurd rfl hg
    · rw [if_neg e] at hg; exact hb g hg
  · obtain ⟨es, c, es', c', hbb, rfl⟩ := ht
    simp [ChangeMaps.setBlock]
theorem MB.grown (h : MB w b n M) {row : Option Nat} (hg : w.grownBy w' row) (hne : some b ≠ row) : MB w' b n M := by
  obtain ⟨⟨D, ho, hs, h1, h2⟩, hb⟩ := h
  exact ⟨⟨D, ho.kept hg hne, hs, h1, h2⟩, hb⟩
theorem MB.heap (h : MB w b n M) (e : w'.heap[b]? = w.heap[b]?) : MB w' b n M := by
  obtain ⟨⟨D, ⟨es, clock, hb, F, hs, hD⟩, hz, h1, h2⟩, hbd⟩ := h
  exact ⟨⟨D, ⟨es, clock, e.trans hb, F, hs, hD⟩, hz, h1, h2⟩, hbd⟩
theorem MB.keep (h : MB w b n M) (hb : Below w.heap.size w w') : MB w' b n M := h.heap (hb.block b h.lt)
theorem MB.far (h : MB w b n M) {p : Addr} (hp : b ≠ p.block) (u : Value) : MB (w.setCell p u) b n M := h.heap (Below.heap_setCell w p u b hp)
theorem MB.alloc (h : MB w b n M) (o : Obj) : MB (w.alloc o) b n M := h.heap (Below.heap_alloc w o b h.lt)
theorem MB.drew (h : MB w b n M) (t : Nat) : MB (w.drewN t) b n M := h.heap rfl
theorem MB.drew1 (h : MB w b n M) : MB w.drew b n M := h.heap rfl
theorem MB.new (w : World) : MB (w.alloc (.map #[] 0)) w.heap.size 0 (fun _ => none) :=
  ⟨⟨.map [], own_tight (World.ownsMap_made w _ _ IS.PR), Nat.le_refl _, fun _ _ => rfl, fun _ _ _ h => by cases h⟩, fun _ h => absurd rfl h⟩
end
end DC
end Go.Proofs.YtfhidjkhmjdioaaGreat

namespace Go.Proofs.YtfhidjkhmjdioaaGreat
open Go.ChangeShapes Go.WideShapes Go.ChangeAt Go.RowKit Go.Maps
set_option linter.unusedVariables false
set_option linter.unusedSimpArgs false
set_option maxRecDepth 100000
set_option maxHeartbeats 4000000
namespace DC
open IS (ptr I64)
def TB (w : World) (g sg ng b : Nat) (files left : Int) : Prop := Blk w g 101 [.pointer (some ⟨sg, 0, none⟩), .pointer (some ⟨ng, 0, none⟩), .map (some b), .int .i64 files, .int .i64 left]
section
variable {w : World} {g sg ng b n : Nat} {files left : Int} {M : Int → Option Nat}
theorem none_any (w : World) (h : TB w g sg ng b files left) : Calls Tryz.prog 44 #[.pointer (some ⟨g, 0, none⟩)] w fun e w' => e = .returned (.bool false) ∧ w' = w := by
  have c2 := h.cell (j := 2) rfl
  have hb : ∀ w, (binOp .eql 99 (.map (some b)) (.map none)).run Tryz.prog w = .ok (.bool false) w := fun w => by kernel_rfl
  clear h
  go_enter Tryz.func44, Tryz.ntmps44
  go_wp2_with fail
  go_ret
  exact ⟨rfl, rfl⟩
theorem process_no (pid : Int) (w : World) (h : TB w g sg ng b files left) (hm : MB w b n M) (hp : I64 pid) (hn : M pid = none) : Calls Tryz.prog 64 #[.pointer (some ⟨g, 0, none⟩), .int .i64 pid] w fun e w' => e = .returned (.tuple #[.pointer none, .int .i64 19]) ∧ w' = w := by
  have cN := W_hid (none_any w h)
  have c2 := h.cell (j := 2) rfl
  have hl := hm.look pid hp
  rw [hn] at hl
  unfold ptr at hl
  clear h hm
  go_enter Tryz.func64, Tryz.ntmps64
  go_wp2_with fail
  refine cN.out.mono ?_
  rintro e w1 ⟨rfl, rfl⟩
  go_wp2_with fail
  go_ret2
  exact ⟨rfl, rfl⟩
theorem process_yes (pid : Int) (p : Nat) (w : World) (h : TB w g sg ng b files left) (hm : MB w b n M) (hp : I64 pid) (hn : M pid = some p) : Calls Tryz.prog 64 #[.pointer (some ⟨g, 0, none⟩), .int .i64 pid] w fun e w' => e = .returned (.tuple #[.pointer (some ⟨p, 0, none⟩), .int .i64 0]) ∧ w' = w := by
  have cN := W_hid (none_any w h)
  have c2 := h.cell (j := 2) rfl
  have hl := hm.look pid hp
  rw [hn] at hl
  unfold ptr at hl
  clear h hm
  go_enter Tryz.func64, Tryz.ntmps64
  go_wp2_with fail
  refine cN.out.mono ?_
  rintro e w1 ⟨rfl, rfl⟩
  go_wp2_with fail
  go_ret2
  exact ⟨rfl, rfl⟩
def vacR (M : Int → Option Nat) (pid : Int) : Int := if pid < 1 then 2 else if M pid = none then 0 else 12
theorem vacant_any (pid : Int) (w : World) (h : TB w g sg ng b files left) (hm : MB w b n M) (hp : I64 pid) : Calls Tryz.prog 45 #[.pointer (some ⟨g, 0, none⟩), .int .i64 pid] w fun e w' => e = .returned (.int .i64 (vacR M pid)) ∧ w' = w := by
  have c2 := h.cell (j := 2) rfl
  have hl := hm.look pid hp
  clear h hm
  unfold vacR
  by_cases h1 : pid < 1
  · rw [if_pos h1]
    clear hl
    go_enter Tryz.func45, Tryz.ntmps45
    go_wp2_with fail
    go_ret
    exact ⟨rfl, rfl⟩
  · rw [if_neg h1]
    cases hM : M pid with
    | none =>
      rw [if_pos rfl]
      rw [hM] at hl
      unfold ptr at hl
      clear hM
      go_enter Tryz.func45, Tryz.ntmps45
      go_wp2_with fail
      go_ret
      exact ⟨rfl, rfl⟩
    | some p =>
      rw [if_neg (by simp)]
      rw [hM] at hl
      unfold ptr at hl
      clear hM
      go_enter Tryz.func45, Tryz.ntmps45
      go_wp2_with fail
      go_ret
      exact ⟨rfl, rfl⟩
theorem file_srch (pid fd need : Int) (w : World) (h : TB w g sg ng b files left) (hm : MB w b n M) (hp : I64 pid) (hn : M pid = none) : Calls Tryz.prog 70 #[.pointer (some ⟨g, 0, none⟩), .int .i64 pid, .int .i64 fd, .int .i64 need] w fun e w' => e = .returned (.tuple #[.pointer none, .int .i64 19]) ∧ w' = w := by
  have cP := W_hid (process_no pid w h hm hp hn)
  clear h hm hp hn
  go_enter Tryz.func70, Tryz.ntmps70
  go_wp2_with fail
  refine cP.out.mono ?_
  rintro e w1 ⟨rfl, rfl⟩
  go_wp2_with fail
  go_ret2
  exact ⟨rfl, rfl⟩
theorem get_any (p : Nat) (fd : Int) (L : List (Option Nat)) (w : World) (h : PR w p L) : Calls Tryz.prog 118 #[.pointer (some ⟨p, 0, none⟩), .int .i64 fd] w fun e w' => e = .returned (pv (getL L fd)) ∧ w' = w := by
  by_cases hr : fd < 0 ∨ 64 ≤ fd
  · rw [getL_none (by rw [h.1]; omega)]
    exact get_out _ fd w hr
  · obtain ⟨k, rfl⟩ : ∃ k : Nat, fd = k := ⟨fd.toNat, by omega⟩
    obtain ⟨x, hx⟩ : ∃ x, L[k]? = some x := ⟨_, List.getElem?_eq_getElem (by rw [h.1]; omega)⟩
    rw [getL_at hx]
    exact get_in p k L x w h hx
theorem file_none (pid fd need : Int) (p : Nat) (L : List (Option Nat)) (w : World) (h : TB w g sg ng b files left) (hm : MB w b n M) (hp : I64 pid) (hn : M pid = some p) (hL : PR w p L) (hg : getL L fd = none) : Calls Tryz.prog 70 #[.pointer (some ⟨g, 0, none⟩), .int .i64 pid, .int .i64 fd, .int .i64 need] w fun e w' => e = .returned (.tuple #[.pointer none, .int .i64 16]) ∧ w' = w := by
  have cP := W_hid (process_yes pid p w h hm hp hn)
  have cG := get_any p fd L w hL
  rw [hg] at cG
  replace cG := W_hid (show Calls Tryz.prog 118 #[.pointer (some ⟨p, 0, none⟩), .int .i64 fd] w fun e w' => e = .returned (.pointer none) ∧ w' = w from cG)
  clear h hm hp hn hL hg
  go_enter Tryz.func70, Tryz.ntmps70
  go_wp2_with fail
  refine cP.out.mono ?_
  rintro e w1 ⟨rfl, rfl⟩
  go_wp2_with fail
  refine cG.out.mono ?_
  rintro e w1 ⟨rfl, rfl⟩
  go_wp2_with fail
  go_ret2
  exact ⟨rfl, rfl⟩
theorem file_some (pid fd need : Int) (p f : Nat) (L : List (Option Nat)) (o : Of) (w : World) (h : TB w g sg ng b files left) (hm : MB w b n M) (hp : I64 pid) (hn : M pid = some p) (hL : PR w p L) (hg : getL L fd = some f) (ho : FB w f o) : Calls Tryz.prog 70 #[.pointer (some ⟨g, 0, none⟩), .int .i64 pid, .int .i64 fd, .int .i64 need] w fun e w' => e = .returned (if (bits .and .i64 o.flags need == need) = true then .tuple #[.pointer (some ⟨f, 0, none⟩), .int .i64 0] else .tuple #[.pointer none, .int .i64 16]) ∧ w' = w := by
  have cP := W_hid (process_yes pid p w h hm hp hn)
  have cG := get_any p fd L w hL
  rw [hg] at cG
  replace cG := W_hid (show Calls Tryz.prog 118 #[.pointer (some ⟨p, 0, none⟩), .int .i64 fd] w fun e w' => e = .returned (.pointer (some ⟨f, 0, none⟩)) ∧ w' = w from cG)
  have cA := allows_any f o need w ho
  obtain ⟨t, ht⟩ : ∃ t, (bits .and .i64 o.flags need == need) = t := ⟨_, rfl⟩
  rw [ht] at cA ⊢
  replace cA := W_hid cA
  clear h hm hp hn hL hg ho ht
  cases t <;> (
    simp only [Bool.false_eq_true, if_true, if_false]
    go_enter Tryz.func70, Tryz.ntmps70
    go_wp2_with fail
    refine cP.out.mono ?_
    rintro e w1 ⟨rfl, rfl⟩
    go_wp2_with fail
    refine cG.out.mono ?_
    rintro e w1 ⟨rfl, rfl⟩
    go_wp2_with fail
    refine cA.out.mono ?_
    rintro e w1 ⟨rfl, rfl⟩
    go_wp2_with fail
    go_ret2
    exact ⟨rfl, rfl⟩)
end
end DC
namespace DC
open IS (ptr I64 upd)
section
variable {w : World} {g sg ng b n : Nat} {files left : Int} {M : Int → Option Nat}
theorem put_any (p f k : Nat) (L : List (Option Nat)) (o : Of) (w : World) (hL : PR w p L) (ho : FB w f o) (hk : k < 64) (hne : p ≠ f) (hr : 0 ≤ o.refs ∧ o.refs < 9223372036854775807) :
    Calls Tryz.prog 69 #[.pointer (some ⟨p, 0, none⟩), .int .i64 k, .pointer (some ⟨f, 0, none⟩)] w fun e w' => e = .returned (.tuple #[]) ∧ w' = (w.setCell ⟨f, 3, none⟩ (.int .i64 (o.refs + 1))).setCell ⟨p, k, none⟩ (.pointer (some ⟨f, 0, none⟩)) := by
  have c3 := ho.cell (j := 3) rfl
  have fz := ho.fz
  have fp := hL.2.fz
  obtain ⟨x, hx⟩ : ∃ x, L[k]? = some x := ⟨_, List.getElem?_eq_getElem (by rw [hL.1]; omega)⟩
  have ck := hL.at_ hx
  obtain ⟨v, hv⟩ : ∃ v, pv x = .pointer v := ⟨_, rfl⟩
  rw [hv] at ck
  have hlt := hr.2
  clear hL ho hx hv
  go_enter Tryz.func69, Tryz.ntmps69
  go_wp2_with fail
  exact bodyPost_end (results_none Tryz.results69 _ _ _) rfl ⟨rfl, rfl⟩
theorem Add_no (pid c : Int) (w : World) (h : TB w g sg ng b files left) (hm : MB w b n M) (hp : I64 pid) (hc : vacR M pid = c) (h0 : c ≠ 0) : Calls Tryz.prog 17 #[.pointer (some ⟨g, 0, none⟩), .int .i64 pid] w fun e w' => e = .returned (.int .i64 c) ∧ w' = w := by
  have cN := W_hid (none_any w h)
  have cV := vacant_any pid w h hm hp
  rw [hc] at cV
  replace cV := W_hid cV
  have hne : (c != 0) = true := by simpa using h0
  clear h hm hp hc h0
  go_enter Tryz.func17, Tryz.ntmps17
  go_wp2_with fail
  refine cN.out.mono ?_
  rintro e w1 ⟨rfl, rfl⟩
  go_wp2_with fail
  refine cV.out.mono ?_
  rintro e w1 ⟨rfl, rfl⟩
  go_wp2_with fail
  go_ret
  exact ⟨rfl, rfl⟩
theorem two_grown {w w' : World} {b : Nat} (h : w.grownBy w' (some b)) (hs : w'.heap.size = w.heap.size) : Two b b w w' := ⟨h.os, h.tape, h.output, by omega, fun k hk h1 _ => h.block k hk (fun e => h1 (by cases e; rfl))⟩
def L0 : List (Option Nat) := List.replicate 64 none
theorem Add_yes (pid : Int) (w : World) (h : TB w g sg ng b files left) (hm : MB w b n M) (hp : I64 pid) (hc : vacR M pid = 0) (hn : n < maxLen) : Calls Tryz.prog 17 #[.pointer (some ⟨g, 0, none⟩), .int .i64 pid] w fun e w' => e = .returned (.int .i64 0) ∧ ∃ p, w.heap.size ≤ p ∧ PR w' p L0 ∧ MB w' b (n + 1) (upd M pid (some p)) ∧ Two b b w w' := by
  have cN := W_hid (none_any w h)
  have cV := vacant_any pid w h hm hp
  rw [hc] at cV
  replace cV := W_hid cV
  have c2 := h.cell (j := 2) rfl
  have hPR : PR (w.alloc (.cells (L0.map pv).toArray 111)) w.heap.size L0 := ⟨rfl, Blk.new _ _ _ rfl⟩
  obtain ⟨W2, hrun, r1, r2, r3⟩ := (hm.alloc (.cells (L0.map pv).toArray 111)).put hn pid w.heap.size hp
  have hrun2 : (Instr.mapUpdate 99 (.map (some b)) (.int .i64 pid) (.pointer (some ⟨w.heap.size, 0, none⟩))).run Tryz.prog (w.alloc (.cells #[.pointer none, .pointer none, .pointer none, .pointer none, .pointer none, .pointer none, .pointer none, .pointer none, .pointer none, .pointer none, .pointer none, .pointer none, .pointer none, .pointer none, .pointer none, .pointer none, .pointer none, .pointer none, .pointer none, .pointer none, .pointer none, .pointer none, .pointer none, .pointer none, .pointer none, .pointer none, .pointer none, .pointer none, .pointer none, .pointer none, .pointer none, .pointer none, .pointer none, .pointer none, .pointer none, .pointer none, .pointer none, .pointer none, .pointer none, .pointer none, .pointer none, .pointer none, .pointer none, .pointer none, .pointer none, .pointer none, .pointer none, .pointer none, .pointer none, .pointer none, .pointer none, .pointer none, .pointer none, .pointer none, .pointer none, .pointer none, .pointer none, .pointer none, .pointer none, .pointer none, .pointer none, .pointer none, .pointer none, .pointer none] 111)) = .ok () W2 := hrun
  have hlt := hm.lt
  have hfin : Hid (∃ p, w.heap.size ≤ p ∧ PR W2 p L0 ∧ MB W2 b (n + 1) (upd M pid (some p)) ∧ Two b b w W2) := W_hid ⟨w.heap.size, Nat.le_refl _, ⟨rfl, hPR.2.grown r2 (by intro e; cases e; omega)⟩, r1, (Two.of ((Below.refl _ w).alloc (Nat.le_refl _) _)).trans (two_grown r2 r3)⟩
  clear h hc hrun hPR r1 r2 r3 hm hlt
  go_enter Tryz.func17, Tryz.ntmps17
  go_wp2_with fail
  refine cN.out.mono ?_
  rintro e w1 ⟨rfl, rfl⟩
  go_wp2_with fail
  refine cV.out.mono ?_
  rintro e w1 ⟨rfl, rfl⟩
  go_wp2_with fail
  go_ret
  exact ⟨rfl, hfin.out⟩
end
end DC
end Go.Proofs.YtfhidjkhmjdioaaGreat

namespace Go.Proofs.YtfhidjkhmjdioaaGreat
set_option linter.unusedVariables false
set_option linter.unusedSimpArgs false
namespace PM
def str (l : List UInt8) : ByteArray := ⟨l.toArray⟩
theorem str_list (l : List UInt8) : (str l).data.toList = l := by simp [str]
theorem str_of (s : ByteArray) : str s.data.toList = s := by simp [str]
theorem str_size (l : List UInt8) : (str l).size = l.length := by simp [str, ByteArray.size]
theorem list_size (s : ByteArray) : s.data.toList.length = s.size := Array.length_toList
def has (s : ByteArray) (v : Nat) : Bool := s.data.toList.any fun c => c.toNat == v
def comp (s : ByteArray) : Bool := decide (1 ≤ s.size) && decide (s.size ≤ 32) && !has s 47 && !has s 0
def dot : ByteArray := ⟨#[46]⟩
def dots : ByteArray := ⟨#[46, 46]⟩
def name (s : ByteArray) : Bool := comp s && decide (s ≠ dot) && decide (s ≠ dots)
def tot (l : List ByteArray) : Nat := (l.map fun s => s.size + 1).sum
def plen (a : Bool) (l : List ByteArray) (d : Bool) : Nat := (tot l - 1) + (if a then 1 else 0) + (if d && decide (0 < l.length) then 1 else 0)
def valid (a : Bool) (l : List ByteArray) (d : Bool) : Bool := if l = [] then a && d else l.all comp && decide (plen a l d ≤ 256)
def behind : List ByteArray → List UInt8
  | [] => []
  | x :: r => 47 :: (x.data.toList ++ behind r)
def body : List ByteArray → List UInt8
  | [] => []
  | x :: r => x.data.toList ++ behind r
def text (a : Bool) (l : List ByteArray) (d : Bool) : List UInt8 := (if a then [47] else []) ++ body l ++ (if d && decide (0 < l.length) then [47] else [])
def emit (cur : List UInt8) (acc : List ByteArray) : List ByteArray := if cur = [] then acc else acc ++ [str cur]
def split : List UInt8 → List ByteArray → List UInt8 → Option (List ByteArray)
  | cur, acc, [] => if 32 < cur.length then none else some (emit cur acc)
  | cur, acc, c :: r => if c.toNat = 47 then (if 32 < cur.length then none else split [] (emit cur acc) r) else split (cur ++ [c]) acc r
def names (s : ByteArray) : List ByteArray := (split [] [] s.data.toList).getD []
def perr (s : ByteArray) : Int := if s.size = 0 then 11 else if 256 < s.size then 17 else if has s 0 then 2 else if (split [] [] s.data.toList).isNone then 17 else 0
def first (s : ByteArray) : Bool := s.data.toList.head?.any fun c => c.toNat == 47
def last (s : ByteArray) : Bool := s.data.toList.getLast?.any fun c => c.toNat == 47
def pA (s : ByteArray) : Bool := if perr s = 0 then first s else false
def pD (s : ByteArray) : Bool := if perr s = 0 then last s else false
def pN (s : ByteArray) : List ByteArray := if perr s = 0 then names s else []
def step (a : Bool) (out : List ByteArray) (x : ByteArray) : List ByteArray :=
  if x = dot then out
  else if x = dots ∧ out ≠ [] ∧ out.getLast? ≠ some dots then out.dropLast
  else if x = dots ∧ out = [] ∧ a = true then out
  else out ++ [x]
def fold (a : Bool) (l : List ByteArray) : List ByteArray := l.foldl (step a) []
def normL (a : Bool) (l : List ByteArray) : List ByteArray := if fold a l = [] ∧ a = false then [dot] else fold a l
def normD (a : Bool) (l : List ByteArray) (d : Bool) : Bool := d || (decide (fold a l = []) && a)
/-! Totals. -/
theorem tot_nil : tot [] = 0 := rfl
theorem tot_cons (x : ByteArray) (l : List ByteArray) : tot (x :: l) = x.size + 1 + tot l := by simp [tot]
theorem tot_append (a b : List ByteArray) : tot (a ++ b) = tot a + tot b := by simp [tot]
theorem tot_snoc (a : List ByteArray) (x : ByteArray) : tot (a ++ [x]) = tot a + (x.size + 1) := by rw [tot_append]; simp [tot]
theorem tot_pos (l : List ByteArray) (h : l ≠ []) : 1 ≤ tot l := by
  cases l with
  | nil => exact absurd rfl h
  | cons x r => rw [tot_cons]; omega
/-! Components. -/
theorem comp_iff (s : ByteArray) : comp s = true ↔ (1 ≤ s.size ∧ s.size ≤ 32) ∧ (∀ c ∈ s.data.toList, c.toNat ≠ 47) ∧ ∀ c ∈ s.data.toList, c.toNat ≠ 0 := by
  simp only [comp, has, Bool.and_eq_true, decide_eq_true_eq, Bool.not_eq_true', List.any_eq_false, beq_iff_eq]
  constructor
  · rintro ⟨⟨h1, h2⟩, h3⟩; exact ⟨h1, h2, h3⟩
  · rintro ⟨h1, h2, h3⟩; exact ⟨⟨h1, h2⟩, h3⟩
theorem dot_ne : dot ≠ dots := by decide
/-! The parts of a text. -/
theorem emit_nil (acc : List ByteArray) : emit [] acc = acc := by simp [emit]
theorem emit_tot (cur : List UInt8) (acc : List ByteArray) : tot (emit cur acc) = tot acc + (if cur = [] then 0 else cur.length + 1) := by
  unfold emit
  by_cases h : cur = []
  · simp [h]
  · rw [if_neg h, if_neg h, tot_snoc, str_size]
def fresh (l : List UInt8) : Bool := l.getLast?.all fun c => c.toNat == 47
theorem fresh_mid (a : List UInt8) (c : UInt8) (r : List UInt8) (h : r ≠ []) : fresh (a ++ c :: r) = fresh r := by
  unfold fresh
  rw [List.getLast?_append]
  obtain ⟨y, r', rfl⟩ := List.exists_cons_of_ne_nil h
  rw [List.getLast?_cons_cons]
  cases h2 : (y :: r').getLast? with
  | none => simp at h2
  | some z => simp
theorem split_tot : ∀ (r cur : List UInt8) (acc l : List ByteArray), (∀ c ∈ cur, c.toNat ≠ 47) → split cur acc r = some l → tot l ≤ tot acc + (cur ++ r).length + (if fresh (cur ++ r) then 0 else 1)
  | [], cur, acc, l, hc, h => by
    simp only [split] at h
    split at h
    · cases h
    · obtain rfl := Option.some.inj h
      rw [emit_tot, List.append_nil]
      by_cases h0 : cur = []
      · simp [h0]
      · rw [if_neg h0]
        have hf : fresh cur = false := by
          unfold fresh
          rw [List.getLast?_eq_some_getLast h0]
          simp only [Option.all_some, beq_eq_false_iff_ne, ne_eq]
          exact hc _ (List.getLast_mem h0)
        rw [hf]; simp; omega
  | c :: r, cur, acc, l, hc, h => by
    simp only [split] at h
    split at h
    · rename_i h47
      split at h
      · cases h
      · have ih := split_tot r [] (emit cur acc) l (by simp) h
        rw [emit_tot] at ih
        simp only [List.nil_append] at ih
        have hf : (if fresh r then 0 else 1) ≤ (if fresh (cur ++ c :: r) then 0 else 1) := by
          by_cases hr : r = []
          · subst hr; simp [fresh]
          · rw [fresh_mid _ _ _ hr]; exact Nat.le_refl _
        simp only [List.length_append, List.length_cons]
        split at ih <;> omega
    · rename_i h47
      have ih := split_tot r (cur ++ [c]) acc l (by
        intro x hx
        rcases List.mem_append.1 hx with h1 | h1
        · exact hc x h1
        · simp at h1; subst h1; exact h47) h
      simpa using ih
theorem split_pre : ∀ (r cur : List UInt8) (acc l : List ByteArray), split cur acc r = some l → ∃ m, l = acc ++ m ∧ (cur ≠ [] → m ≠ [])
  | [], cur, acc, l, h => by
    simp only [split] at h
    split at h
    · cases h
    · obtain rfl := Option.some.inj h
      unfold emit
      split
      · rename_i h0; exact ⟨[], by simp, fun h => absurd h0 h⟩
      · exact ⟨[str cur], rfl, fun _ => by simp⟩
  | c :: r, cur, acc, l, h => by
    simp only [split] at h
    split at h
    · split at h
      · cases h
      · obtain ⟨m, rfl, -⟩ := split_pre r [] (emit cur acc) l h
        unfold emit
        split
        · rename_i h0; exact ⟨m, rfl, fun h => absurd h0 h⟩
        · exact ⟨str cur :: m, by simp, fun _ => by simp⟩
    · obtain ⟨m, rfl, hm⟩ := split_pre r (cur ++ [c]) acc l h
      exact ⟨m, rfl, fun _ => hm (by simp)⟩
theorem split_empty : ∀ (r : List UInt8), split [] [] r = some [] → ∀ c ∈ r, c.toNat = 47
  | [], _, c, hc => by simp at hc
  | c :: r, h, x, hx => by
    simp only [split, emit_nil] at h
    split at h
    · rename_i h47
      rw [if_neg (by simp)] at h
      rcases List.mem_cons.1 hx with rfl | hx
      · exact h47
      · exact split_empty r h x hx
    · obtain ⟨m, hm, hne⟩ := split_pre r _ [] [] h
      have : m = [] := by simpa using hm.symm
      exact absurd this (hne (by simp))
theorem split_comp : ∀ (r cur : List UInt8) (acc l : List ByteArray), (∀ c ∈ cur, c.toNat ≠ 47) → (∀ c ∈ cur ++ r, c.toNat ≠ 0) → (∀ x ∈ acc, comp x = true) → split cur acc r = some l → ∀ x ∈ l, comp x = true := by
  have hem : ∀ (cur : List UInt8) (acc : List ByteArray), ¬ 32 < cur.length → (∀ c ∈ cur, c.toNat ≠ 47) → (∀ c ∈ cur, c.toNat ≠ 0) → (∀ x ∈ acc, comp x = true) → ∀ x ∈ emit cur acc, comp x = true := by
    intro cur acc h32 h1 h2 h3 x hx
    unfold emit at hx
    split at hx
    · exact h3 x hx
    · rename_i h0
      rcases List.mem_append.1 hx with hx | hx
      · exact h3 x hx
      · obtain rfl : x = str cur := by simpa using hx
        rw [comp_iff, str_list, str_size]
        have : cur.length ≠ 0 := fun h => h0 (List.eq_nil_of_length_eq_zero h)
        exact ⟨⟨by omega, by omega⟩, h1, h2⟩
  intro r
  induction r with
  | nil =>
    intro cur acc l h1 h2 h3 h
    simp only [split] at h
    split at h
    · cases h
    · rename_i h32
      obtain rfl := Option.some.inj h
      exact hem cur acc h32 h1 (by simpa using h2) h3
  | cons c r ih =>
    intro cur acc l h1 h2 h3 h
    simp only [split] at h
    split at h
    · split at h
      · cases h
      · rename_i h32
        exact ih [] (emit cur acc) l (by simp) (fun x hx => h2 x (by simp only [List.nil_append] at hx; simp [hx])) (hem cur acc h32 h1 (fun x hx => h2 x (by simp [hx])) h3) h
    · rename_i h47
      refine ih (cur ++ [c]) acc l ?_ (by simpa using h2) h3 h
      intro x hx
      rcases List.mem_append.1 hx with hx | hx
      · exact h1 x hx
      · obtain rfl : x = c := by simpa using hx
        exact h47
/-! A path's text. -/
theorem take_snoc (l : List ByteArray) (k : Nat) (h : k < l.length) : l.take (k + 1) = l.take k ++ [l[k]] := List.take_succ_eq_append_getElem h
theorem valid_some {a d : Bool} {l : List ByteArray} (h : valid a l d = true) (hl : l ≠ []) : (∀ x ∈ l, comp x = true) ∧ plen a l d ≤ 256 := by
  unfold valid at h
  rw [if_neg hl] at h
  simp only [Bool.and_eq_true, decide_eq_true_eq, List.all_eq_true] at h
  exact h
theorem valid_comp {a d : Bool} {l : List ByteArray} (h : valid a l d = true) : ∀ x ∈ l, comp x = true := by
  by_cases hl : l = []
  · subst hl; simp
  · exact (valid_some h hl).1
theorem parse_valid {s : ByteArray} (h : perr s = 0) : valid (pA s) (pN s) (pD s) = true ∧ plen (pA s) (pN s) (pD s) ≤ s.size := by
  have hE := h
  unfold perr at h
  split at h
  · cases h
  split at h
  · cases h
  split at h
  · cases h
  split at h
  · cases h
  rename_i h0 h256 hz hs
  obtain ⟨l, hl⟩ : ∃ l, split [] [] s.data.toList = some l := by
    cases hx : split [] [] s.data.toList with
    | none => rw [hx] at hs; simp at hs
    | some l => exact ⟨l, rfl⟩
  have hN : pN s = l := by unfold pN names; rw [if_pos hE, hl]; rfl
  have hA : pA s = first s := by unfold pA; rw [if_pos hE]
  have hD : pD s = PM.last s := by unfold pD; rw [if_pos hE]
  rw [hN, hA, hD]
  have hsz := list_size s
  have hz' : ∀ c ∈ s.data.toList, c.toNat ≠ 0 := by
    simp only [has, Bool.not_eq_true, List.any_eq_false, beq_iff_eq] at hz
    exact hz
  have hcomp : ∀ x ∈ l, comp x = true := split_comp s.data.toList [] [] l (by simp) (by simpa using hz') (by simp) hl
  obtain ⟨c, r, hcr⟩ : ∃ c r, s.data.toList = c :: r := by
    cases hx : s.data.toList with
    | nil => rw [hx] at hsz; simp at hsz; omega
    | cons c r => exact ⟨c, r, rfl⟩
  have hfirst : first s = (c.toNat == 47) := by unfold first; rw [hcr]; rfl
  have hfresh : fresh s.data.toList = PM.last s := by
    unfold fresh PM.last
    rw [hcr]
    cases hx : (c :: r).getLast? with
    | none => simp at hx
    | some z => rfl
  have hbound : l ≠ [] → plen (first s) l (PM.last s) ≤ s.size := by
    intro hne
    have htp := tot_pos l hne
    have hlp : 0 < l.length := by cases l with
      | nil => exact absurd rfl hne
      | cons x r => simp
    unfold plen
    by_cases hc47 : c.toNat = 47
    · have h1 : split [] [] r = some l := by
        rw [hcr, split, if_pos hc47, if_neg (by simp), emit_nil] at hl; exact hl
      have h2 := split_tot r [] [] l (by simp) h1
      rw [List.nil_append, tot_nil, Nat.zero_add] at h2
      have hr : fresh r = true ∨ fresh r = PM.last s := by
        by_cases hr : r = []
        · subst hr; exact .inl rfl
        · right
          rw [← hfresh, hcr]
          exact (fresh_mid [] c r hr).symm
      rw [hfirst, show (c.toNat == 47) = true from by simpa using hc47]
      rw [hcr] at hsz
      simp only [List.length_cons] at hsz
      simp only [if_true]
      rcases hr with hr | hr
      · rw [hr] at h2; simp only [if_true] at h2
        split <;> omega
      · rw [hr] at h2
        cases hd : PM.last s with
        | true => rw [hd] at h2; simp only [if_true] at h2; split <;> omega
        | false => rw [hd] at h2; simp at h2 ⊢; omega
    · rw [hfirst, show (c.toNat == 47) = false from by simpa using hc47]
      have h2 := split_tot s.data.toList [] [] l (by simp) hl
      simp only [List.nil_append, tot_nil, Nat.zero_add, hfresh, hsz] at h2
      cases hd : PM.last s with
      | true => rw [hd] at h2; simp only [if_true] at h2; simp [hlp]; omega
      | false => rw [hd] at h2; simp at h2 ⊢; omega
  by_cases hne : l = []
  · subst hne
    have hall := split_empty _ hl
    have h1 : first s = true := by rw [hfirst]; simpa using hall c (by rw [hcr]; simp)
    have h2 : PM.last s = true := by
      rw [← hfresh]; unfold fresh
      rw [hcr]
      cases hx : (c :: r).getLast? with
      | none => simp at hx
      | some z =>
        have := hall z (by rw [hcr]; exact List.mem_of_getLast? hx)
        simpa using this
    rw [h1, h2]
    exact ⟨by simp [valid], by simp [plen, tot]; omega⟩
  · refine ⟨?_, hbound hne⟩
    unfold valid
    rw [if_neg hne]
    simp only [Bool.and_eq_true, decide_eq_true_eq, List.all_eq_true]
    exact ⟨hcomp, by have := hbound hne; omega⟩
/-! The normal form. -/
def Shape (a : Bool) (o : List ByteArray) : Prop := ∃ k p, o = List.replicate k dots ++ p ∧ (∀ x ∈ p, x ≠ dot ∧ x ≠ dots) ∧ (a = true → k = 0)
theorem Shape.nil (a : Bool) : Shape a [] := ⟨0, [], rfl, by simp, fun _ => rfl⟩
end PM
end Go.Proofs.YtfhidjkhmjdioaaGreat

namespace Go.Proofs.YtfhidjkhmjdioaaGreat
open Go.ChangeShapes Go.WideShapes Go.ChangeAt Go.RowKit Go.Maps
open Go.WideElems (Fit rd rg pl rd_val rd_key rg_of)
set_option linter.unusedVariables false
set_option linter.unusedSimpArgs false
namespace NS
def nv (x : Int × Option Nat) : Value := .agg #[.int .i64 x.1, IS.ptr x.2]
def nd (x : Int × Option Nat) : DataW Unit := .agg [.lit (.int .i64 x.1), IS.pd x.2]
def PR : Value → Option (DataW Unit × List MemPlace)
  | .agg cs => match cs.toList with
    | [.int .i64 n, p] => (IS.PR p).map fun z => (.agg [.lit (.int .i64 n), z.1], [])
    | _ => none
  | _ => none
theorem PR_nv (x : Int × Option Nat) : PR (nv x) = some (nd x, []) := by simp [PR, nv, nd, IS.PR_ptr]
theorem PR_inv {v : Value} {x : Int × Option Nat} {ps : List MemPlace} (h : PR v = some (nd x, ps)) : v = nv x := by
  unfold PR at h
  split at h
  · rename_i cs
    split at h
    · rename_i n p e
      obtain ⟨cs⟩ := cs
      simp only at e
      subst e
      cases hp : IS.PR p with
      | none => rw [hp] at h; cases h
      | some z =>
        rw [hp] at h
        simp only [Option.map_some, nd, Option.some.injEq, Prod.mk.injEq, DataW.agg.injEq, List.cons.injEq, DataW.lit.injEq, Lit.int.injEq, true_and, and_true] at h
        obtain ⟨⟨h1, h2⟩, -⟩ := h
        obtain ⟨z1, z2⟩ := z
        simp only at h2
        subst h2
        have := IS.PR_inv hp
        subst h1 this
        rfl
    · cases h
  · cases h
theorem und_map : Tryz.prog.underlying 92 = some (.map 9 90) := by kernel_rfl
theorem und_str : Tryz.prog.underlying 9 = some .string := by kernel_rfl
theorem keyed_str : Keyed Tryz.prog 9 := string_keyed und_str
def key (k : ByteArray) : Lit := .string k.data.toList
def Sm (k : ByteArray) : Prop := k.size ≤ maxLen
theorem key_of (k : ByteArray) (h : Sm k) : keyOf Tryz.prog 9 (.string k) = some (key k) := WideMaps.keyOf_string_mk und_str h
theorem key_inj {f g : ByteArray} (h : key f = key g) : f = g := by
  simp only [key, Lit.string.injEq] at h
  have := Array.toList_inj.1 h
  exact ByteArray.ext this
theorem key_ne {f g : ByteArray} (h : f ≠ g) : key f ≠ key g := fun e => h (key_inj e)
theorem isKey (f : ByteArray) (h : Sm f) : WideAt.IsKeyLit (key f) := keyed_str.key (key_of f h)
theorem zero_node (w : World) : (zeroValue 90).run Tryz.prog w = .ok (nv (0, none)) w := by kernel_rfl
def Nums (M : ByteArray → Option (Int × Option Nat)) (ss : List ByteArray) : Prop := ss.Nodup ∧ ∀ f, f ∈ ss ↔ M f ≠ none
theorem nodup_sub {α : Type} [DecidableEq α] : ∀ (l m : List α), l.Nodup → (∀ x ∈ l, x ∈ m) → l.length ≤ m.length
  | [], _, _, _ => Nat.zero_le _
  | a :: l, m, hn, h => by
    have hn' := List.nodup_cons.1 hn
    have h1 := nodup_sub l (m.erase a) hn'.2 (fun x hx => by
      have hm := h x (List.mem_cons_of_mem _ hx)
      exact (List.mem_erase_of_ne (fun e => hn'.1 (by rw [← e]; exact hx))).2 hm)
    have ha := h a List.mem_cons_self
    rw [List.length_erase_of_mem ha] at h1
    have : 0 < m.length := List.length_pos_of_mem ha
    simp only [List.length_cons]
    omega
theorem Nums.len_eq {M : ByteArray → Option (Int × Option Nat)} {a b : List ByteArray} (ha : Nums M a) (hb : Nums M b) : a.length = b.length :=
  Nat.le_antisymm (nodup_sub a b ha.1 fun x hx => (hb.2 x).2 ((ha.2 x).1 hx)) (nodup_sub b a hb.1 fun x hx => (ha.2 x).2 ((hb.2 x).1 hx))
structure MB (w : World) (b : Nat) (M : ByteArray → Option (Int × Option Nat)) : Prop where
  ex : ∃ D : DataW Unit, w.ownsMap Tryz.prog 9 PR b (Maps.size D) D ∧ (∀ f, Sm f → Maps.has D (key f) = (M f).isSome) ∧ (∀ f x, Sm f → M f = some x → ∀ z, D.atKey (key f) z = nd x)
  bound : ∀ f, M f ≠ none → Sm f
section
variable {w w' : World} {b : Nat} {M : ByteArray → Option (Int × Option Nat)}
theorem own_nums {n : Nat} {D : DataW Unit} (h : w.ownsMap Tryz.prog 9 PR b n D) (hf : ∀ f, Sm f → Maps.has D (key f) = (M f).isSome) (hb : ∀ f, M f ≠ none → Sm f) : ∃ ss, Nums M ss ∧ ss.length = Maps.size D := by
  obtain ⟨es0, rfl, hne, -⟩ := h.entries keyed_str
  obtain ⟨es, clock, hbk, F, hs, hD⟩ := h
  simp only [DataW.map.injEq] at hD
  have hk : ∀ p ∈ es0, ∃ f : ByteArray, p.1 = key f ∧ M f ≠ none := by
    intro p hp
    have hp0 := hp
    rw [hD] at hp
    obtain ⟨v, hv⟩ := fit_keys F p (mem_sorted.1 hp)
    obtain ⟨x, rfl, hx, hsz⟩ := WideMaps.string_of_keyOf und_str hv
    have hI : Sm x := hsz
    have hh := hf x hI
    have h1 : Maps.has (DataW.map es0) (key x) = true := by
      rw [Maps.has_eq]
      exact List.any_eq_true.2 ⟨p, hp0, by rw [hx]; exact WideAt.sameKey_self (isKey x hI)⟩
    rw [h1] at hh
    have hM : M x ≠ none := fun e => by rw [e] at hh; cases hh
    exact ⟨x, hx, hM⟩
  refine ⟨es0.map fun p => match p.1 with | .string l => ⟨l.toArray⟩ | _ => ByteArray.empty, ⟨?_, fun f => ?_⟩, by simp [Maps.size]⟩
  · unfold List.Nodup
    rw [List.pairwise_map]
    refine hne.imp_of_mem ?_
    intro p q hp hq hpq
    obtain ⟨f, e1, -⟩ := hk p hp
    obtain ⟨g, e2, -⟩ := hk q hq
    rw [e1, e2] at hpq
    rw [e1, e2]
    intro hfg
    apply hpq
    simp only [key] at hfg
    rw [show f = g from hfg]
  · rw [List.mem_map]
    constructor
    · rintro ⟨p, hp, rfl⟩
      obtain ⟨f, e1, hM⟩ := hk p hp
      rw [e1]
      exact hM
    · intro hM
      have hbd := hb f hM
      have h1 := hf f hbd
      have h2 : Maps.has (DataW.map es0) (key f) = true := by
        rw [h1]
        cases e : M f with
        | none => exact absurd e hM
        | some _ => rfl
      rw [Maps.has_eq] at h2
      obtain ⟨p, hp, hs⟩ := List.any_eq_true.1 h2
      obtain ⟨g, e1, -⟩ := hk p hp
      refine ⟨p, hp, ?_⟩
      rw [e1] at hs ⊢
      have : g = f := by
        simp only [key, Lit.sameKey] at hs
        have hs' : g.data.toList = f.data.toList := by simpa using hs
        exact ByteArray.ext (Array.toList_inj.1 hs')
      exact this
theorem MB.nums (h : MB w b M) : ∃ ss, Nums M ss := by
  obtain ⟨⟨D, ho, h1, h2⟩, hb⟩ := h
  obtain ⟨ss, h3, -⟩ := own_nums ho h1 hb
  exact ⟨ss, h3⟩
theorem own_tight {n : Nat} {D : DataW Unit} (h : w.ownsMap Tryz.prog 9 PR b n D) : w.ownsMap Tryz.prog 9 PR b (Maps.size D) D := by
  obtain ⟨es, clock, hb, F, hs, rfl⟩ := h
  exact ⟨es, clock, hb, F, by simp [Maps.size, length_sorted], rfl⟩
theorem MB.congr (h : MB w b M) {M' : ByteArray → Option (Int × Option Nat)} (hM : ∀ f, M f = M' f) : MB w b M' := by
  obtain rfl : M = M' := funext hM
  exact h
theorem MB.lt (h : MB w b M) : b < w.heap.size := by obtain ⟨D, ho, _⟩ := h.ex; exact ho.lt
theorem MB.obj (h : MB w b M) : ∃ es c, w.heap[b]? = some (.map es c) := by
  obtain ⟨D, ⟨es, clock, hb, _⟩, _⟩ := h.ex
  exact ⟨es, clock, hb⟩
theorem MB.grown (h : MB w b M) {row : Option Nat} (hg : w.grownBy w' row) (hne : some b ≠ row) : MB w' b M := by
  obtain ⟨⟨D, ho, h1, h2⟩, hb⟩ := h
  exact ⟨⟨D, ho.kept hg hne, h1, h2⟩, hb⟩
theorem MB.heap (h : MB w b M) (e : w'.heap[b]? = w.heap[b]?) : MB w' b M := by
  obtain ⟨⟨D, ⟨es, clock, hb, F, hs, hD⟩, h1, h2⟩, hbd⟩ := h
  exact ⟨⟨D, ⟨es, clock, e.trans hb, F, hs, hD⟩, h1, h2⟩, hbd⟩
theorem MB.keep (h : MB w b M) (hb : Below w.heap.size w w') : MB w' b M := h.heap (hb.block b h.lt)
theorem MB.far (h : MB w b M) {p : Addr} (hp : b ≠ p.block) (u : Value) : MB (w.setCell p u) b M := h.heap (Below.heap_setCell w p u b hp)
theorem MB.alloc (h : MB w b M) (o : Obj) : MB (w.alloc o) b M := h.heap (Below.heap_alloc w o b h.lt)
theorem MB.drew (h : MB w b M) (t : Nat) : MB (w.drewN t) b M := h.heap rfl
theorem MB.drew1 (h : MB w b M) : MB w.drew b M := h.heap rfl
theorem MB.look (h : MB w b M) (f : ByteArray) (hf : Sm f) :
    (Instr.lookup 92 (.map (some b)) (.string f) true).run Tryz.prog w = .ok (.tuple #[nv ((M f).getD (0, none)), .bool (M f).isSome]) w := by
  obtain ⟨⟨D, ho, h1, h2⟩, hb⟩ := h
  obtain ⟨v, ps, hrun, hv⟩ := ho.look_ok keyed_str und_map (zero_node w) (PR_nv (0, none)) (key_of f hf)
  have e : v = nv ((M f).getD (0, none)) := by
    apply PR_inv (ps := ps)
    rw [hv]
    cases hm : M f with
    | none => have := h1 f hf; rw [hm] at this; rw [Maps.atKey_of_not_has (by simpa using this)]; rfl
    | some x => rw [h2 f x hf hm]; rfl
  rw [hrun, e, h1 f hf]
theorem MB.count (h : MB w b M) {ss : List ByteArray} (hs : Nums M ss) (ty : TypeId) : (Builtin.len_ #[92] ty #[.map (some b)]).run Tryz.prog w = .ok (.int .i64 (ss.length : Int)) w := by
  obtain ⟨⟨D, ho, h1, h2⟩, hb⟩ := h
  obtain ⟨ss', h3, h4⟩ := own_nums ho h1 hb
  rw [ho.len und_map ty, ← h4, h3.len_eq hs]
def upd (M : ByteArray → Option (Int × Option Nat)) (f : ByteArray) (x : Option (Int × Option Nat)) : ByteArray → Option (Int × Option Nat) := fun g => if g = f then x else M g
theorem MB.put (h : MB w b M) (f : ByteArray) (x : Int × Option Nat) (hf : Sm f) (hfew : ∀ ss, Nums M ss → ss.length < 65536) :
    ∃ w', (Instr.mapUpdate 92 (.map (some b)) (.string f) (nv x)).run Tryz.prog w = .ok () w' ∧ MB w' b (upd M f (some x)) ∧ w.grownBy w' (some b) ∧ w'.heap.size = w.heap.size := by
  obtain ⟨⟨D, ho, h1, h2⟩, hb⟩ := h
  obtain ⟨ss, hN, hL⟩ := own_nums ho h1 hb
  have hsz : Maps.size D < 65536 := by
    rw [← hL]
    exact hfew ss hN
  obtain ⟨w', hrun, ho', ht⟩ := ho.store keyed_str und_map (by unfold maxLen; omega) (key_of f hf) (PR_nv x)
  refine ⟨w', hrun, ⟨⟨_, own_tight ho', fun k hk => ?_, fun k vs hk hv z => ?_⟩, fun k hk => ?_⟩, ht.grown, ?_⟩
  · unfold upd
    by_cases e : k = f
    · subst e; rw [if_pos rfl, Maps.has_put_same ho.isMap (isKey k hk)]; rfl
    · rw [if_neg e, Maps.has_put_other (key_ne e), h1 k hk]
  · unfold upd at hv
    by_cases e : k = f
    · subst e; rw [if_pos rfl] at hv; cases hv; exact Maps.atKey_put_same ho.isMap (isKey k hk) _ _
    · rw [if_neg e] at hv; rw [Maps.atKey_put_other (key_ne e)]; exact h2 k vs hk hv z
  · unfold upd at hk
    by_cases e : k = f
    · rw [e]; exact hf
    · rw [if_neg e] at hk; exact hb k hk
  · obtain ⟨es, c, es', c', hbb, rfl⟩ := ht
    simp [ChangeMaps.setBlock]
theorem MB.del (h : MB w b M) (f : ByteArray) (hf : Sm f) (ty : TypeId) :
    ∃ w', (Builtin.delete_ #[92, 9] ty #[.map (some b), .string f]).run Tryz.prog w = .ok (.tuple #[]) w' ∧ MB w' b (upd M f none) ∧ w.grownBy w' (some b) ∧ w'.heap.size = w.heap.size := by
  obtain ⟨⟨D, ho, h1, h2⟩, hb⟩ := h
  obtain ⟨w', hrun, ho', ht⟩ := ho.drop keyed_str und_map (key_of f hf) ty
  refine ⟨w', hrun, ⟨⟨_, own_tight ho', fun g hg => ?_, fun g vs hg hv z => ?_⟩, fun g hg => ?_⟩, ht.grown, ?_⟩
  · unfold upd
    by_cases e : g = f
    · subst e; rw [if_pos rfl, Maps.has_del_same]; rfl
    · rw [if_neg e, Maps.has_del_other (key_ne e), h1 g hg]
  · unfold upd at hv
    by_cases e : g = f
    · rw [if_pos e] at hv; cases hv
    · rw [if_neg e] at hv; rw [Maps.atKey_del_other (key_ne e)]; exact h2 g vs hg hv z
  · unfold upd at hg
    by_cases e : g = f
    · rw [if_pos e] at hg; exact absurd rfl hg
    · rw [if_neg e] at hg; exact hb g hg
  · obtain ⟨es, c, es', c', hbb, rfl⟩ := ht
    simp [ChangeMaps.setBlock]
theorem MB.new (w : World) : MB (w.alloc (.map #[] 0)) w.heap.size (fun _ => none) :=
  ⟨⟨.map [], own_tight (World.ownsMap_made w _ _ PR), fun _ _ => rfl, fun _ _ _ h => by cases h⟩, fun _ h => absurd rfl h⟩
end
end NS
end Go.Proofs.YtfhidjkhmjdioaaGreat

namespace Go.Proofs.YtfhidjkhmjdioaaGreat
set_option linter.unusedVariables false
set_option linter.unusedSimpArgs false
namespace NT
structure Dr where
  up : Int
  l : List (ByteArray × Int)
abbrev Ds := Int → Option Dr
def upd (D : Ds) (n : Int) (x : Option Dr) : Ds := fun m => if m = n then x else D m
theorem upd_at (D : Ds) (n : Int) (x : Option Dr) : upd D n x n = x := if_pos rfl
theorem upd_ne {D : Ds} {n m : Int} {x : Option Dr} (h : m ≠ n) : upd D n x m = D m := if_neg h
def look (k : ByteArray) : List (ByteArray × Int) → Option Int
  | [] => none
  | x :: l => if x.1 = k then some x.2 else look k l
def blt (a b : ByteArray) : Bool := Op.bytesLess a.toList b.toList
def ins (k : ByteArray) (n : Int) : List (ByteArray × Int) → List (ByteArray × Int)
  | [] => [(k, n)]
  | x :: l => if blt x.1 k = true then x :: ins k n l else (k, n) :: x :: l
def del (k : ByteArray) (l : List (ByteArray × Int)) : List (ByteArray × Int) := l.filter fun x => decide (x.1 ≠ k)
def put (k : ByteArray) (n : Int) (l : List (ByteArray × Int)) : List (ByteArray × Int) := ins k n (del k l)
theorem look_ins (k : ByteArray) (n : Int) (j : ByteArray) : ∀ l, look k l = none → look j (ins k n l) = if j = k then some n else look j l
  | [], _ => by
    by_cases h : j = k
    · subst h; simp [ins, look]
    · simp [ins, look, h, Ne.symm h]
  | x :: l, h => by
    have hx : x.1 ≠ k := fun e => by simp [look, e] at h
    have hl : look k l = none := by simpa [look, hx] using h
    unfold ins
    split
    · rename_i hb
      unfold look
      rw [look_ins k n j l hl]
      by_cases e : x.1 = j
      · have : j ≠ k := fun e' => hx (e.trans e')
        simp [e, this]
      · simp [e]
    · by_cases e : j = k
      · subst e; simp [look]
      · simp [look, e, Ne.symm e]
theorem look_del (k j : ByteArray) : ∀ l, look j (del k l) = if j = k then none else look j l
  | [] => by simp [del, look]
  | x :: l => by
    have ih := look_del k j l
    unfold del at ih ⊢
    by_cases hx : x.1 = k
    · rw [List.filter_cons_of_neg (by simp [hx]), ih]
      by_cases e : j = k
      · simp [e]
      · have : x.1 ≠ j := fun e' => e (e'.symm.trans hx)
        simp [look, e, this]
    · rw [List.filter_cons_of_pos (by simp [hx])]
      unfold look
      rw [ih]
      by_cases e : j = k
      · subst e; simp [hx]
      · simp [e]
theorem look_put (k : ByteArray) (n : Int) (j : ByteArray) (l : List (ByteArray × Int)) : look j (put k n l) = if j = k then some n else look j l := by
  unfold put
  rw [look_ins k n j _ (by rw [look_del, if_pos rfl]), look_del]
  by_cases e : j = k
  · simp [e]
  · simp [e]
theorem look_mem {k : ByteArray} {n : Int} : ∀ {l}, look k l = some n → (k, n) ∈ l
  | [], h => by cases h
  | x :: l, h => by
    unfold look at h
    split at h
    · rename_i e
      cases h
      subst e
      exact List.mem_cons_self
    · exact List.mem_cons_of_mem _ (look_mem h)
def step (D : Ds) (n : Int) (x : ByteArray) : Except Int Int := match D n with
  | none => .error 13
  | some d => if x = PM.dot then .ok n else if x = PM.dots then .ok d.up else match look x d.l with
    | none => .error 11
    | some m => .ok m
def goes (D : Ds) : Int → List ByteArray → Except Int Int
  | n, [] => .ok n
  | n, x :: xs => match step D n x with
    | .error e => .error e
    | .ok m => goes D m xs
theorem goes_snoc (D : Ds) : ∀ (xs : List ByteArray) (n : Int) (x : ByteArray), goes D n (xs ++ [x]) = (match goes D n xs with
  | .error e => .error e
  | .ok m => step D m x)
  | [], n, x => by
    simp only [List.nil_append, goes]
    cases step D n x <;> rfl
  | y :: ys, n, x => by
    simp only [List.cons_append, goes]
    cases step D n y with
    | error e => rfl
    | ok m => exact goes_snoc D ys m x
def find (D : Ds) (l : List ByteArray) (dir : Bool) : Except Int Int := match goes D 1 l with
  | .error e => .error e
  | .ok n => if dir = true ∧ D n = none then .error 13 else .ok n
def place (D : Ds) (l : List ByteArray) (nameless : Int) : Except Int Int := if l = [] then .error nameless else match goes D 1 l.dropLast with
  | .error e => .error e
  | .ok n => if D n = none then .error 13 else .ok n
def at_ (D : Ds) (n : Int) (k : ByteArray) : Option Int := match D n with
  | none => none
  | some d => look k d.l
def er {α : Type} : Except Int α → Int
  | .error e => e
  | .ok _ => 0
theorem step_er {D : Ds} {n : Int} {x : ByteArray} {e : Int} (h : step D n x = .error e) : e ≠ 0 := by
  unfold step at h
  split at h
  · cases h; decide
  · split at h
    · cases h
    · split at h
      · cases h
      · split at h <;> cases h
        decide
theorem goes_er {D : Ds} {e : Int} : ∀ {l : List ByteArray} {n : Int}, goes D n l = .error e → e ≠ 0
  | [], n, h => by cases h
  | x :: xs, n, h => by
    unfold goes at h
    split at h
    · rename_i e' he
      cases h
      exact step_er he
    · exact goes_er h
end NT
end Go.Proofs.YtfhidjkhmjdioaaGreat

namespace Go.Proofs.YtfhidjkhmjdioaaGreat
open Go.ChangeShapes Go.WideShapes Go.ChangeAt Go.RowKit Go.Maps
set_option linter.unusedVariables false
set_option linter.unusedSimpArgs false
namespace NT
open IN (Keeps)
def pa (A : Int → Option (Nat × Nat)) (n : Int) : Option Nat := (A n).map (·.1)
def nm (A : Int → Option (Nat × Nat)) (l : List (ByteArray × Int)) : ByteArray → Option (Int × Option Nat) := fun k => (look k l).map fun j => (j, pa A j)
def dcl (A : Int → Option (Nat × Nat)) (d : Dr) (m : Nat) : List Value := [.int .i64 d.up, IS.ptr (pa A d.up), .map (some m)]
structure TM (base : Nat) (w : World) (tg sg mb : Nat) (A : Int → Option (Nat × Nat)) (D : Ds) : Prop where
  box : Blk w tg 96 [.pointer (some ⟨sg, 0, none⟩), .int .i64 1, IS.ptr (pa A 1)]
  dom : ∀ n, A n = none ↔ D n = none
  root : D 1 ≠ none
  dir : ∀ n g m d, A n = some (g, m) → D n = some d → Blk w g 94 (dcl A d m) ∧ NS.MB w m (nm A d.l)
  inj : ∀ n n' g m g' m', A n = some (g, m) → A n' = some (g', m') → n ≠ n' → g ≠ g' ∧ m ≠ m'
  ge : base ≤ tg ∧ ∀ n g m, A n = some (g, m) → base ≤ g ∧ base ≤ m ∧ m ≠ mb
def DT (A : Int → Option (Nat × Nat)) (k : Nat) (o : Obj) : Prop := (∃ n m, A n = some (k, m)) ∨ ∃ n g, A n = some (g, k)
section
variable {base : Nat} {w w' : World} {tg sg mb : Nat} {A : Int → Option (Nat × Nat)} {D : Ds}
theorem TM.low (h : TM base w tg sg mb A D) : base ≤ w.heap.size := Nat.le_trans h.ge.1 (Nat.le_of_lt h.box.lt)
theorem TM.has (h : TM base w tg sg mb A D) {n : Int} {d : Dr} (hD : D n = some d) : ∃ g m, A n = some (g, m) ∧ Blk w g 94 (dcl A d m) ∧ NS.MB w m (nm A d.l) := by
  cases hA : A n with
  | none => rw [(h.dom n).1 hA] at hD; cases hD
  | some x =>
    obtain ⟨g, m⟩ := x
    exact ⟨g, m, rfl, h.dir n g m d hA hD⟩
theorem TM.hasA (h : TM base w tg sg mb A D) {n : Int} {g m : Nat} (hA : A n = some (g, m)) : ∃ d, D n = some d ∧ Blk w g 94 (dcl A d m) ∧ NS.MB w m (nm A d.l) := by
  cases hD : D n with
  | none => rw [(h.dom n).2 hD] at hA; cases hA
  | some d => exact ⟨d, rfl, h.dir n g m d hA hD⟩
theorem TM.moved (h : TM base w tg sg mb A D) (h1 : w'.heap[tg]? = w.heap[tg]?) (h2 : ∀ n g m, A n = some (g, m) → w'.heap[g]? = w.heap[g]? ∧ w'.heap[m]? = w.heap[m]?) : TM base w' tg sg mb A D :=
  ⟨h1.trans h.box, h.dom, h.root, fun n g m d hA hD => by
    obtain ⟨p, q⟩ := h.dir n g m d hA hD
    obtain ⟨e1, e2⟩ := h2 n g m hA
    exact ⟨e1.trans p, q.heap e2⟩, h.inj, h.ge⟩
theorem TM.keep (h : TM base w tg sg mb A D) (hb : Below w.heap.size w w') : TM base w' tg sg mb A D :=
  h.moved (hb.block _ h.box.lt) fun n g m hA => by
    obtain ⟨d, _, p, q⟩ := h.hasA hA
    exact ⟨hb.block _ p.lt, hb.block _ q.lt⟩
theorem TM.drew (h : TM base w tg sg mb A D) (t : Nat) : TM base (w.drewN t) tg sg mb A D := h.moved rfl fun _ _ _ _ => ⟨rfl, rfl⟩
theorem TM.alloc (h : TM base w tg sg mb A D) (o : Obj) : TM base (w.alloc o) tg sg mb A D := h.keep ((Below.refl _ _).alloc (Nat.le_refl _) o)
theorem TM.keeps (h : TM base w tg sg mb A D) {B : Nat} {T : Nat → Obj → Prop} (hK : Keeps B T w w') (h1 : ∀ k c s, ¬ T k (.cells c 96 s)) (h2 : ∀ k c s, ¬ T k (.cells c 94 s)) (h3 : ∀ n g m es c, A n = some (g, m) → ¬ T m (.map es c)) : TM base w' tg sg mb A D :=
  h.moved ((hK.block _ _ h.box (h1 _ _ _)).trans (Eq.symm h.box)) fun n g m hA => by
    obtain ⟨d, _, p, q⟩ := h.hasA hA
    obtain ⟨es, c, hm⟩ := q.obj
    exact ⟨(hK.block _ _ p (h2 _ _ _)).trans (Eq.symm p), (hK.block _ _ hm (h3 n g m es c hA)).trans hm.symm⟩
theorem TM.store (h : TM base w tg sg mb A D) {B : Nat} (hK : Keeps B (IN.PT mb) w w') : TM base w' tg sg mb A D :=
  h.keeps hK (by simp [IN.PT]) (by simp [IN.PT]) (fun n g m es c hA => by
    have := (h.ge.2 n g m hA).2.2
    simp [IN.PT, this])
end
end NT
end Go.Proofs.YtfhidjkhmjdioaaGreat

namespace Go.Proofs.YtfhidjkhmjdioaaGreat
open Go.ChangeShapes Go.WideShapes Go.ChangeAt Go.RowKit
set_option linter.unusedVariables false
set_option linter.unusedSimpArgs false
theorem byte_get (s : ByteArray) (k : Nat) (h : k < s.size) : s.data.toList.drop k = s[k] :: s.data.toList.drop (k + 1) := by
  rw [List.drop_eq_getElem_cons (by simpa using h)]; rfl
theorem any_take_snoc (s : ByteArray) (f : UInt8 → Bool) (k : Nat) (h : k < s.size) : (s.data.toList.take (k + 1)).any f = ((s.data.toList.take k).any f || f s[k]) := by
  rw [List.take_succ_eq_append_getElem (by simpa using h), List.any_append]; simp; rfl
theorem has_of {s : ByteArray} {k v : Nat} (h : k < s.size) (e : (s[k].toNat : Int) = v) : PM.has s v = true := by
  unfold PM.has
  rw [List.any_eq_true]
  exact ⟨s[k], by simp [ByteArray.getElem_eq_getElem_data], by simpa using (by omega : s[k].toNat = v)⟩
theorem has_none {s : ByteArray} {v : Nat} (h : (s.data.toList.take s.size).any (fun c => c.toNat == v) = false) : PM.has s v = false := by
  unfold PM.has
  rw [List.take_of_length_le (by simp [PM.list_size])] at h
  exact h
set_option maxRecDepth 100000 in
set_option maxHeartbeats 400000 in
theorem contains_any (s : ByteArray) (v : Nat) (x : Int) (hx : x = v) (w : World) (hs : s.size ≤ maxLen) :
    Calls Tryz.prog 130 #[.string s, .int .u8 x] w fun e w' => e = .returned (.bool (PM.has s v)) ∧ w = w' := by
  unfold maxLen at hs
  have HX : Hid _ := hx
  clear hx
  go_enter Tryz.func130, Tryz.ntmps130
  go_wp2
  go_loop [8] (fun i => ∃ k : Nat, k ≤ s.size ∧ i = .int .i64 k ∧ Hid ((s.data.toList.take k).any (fun c => c.toNat == v) = false)) (fun i => s.size - (intOf i).toNat)
  case atStart => exact ⟨0, Nat.zero_le _, rfl, rfl⟩
  case round =>
    obtain ⟨k, hk, rfl, hno⟩ := hrel
    by_cases hlt : k < s.size
    · by_cases he : (s[k].toNat : Int) = x
      · have hh : Hid (PM.has s v = true) := has_of hlt (he.trans HX.out)
        have hb : ((s[k].toNat : Int) == x) = true := by simpa using he
        clear he
        go_wp2
        go_ret
        exact ⟨by rw [hh.out]; rfl, rfl⟩
      · have hb : ((s[k].toNat : Int) == x) = false := by simpa using he
        have hn : Hid ((s.data.toList.take (k + 1)).any (fun c => c.toNat == v) = false) := by
          have h0 := hno.out
          show _ = false
          rw [any_take_snoc _ _ _ hlt, h0]
          have := HX.out
          simp only [Bool.false_or, beq_eq_false_iff_ne, ne_eq]
          omega
        clear he
        go_wp2
        go_round
        case rel => exact ⟨k + 1, by omega, by go_num, hn⟩
        case measure => simp [intOf]; omega
    · obtain rfl : k = s.size := by omega
      have hh : Hid (PM.has s v = false) := has_none hno.out
      go_wp2
      go_ret
      exact ⟨by rw [hh.out]; rfl, rfl⟩
theorem comp_false {s : ByteArray} (h : ¬ (1 ≤ s.size ∧ s.size ≤ 32) ∨ PM.has s 47 = true ∨ PM.has s 0 = true) : PM.comp s = false := by
  unfold PM.comp
  rcases h with h | h | h
  · rcases Nat.lt_or_ge s.size 1 with h1 | h1
    · simp [show ¬ 1 ≤ s.size by omega]
    · simp [show ¬ s.size ≤ 32 by omega]
  · rw [h]; simp
  · rw [h]; simp
theorem comp_true {s : ByteArray} (h1 : 1 ≤ s.size) (h2 : s.size ≤ 32) (h3 : PM.has s 47 = false) (h4 : PM.has s 0 = false) : PM.comp s = true := by
  unfold PM.comp; rw [h3, h4]; simp [h1, h2]
theorem empty_facts {s : ByteArray} (h : s.size = 0) : s.toList = [] ∧ s.toList.isEmpty = true := by
  have : s.data.toList = [] := List.eq_nil_of_length_eq_zero (by rw [PM.list_size]; exact h)
  rw [ByteArray.toList_eq, this]; exact ⟨rfl, rfl⟩
theorem full_facts {s : ByteArray} (h : s.size ≠ 0) : (s.toList = []) = False ∧ s.toList.isEmpty = false := by
  have hl := PM.list_size s
  rw [ByteArray.toList_eq]
  cases he : s.data.toList with
  | nil => rw [he] at hl; exact absurd hl.symm h
  | cons c r => exact ⟨by simp, rfl⟩
set_option maxRecDepth 100000 in
set_option maxHeartbeats 400000 in
theorem component_any (s : ByteArray) (w : World) (hs : s.size ≤ maxLen) :
    Calls Tryz.prog 126 #[.string s] w fun e w' => e = .returned (.bool (PM.comp s)) ∧ w = w' := by
  by_cases h1 : s.size = 0
  · have hh : Hid (PM.comp s = false) := comp_false (by omega)
    obtain ⟨e1, e2⟩ := empty_facts h1
    clear h1
    go_enter Tryz.func126, Tryz.ntmps126
    go_wp2_with fail
    go_ret
    exact ⟨by rw [hh.out]; rfl, rfl⟩
  obtain ⟨e1, e2⟩ := full_facts h1
  by_cases h2 : s.size ≤ 32
  · cases h3 : PM.has s 47 with
    | true =>
      have hh : Hid (PM.comp s = false) := comp_false (.inr (.inl h3))
      have H47 : Hid (Calls Tryz.prog 130 #[.string s, .int .u8 47] w fun e w' => e = .returned (.bool true) ∧ w = w') := by
        have := contains_any s 47 47 rfl w hs
        rwa [h3] at this
      clear h3
      go_enter Tryz.func126, Tryz.ntmps126
      go_wp2_with (go_at_call 130; refine H47.out.mono ?_; rintro e w' ⟨rfl, rfl⟩)
      go_ret
      exact ⟨by rw [hh.out]; rfl, rfl⟩
    | false =>
      have H47 : Hid (Calls Tryz.prog 130 #[.string s, .int .u8 47] w fun e w' => e = .returned (.bool false) ∧ w = w') := by
        have := contains_any s 47 47 rfl w hs
        rwa [h3] at this
      have hh : Hid (PM.comp s = !PM.has s 0) := by
        cases h4 : PM.has s 0 with
        | true => exact comp_false (.inr (.inr h4))
        | false => exact comp_true (by omega) h2 h3 h4
      have H0 : Hid (Calls Tryz.prog 130 #[.string s, .int .u8 0] w fun e w' => e = .returned (.bool (PM.has s 0)) ∧ w = w') := contains_any s 0 0 rfl w hs
      clear h3
      go_enter Tryz.func126, Tryz.ntmps126
      go_wp2_with fail
      refine H47.out.mono ?_
      rintro e w' ⟨rfl, rfl⟩
      go_wp2_with fail
      refine H0.out.mono ?_
      rintro e w' ⟨rfl, rfl⟩
      go_wp2
      go_ret
      exact ⟨by rw [hh.out]; rfl, rfl⟩
  · have hh : Hid (PM.comp s = false) := comp_false (by omega)
    have h2' : 32 < s.size := by omega
    unfold maxLen at hs
    go_enter Tryz.func126, Tryz.ntmps126
    go_wp2_with fail
    go_ret
    exact ⟨by rw [hh.out]; rfl, rfl⟩
theorem list_inj {s t : ByteArray} (h : s.toList = t.toList) : s = t := by
  rw [ByteArray.toList_eq, ByteArray.toList_eq] at h
  rw [← PM.str_of s, ← PM.str_of t, h]
theorem dot_list : PM.dot.toList = [46] := by rw [ByteArray.toList_eq]; rfl
theorem dots_list : PM.dots.toList = [46, 46] := by rw [ByteArray.toList_eq]; rfl
theorem dot_yes {s : ByteArray} (h : s = PM.dot) : s.toList = [46] := by rw [h, dot_list]
theorem dots_yes {s : ByteArray} (h : s = PM.dots) : s.toList = [46, 46] := by rw [h, dots_list]
theorem dot_no {s : ByteArray} (h : s ≠ PM.dot) : (s.toList = [46]) = False ∧ (s.toList == [46]) = false := by
  have : s.toList ≠ [46] := fun e => h (list_inj (e.trans dot_list.symm))
  exact ⟨by simpa using this, by simpa using this⟩
theorem dots_no {s : ByteArray} (h : s ≠ PM.dots) : (s.toList = [46, 46]) = False ∧ (s.toList == [46, 46]) = false := by
  have : s.toList ≠ [46, 46] := fun e => h (list_inj (e.trans dots_list.symm))
  exact ⟨by simpa using this, by simpa using this⟩
theorem name_no {s : ByteArray} (h : PM.comp s = false ∨ s = PM.dot ∨ s = PM.dots) : PM.name s = false := by
  unfold PM.name
  rcases h with h | h | h <;> simp [h]
theorem name_yes {s : ByteArray} (h : PM.comp s = true) (h1 : s ≠ PM.dot) (h2 : s ≠ PM.dots) : PM.name s = true := by
  unfold PM.name; simp [h, h1, h2]
set_option maxRecDepth 100000 in
set_option maxHeartbeats 400000 in
theorem IsName_any (s : ByteArray) (w : World) (hs : s.size ≤ maxLen) :
    Calls Tryz.prog 77 #[.string s] w fun e w' => e = .returned (.bool (PM.name s)) ∧ w = w' := by
  cases h0 : PM.comp s with
  | true =>
    have H0 : Hid (Calls Tryz.prog 126 #[.string s] w fun e w' => e = .returned (.bool true) ∧ w = w') := by
      have := component_any s w hs
      rwa [h0] at this
    by_cases h1 : s = PM.dot
    · have hh : Hid (PM.name s = false) := name_no (.inr (.inl h1))
      have e1 := dot_yes h1
      clear h0 h1
      go_enter Tryz.func77, Tryz.ntmps77
      go_wp2_with fail
      refine H0.out.mono ?_
      rintro e w' ⟨rfl, rfl⟩
      go_wp2_with fail
      go_ret
      exact ⟨by rw [hh.out]; rfl, rfl⟩
    obtain ⟨e1, e2⟩ := dot_no h1
    by_cases h2 : s = PM.dots
    · have hh : Hid (PM.name s = false) := name_no (.inr (.inr h2))
      have e3 := dots_yes h2
      clear h0 h1 h2
      go_enter Tryz.func77, Tryz.ntmps77
      go_wp2_with fail
      refine H0.out.mono ?_
      rintro e w' ⟨rfl, rfl⟩
      go_wp2_with fail
      go_ret
      exact ⟨by rw [hh.out]; rfl, rfl⟩
    obtain ⟨e3, e4⟩ := dots_no h2
    have hh : Hid (PM.name s = true) := name_yes h0 h1 h2
    clear h0 h1 h2
    go_enter Tryz.func77, Tryz.ntmps77
    go_wp2_with fail
    refine H0.out.mono ?_
    rintro e w' ⟨rfl, rfl⟩
    go_wp2_with fail
    go_ret
    exact ⟨by rw [hh.out]; rfl, rfl⟩
  | false =>
    have H0 : Hid (Calls Tryz.prog 126 #[.string s] w fun e w' => e = .returned (.bool false) ∧ w = w') := by
      have := component_any s w hs
      rwa [h0] at this
    have hh : Hid (PM.name s = false) := name_no (.inl h0)
    clear h0
    go_enter Tryz.func77, Tryz.ntmps77
    go_wp2_with fail
    refine H0.out.mono ?_
    rintro e w' ⟨rfl, rfl⟩
    go_wp2_with fail
    go_ret
    exact ⟨by rw [hh.out]; rfl, rfl⟩
end Go.Proofs.YtfhidjkhmjdioaaGreat

namespace Go.Proofs.YtfhidjkhmjdioaaGreat
open Go.ChangeShapes Go.WideShapes Go.ChangeAt Go.RowKit Go.Maps
set_option linter.unusedVariables false
set_option linter.unusedSimpArgs false
namespace NT
open IN (Keeps)
def boxed (w : World) (n : Int) (x : Option Nat) : World := w.alloc (.cells #[.int .i64 n, IS.ptr x] 90)
set_option maxRecDepth 100000 in
set_option maxHeartbeats 1000000 in
theorem isFile_any (n : Int) (x : Option Nat) (w : World) : Calls Tryz.prog 78 #[.agg #[.int .i64 n, IS.ptr x]] w fun e w' => e = .returned (.bool x.isNone) ∧ Below w.heap.size w w' := by
  have hb := (Below.refl w.heap.size w).alloc (Nat.le_refl _) (.cells #[.int .i64 n, IS.ptr x] 90)
  cases x with
  | none =>
    simp only [IS.ptr] at hb ⊢
    go_enter Tryz.func78, Tryz.ntmps78
    go_wp2_with fail
    go_ret
    exact ⟨rfl, hb⟩
  | some g =>
    simp only [IS.ptr] at hb ⊢
    go_enter Tryz.func78, Tryz.ntmps78
    go_wp2_with fail
    go_ret
    exact ⟨rfl, hb⟩
theorem res_node {fn : Func} {r t : Tmp} (hres : fn.results = #[.cell r 90, .tmp t]) (tmps : Array Value) (w : World) {g : Nat} {n p : Value} (hr : tmps.getD r undef = .pointer (some ⟨g, 0, none⟩)) (h : Blk w g 90 [n, p]) :
    (results fn tmps).run Tryz.prog w = .ok (.tuple #[.agg #[n, p], tmps.getD t undef]) w := by
  have h0 := h.cell (j := 0) rfl
  have h1 := h.cell (j := 1) rfl
  rw [Array.getD_eq_getD_getElem?] at hr
  simp [results, hres, go_sem, hr, h0, h1]
theorem new2 (w : World) (a b : Obj) : Below w.heap.size w ((w.alloc a).alloc b) := ((Below.refl _ w).alloc (Nat.le_refl _) a).alloc (by simp) b
theorem new3 (w : World) (a b c : Obj) : Below w.heap.size w (((w.alloc a).alloc b).alloc c) := (new2 w a b).alloc (by simp; omega) c
def DB (w : World) (g : Nat) (u : Int) (pu : Option Nat) (m : Nat) (M : ByteArray → Option (Int × Option Nat)) : Prop := Blk w g 94 [.int .i64 u, IS.ptr pu, .map (some m)] ∧ NS.MB w m M
theorem DB.keep {w w' : World} {g m : Nat} {u : Int} {pu : Option Nat} {M : ByteArray → Option (Int × Option Nat)} (h : DB w g u pu m M) (hb : Below w.heap.size w w') : DB w' g u pu m M := ⟨h.1.keep hb, h.2.keep hb⟩
set_option maxRecDepth 100000 in
set_option maxHeartbeats 2000000 in
theorem get_any (g m : Nat) (u : Int) (pu : Option Nat) (M : ByteArray → Option (Int × Option Nat)) (k : ByteArray) (hk : NS.Sm k) (w : World) (h : DB w g u pu m M) :
    Calls Tryz.prog 125 #[.pointer (some ⟨g, 0, none⟩), .string k] w fun e w' => e = .returned (.tuple #[NS.nv ((M k).getD (0, none)), .bool (M k).isSome]) ∧ Below w.heap.size w w' := by
  have c2 := fun o => (h.1.alloc o).cell (j := 2) rfl
  obtain ⟨r, hr⟩ : ∃ r, (M k).getD (0, none) = r := ⟨_, rfl⟩
  obtain ⟨b, hbb⟩ : ∃ b, (M k).isSome = b := ⟨_, rfl⟩
  rw [hr, hbb]
  have hl := fun o => (h.2.alloc o).look k hk
  simp only [hr, hbb] at hl
  clear hr hbb
  replace h := W_hid h
  obtain ⟨n, x⟩ := r
  unfold NS.nv at hl ⊢
  cases x with
  | none =>
    simp only [IS.ptr] at hl ⊢
    go_enter Tryz.func125, Tryz.ntmps125
    go_wp2_with fail
    exact bodyPost_ret (res_node Tryz.results125 _ _ rfl ((Blk.new _ _ _ rfl).alloc _)) rfl ⟨rfl, new2 _ _ _⟩
  | some g' =>
    simp only [IS.ptr] at hl ⊢
    go_enter Tryz.func125, Tryz.ntmps125
    go_wp2_with fail
    exact bodyPost_ret (res_node Tryz.results125 _ _ rfl ((Blk.new _ _ _ rfl).alloc _)) rfl ⟨rfl, new2 _ _ _⟩
set_option maxRecDepth 100000 in
set_option maxHeartbeats 2000000 in
theorem step_file (n : Int) (k : ByteArray) (w : World) :
    Calls Tryz.prog 168 #[.agg #[.int .i64 n, .pointer none], .string k] w fun e w' => e = .returned (.tuple #[.agg #[.int .i64 0, .pointer none], .int .i64 13]) ∧ Below w.heap.size w w' := by
  have cF := fun w => W_hid (isFile_any n none w)
  simp only [IS.ptr, Option.isNone_none] at cF
  go_enter Tryz.func168, Tryz.ntmps168
  go_wp2_with fail
  refine (cF _).out.mono ?_
  rintro e w1 ⟨rfl, b1⟩
  have n1 : Blk w1 (w.heap.size + 1) 90 [.int .i64 0, .pointer none] := (Blk.new _ _ _ (by simp)).keep b1
  have c0 := n1.cell (j := 0) rfl
  have c1 := n1.cell (j := 1) rfl
  have f1 := n1.fz
  have N1 := W_hid ((n1.set 0 (.int .i64 0)).set 1 (.pointer none))
  have BB := W_hid ((((new2 w _ _).trans (b1.mono (by simp; omega))).setCell (p := ⟨w.heap.size + 1, 0, none⟩) (by simp) (.int .i64 0)).setCell (p := ⟨w.heap.size + 1, 1, none⟩) (by simp) (.pointer none))
  clear b1 n1
  go_wp2_with fail
  refine bodyPost_ret (res_node Tryz.results168 _ _ rfl N1.out) rfl ?_
  exact ⟨rfl, BB.out⟩
theorem ptr_form (x : Option Nat) : ∃ pp : Option Addr, IS.ptr x = .pointer pp := by cases x <;> exact ⟨_, rfl⟩
def stv (n : Int) (g : Nat) (u : Int) (pu : Option Nat) (M : ByteArray → Option (Int × Option Nat)) (k : ByteArray) : Int × Option Nat := if k = PM.dot then (n, some g) else if k = PM.dots then (u, pu) else (M k).getD (0, none)
def ste (M : ByteArray → Option (Int × Option Nat)) (k : ByteArray) : Int := if k = PM.dot then 0 else if k = PM.dots then 0 else if (M k).isSome = true then 0 else 11
set_option maxRecDepth 100000 in
set_option maxHeartbeats 4000000 in
theorem step_dot (n : Int) (g : Nat) (w : World) :
    Calls Tryz.prog 168 #[.agg #[.int .i64 n, .pointer (some ⟨g, 0, none⟩)], .string PM.dot] w fun e w' => e = .returned (.tuple #[.agg #[.int .i64 n, .pointer (some ⟨g, 0, none⟩)], .int .i64 0]) ∧ Below w.heap.size w w' := by
  have cF := fun w => W_hid (isFile_any n (some g) w)
  simp only [IS.ptr, Option.isNone_some] at cF
  obtain ⟨k, hk⟩ : ∃ k, PM.dot = k := ⟨_, rfl⟩
  rw [hk]
  have e1 := dot_yes hk.symm
  clear hk
  go_enter Tryz.func168, Tryz.ntmps168
  go_wp2_with fail
  refine (cF _).out.mono ?_
  rintro e w1 ⟨rfl, b1⟩
  have n0 : Blk w1 w.heap.size 90 [.int .i64 n, .pointer (some ⟨g, 0, none⟩)] := ((Blk.new _ _ _ rfl).alloc _).keep b1
  have n1 : Blk w1 (w.heap.size + 1) 90 [.int .i64 0, .pointer none] := (Blk.new _ _ _ (by simp)).keep b1
  have c0 := n1.cell (j := 0) rfl
  have c1 := n1.cell (j := 1) rfl
  have d0 := n0.cell (j := 0) rfl
  have d1 := n0.cell (j := 1) rfl
  have f1 := n1.fz
  have N1 := W_hid ((n1.set 0 (.int .i64 n)).set 1 (.pointer (some ⟨g, 0, none⟩)))
  have BB := W_hid ((((new2 w _ _).trans (b1.mono (by simp; omega))).setCell (p := ⟨w.heap.size + 1, 0, none⟩) (by simp) (.int .i64 n)).setCell (p := ⟨w.heap.size + 1, 1, none⟩) (by simp) (.pointer (some ⟨g, 0, none⟩)))
  clear b1 n1 n0
  go_wp2_with fail
  refine bodyPost_ret (res_node Tryz.results168 _ _ rfl N1.out) rfl ?_
  exact ⟨rfl, BB.out⟩
set_option maxRecDepth 100000 in
set_option maxHeartbeats 4000000 in
theorem step_up (n : Int) (g m : Nat) (u : Int) (pu : Option Nat) (M : ByteArray → Option (Int × Option Nat)) (w : World) (h : DB w g u pu m M) :
    Calls Tryz.prog 168 #[.agg #[.int .i64 n, .pointer (some ⟨g, 0, none⟩)], .string PM.dots] w fun e w' => e = .returned (.tuple #[NS.nv (u, pu), .int .i64 0]) ∧ Below w.heap.size w w' := by
  have cF := fun w => W_hid (isFile_any n (some g) w)
  simp only [IS.ptr, Option.isNone_some] at cF
  have h1 := h.1
  clear h
  unfold NS.nv
  obtain ⟨pp, hpp⟩ := ptr_form pu
  rw [hpp] at h1 ⊢
  clear hpp
  obtain ⟨k, hk⟩ : ∃ k, PM.dots = k := ⟨_, rfl⟩
  rw [hk]
  have e1 := dots_yes hk.symm
  clear hk
  go_enter Tryz.func168, Tryz.ntmps168
  go_wp2_with fail
  refine (cF _).out.mono ?_
  rintro e w1 ⟨rfl, b1⟩
  have n0 : Blk w1 w.heap.size 90 [.int .i64 n, .pointer (some ⟨g, 0, none⟩)] := ((Blk.new _ _ _ rfl).alloc _).keep b1
  have n1 : Blk w1 (w.heap.size + 1) 90 [.int .i64 0, .pointer none] := (Blk.new _ _ _ (by simp)).keep b1
  have hd := ((h1.alloc _).alloc _).keep b1
  have c0 := n1.cell (j := 0) rfl
  have c1 := n1.cell (j := 1) rfl
  have d0 := n0.cell (j := 0) rfl
  have d1 := n0.cell (j := 1) rfl
  have g0 := hd.cell (j := 0) rfl
  have g1 := hd.cell (j := 1) rfl
  have f1 := n1.fz
  have N1 := W_hid ((n1.set 0 (.int .i64 u)).set 1 (.pointer pp))
  have BB := W_hid ((((new2 w _ _).trans (b1.mono (by simp; omega))).setCell (p := ⟨w.heap.size + 1, 0, none⟩) (by simp) (.int .i64 u)).setCell (p := ⟨w.heap.size + 1, 1, none⟩) (by simp) (.pointer pp))
  clear b1 n1 n0 hd h1
  go_wp2_with fail
  refine bodyPost_ret (res_node Tryz.results168 _ _ rfl N1.out) rfl ?_
  exact ⟨rfl, BB.out⟩
set_option maxRecDepth 100000 in
set_option maxHeartbeats 4000000 in
theorem step_name (n : Int) (g m : Nat) (u : Int) (pu : Option Nat) (M : ByteArray → Option (Int × Option Nat)) (k : ByteArray) (hs : NS.Sm k) (k1 : k ≠ PM.dot) (k2 : k ≠ PM.dots) (w : World) (h : DB w g u pu m M) :
    Calls Tryz.prog 168 #[.agg #[.int .i64 n, .pointer (some ⟨g, 0, none⟩)], .string k] w fun e w' => e = .returned (.tuple #[NS.nv ((M k).getD (0, none)), .int .i64 (if (M k).isSome = true then 0 else 11)]) ∧ Below w.heap.size w w' := by
  have cF := fun w => W_hid (isFile_any n (some g) w)
  simp only [IS.ptr, Option.isNone_some] at cF
  have cG := fun w h => W_hid (get_any g m u pu M k hs w h)
  have h := W_hid h
  obtain ⟨e1, e2⟩ := dot_no k1
  obtain ⟨e3, e4⟩ := dots_no k2
  clear k1 k2
  cases hM : M k with
  | none =>
    rw [hM] at cG
    simp only [Option.getD_none, Option.isSome_none, NS.nv, IS.ptr] at cG ⊢
    go_enter Tryz.func168, Tryz.ntmps168
    go_wp2_with fail
    refine (cF _).out.mono ?_
    rintro e w1 ⟨rfl, b1⟩
    have n0 : Blk w1 w.heap.size 90 [.int .i64 n, .pointer (some ⟨g, 0, none⟩)] := ((Blk.new _ _ _ rfl).alloc _).keep b1
    have n1 : Blk w1 (w.heap.size + 1) 90 [.int .i64 0, .pointer none] := (Blk.new _ _ _ (by simp)).keep b1
    have hd := (h.out.keep (new2 w _ _)).keep b1
    have d0 := n0.cell (j := 0) rfl
    have d1 := n0.cell (j := 1) rfl
    have BB := W_hid ((new2 w _ _).trans (b1.mono (by simp; omega)))
    have n1 := W_hid n1
    have cG1 := cG _ hd
    clear b1 n0 hd cG
    go_wp2_with fail
    refine cG1.out.mono ?_
    rintro e w2 ⟨rfl, b2⟩
    have n2 := ((n1.out.keep b2)).alloc (.cells #[.int .i64 0, .pointer none] 90)
    have c0 := n2.cell (j := 0) rfl
    have c1 := n2.cell (j := 1) rfl
    have f1 := n2.fz
    have N1 := W_hid ((n2.set 0 (.int .i64 0)).set 1 (.pointer none))
    have b2' : Below w.heap.size w w2 := BB.out.trans (b2.mono BB.out.size)
    have B2 := W_hid (((b2'.alloc b2'.size (.cells #[.int .i64 0, .pointer none] 90)).setCell (p := ⟨w.heap.size + 1, 0, none⟩) (by simp) (.int .i64 0)).setCell (p := ⟨w.heap.size + 1, 1, none⟩) (by simp) (.pointer none))
    clear b2 n2 b2' n1 BB cG1
    go_wp2_with fail
    refine bodyPost_ret (res_node Tryz.results168 _ _ rfl N1.out) rfl ?_
    exact ⟨rfl, B2.out⟩
  | some r =>
    rw [hM] at cG
    obtain ⟨r1, r2⟩ := r
    obtain ⟨pp, hpp⟩ := ptr_form r2
    simp only [Option.getD_some, Option.isSome_some, NS.nv, hpp] at cG ⊢
    clear hpp
    go_enter Tryz.func168, Tryz.ntmps168
    go_wp2_with fail
    refine (cF _).out.mono ?_
    rintro e w1 ⟨rfl, b1⟩
    have n0 : Blk w1 w.heap.size 90 [.int .i64 n, .pointer (some ⟨g, 0, none⟩)] := ((Blk.new _ _ _ rfl).alloc _).keep b1
    have n1 : Blk w1 (w.heap.size + 1) 90 [.int .i64 0, .pointer none] := (Blk.new _ _ _ (by simp)).keep b1
    have hd := (h.out.keep (new2 w _ _)).keep b1
    have d0 := n0.cell (j := 0) rfl
    have d1 := n0.cell (j := 1) rfl
    have BB := W_hid ((new2 w _ _).trans (b1.mono (by simp; omega)))
    have n1 := W_hid n1
    have cG1 := cG _ hd
    clear b1 n0 hd cG
    go_wp2_with fail
    refine cG1.out.mono ?_
    rintro e w2 ⟨rfl, b2⟩
    have n2 := ((n1.out.keep b2)).alloc (.cells #[.int .i64 r1, .pointer pp] 90)
    have c0 := n2.cell (j := 0) rfl
    have c1 := n2.cell (j := 1) rfl
    have f1 := n2.fz
    have N1 := W_hid ((n2.set 0 (.int .i64 r1)).set 1 (.pointer pp))
    have b2' : Below w.heap.size w w2 := BB.out.trans (b2.mono BB.out.size)
    have B2 := W_hid (((b2'.alloc b2'.size (.cells #[.int .i64 r1, .pointer pp] 90)).setCell (p := ⟨w.heap.size + 1, 0, none⟩) (by simp) (.int .i64 r1)).setCell (p := ⟨w.heap.size + 1, 1, none⟩) (by simp) (.pointer pp))
    clear b2 n2 b2' n1 BB cG1
    go_wp2_with fail
    refine bodyPost_ret (res_node Tryz.results168 _ _ rfl N1.out) rfl ?_
    exact ⟨rfl, B2.out⟩
def rv (A : Int → Option (Nat × Nat)) : Except Int Int → Value
  | .ok m => NS.nv (m, pa A m)
  | .error _ => NS.nv (0, none)
section
variable {base : Nat} {w w' : World} {tg sg mb : Nat} {A : Int → Option (Nat × Nat)} {D : Ds}
theorem step_any (n : Int) (k : ByteArray) (hs : NS.Sm k) (w : World) (h : TM base w tg sg mb A D) :
    Calls Tryz.prog 168 #[NS.nv (n, pa A n), .string k] w fun e w' => e = .returned (.tuple #[rv A (step D n k), .int .i64 (er (step D n k))]) ∧ Below w.heap.size w w' := by
  cases hD : D n with
  | none =>
    have hA := (h.dom n).2 hD
    have e1 : pa A n = none := by unfold pa; rw [hA]; rfl
    have e2 : step D n k = .error 13 := by unfold step; rw [hD]
    rw [e1, e2]
    exact step_file n k w
  | some d =>
    obtain ⟨g, m, hA, hb, hm⟩ := h.has hD
    have e1 : pa A n = some g := by unfold pa; rw [hA]; rfl
    have hB : DB w g d.up (pa A d.up) m (nm A d.l) := ⟨hb, hm⟩
    rw [e1]
    by_cases k1 : k = PM.dot
    · have e2 : step D n k = .ok n := by unfold step; rw [hD]; simp [k1]
      have e3 : rv A (.ok n) = NS.nv (n, some g) := by simp [rv, e1]
      rw [e2, k1, e3]
      exact step_dot n g w
    · by_cases k2 : k = PM.dots
      · have e2 : step D n k = .ok d.up := by unfold step; rw [hD]; simp [k1, k2, PM.dot_ne.symm]
        rw [e2, k2]
        exact step_up n g m d.up _ _ w hB
      · have c := step_name n g m d.up _ _ k hs k1 k2 w hB
        cases hl : look k d.l with
        | none =>
          have e2 : step D n k = .error 11 := by unfold step; rw [hD]; simp [k1, k2, hl]
          have e3 : nm A d.l k = none := by simp [nm, hl]
          rw [e2]
          rw [e3] at c
          exact c
        | some j =>
          have e2 : step D n k = .ok j := by unfold step; rw [hD]; simp [k1, k2, hl]
          have e3 : nm A d.l k = some (j, pa A j) := by simp [nm, hl]
          rw [e2]
          rw [e3] at c
          exact c
end
end NT
end Go.Proofs.YtfhidjkhmjdioaaGreat

namespace Go.Proofs.YtfhidjkhmjdioaaGreat
open Go.ChangeShapes Go.WideShapes Go.ChangeAt Go.RowKit
set_option linter.unusedVariables false
set_option linter.unusedSimpArgs false
theorem info_str : (Tryz.prog.info? 9).map (fun i => (i.zero, i.size, i.bytes)) = some (some (.string ByteArray.empty), 1, 16) := by kernel_rfl
def scl (l : List ByteArray) : List Value := l.map Value.string
theorem scl_length (l : List ByteArray) : (scl l).length = l.length := by simp [scl]
theorem scl_append (a b : List ByteArray) : scl (a ++ b) = scl a ++ scl b := by simp [scl]
theorem scl_get (l : List ByteArray) (j : Nat) : (scl l)[j]? = (l[j]?).map Value.string := by simp [scl]
def PB (w : World) (g : Nat) (a : Bool) (v : Value) (d : Bool) : Prop := w.heap[g]? = some (.cells #[.bool a, v, .bool d] 158 (0, 0))
section
variable {w w' : World} {g : Nat} {a d : Bool} {v : Value}
theorem PB.c0 (h : PB w g a v d) : w.cell? ⟨g, 0, none⟩ = some (.bool a) := by rw [cell_of_row w g 0 _ _ _ h]; rfl
theorem PB.c1 (h : PB w g a v d) : w.cell? ⟨g, 1, none⟩ = some v := by rw [cell_of_row w g 1 _ _ _ h]; rfl
theorem PB.c2 (h : PB w g a v d) : w.cell? ⟨g, 2, none⟩ = some (.bool d) := by rw [cell_of_row w g 2 _ _ _ h]; rfl
theorem PB.fz (h : PB w g a v d) (i : Nat) : w.frozen? ⟨g, i, none⟩ = false := by unfold PB at h; simp [World.frozen?, h]
theorem PB.lt (h : PB w g a v d) : g < w.heap.size := by
  rcases Nat.lt_or_ge g w.heap.size with hlt | hge
  · exact hlt
  · unfold PB at h; rw [Array.getElem?_eq_none hge] at h; cases h
theorem PB.below {B : Nat} (h : PB w g a v d) (hb : Below B w w') (hg : g < B) : PB w' g a v d := (hb.block g hg).trans h
theorem PB.alloc (h : PB w g a v d) (o : Obj) : PB (w.alloc o) g a v d := (Below.heap_alloc w o g h.lt).trans h
theorem PB.grown {row : Option Nat} (h : PB w g a v d) (hb : w.grownBy w' row) (hg : some g ≠ row) : PB w' g a v d := (hb.block g h.lt hg).trans h
theorem PB.far (h : PB w g a v d) {p : Addr} (hp : g ≠ p.block) (u : Value) : PB (w.setCell p u) g a v d := (Below.heap_setCell w p u g hp).trans h
theorem PB.new {x : Nat} (w : World) (a : Bool) (v : Value) (d : Bool) (hx : x = w.heap.size) : PB (w.alloc (.cells #[.bool a, v, .bool d] 158)) x a v d := by subst hx; exact heap_alloc_new w _
theorem PB.set1 (h : PB w g a v d) (u : Value) : PB (w.setCell ⟨g, 1, none⟩ u) g a u d := by
  unfold PB at h ⊢
  simp [World.setCell, Array.getElem?_modify, h]
theorem PB.set0 (h : PB w g a v d) (b : Bool) : PB (w.setCell ⟨g, 0, none⟩ (.bool b)) g b v d := by
  unfold PB at h ⊢
  simp [World.setCell, Array.getElem?_modify, h]
theorem PB.set2 (h : PB w g a v d) (b : Bool) : PB (w.setCell ⟨g, 2, none⟩ (.bool b)) g a v b := by
  unfold PB at h ⊢
  simp [World.setCell, Array.getElem?_modify, h]
end
theorem res_path {fn : Func} {r t : Tmp} (hres : fn.results = #[.cell r 158, .tmp t]) (tmps : Array Value) (w : World) {g : Nat} {a d : Bool} {v : Value} (hr : tmps.getD r undef = .pointer (some ⟨g, 0, none⟩)) (hp : PB w g a v d) :
    (results fn tmps).run Tryz.prog w = .ok (.tuple #[.agg #[.bool a, v, .bool d], tmps.getD t undef]) w := by
  have c0 := hp.c0
  have c1 := hp.c1
  have c2 := hp.c2
  rw [Array.getD_eq_getD_getElem?] at hr
  simp [results, hres, go_sem, hr, c0, c1, c2]
theorem own_form {w : World} {base e n : Nat} {v : Value} {xs : List Value} (h : w.ownsRow base e 1 v n xs) : ∃ ao cap, v = .slice ao n cap := by
  rcases h.2 with ⟨rfl, rfl⟩ | ⟨g, cap, cur, rfl, _⟩
  · have := h.1; simp at this; subst this; exact ⟨_, _, rfl⟩
  · exact ⟨_, _, rfl⟩
theorem own_set {w : World} {base e size n : Nat} {v : Value} {xs : List Value} (h : w.ownsRow base e size v n xs) {p : Addr} (hp : p.block < base) (u : Value) : (w.setCell p u).ownsRow base e size v n xs := by
  rcases h.2 with h0 | ⟨g, cap, cur, h1, h2, h3, h4⟩
  · exact ⟨h.1, .inl h0⟩
  · exact ⟨h.1, .inr ⟨g, cap, cur, h1, h2, (Below.heap_setCell w p u g (by omega)).trans h3, h4⟩⟩
theorem append_keeps {w wr w2 : World} {o : Obj} {a d : Bool} {v v2 : Value} {n n2 : Nat} {xs xs2 : List Value} {a0 d0 : Bool} {v0 : Value} {e : TypeId}
    (hp0 : PB wr w.heap.size a0 v0 d0) (hp1 : PB wr (w.heap.size + 1) a v d) (hown : wr.ownsRow (w.heap.size + 2) e 1 v n xs) (bel : Below w.heap.size w wr)
    (hown2 : w2.ownsRow (w.heap.size + 2) e 1 v2 n2 xs2) (hg : (wr.alloc o).grownBy w2 v.ownBlock) :
    PB w2 w.heap.size a0 v0 d0 ∧ PB w2 (w.heap.size + 1) a v d ∧ w2.ownsRow (w.heap.size + 2) e 1 v2 n2 xs2 ∧ Below w.heap.size w w2 ∧ wr.heap.size ≤ w2.heap.size := by
  refine ⟨(hp0.alloc _).grown hg ?_, (hp1.alloc _).grown hg ?_, hown2, (bel.alloc bel.size _).grown hg (by simp; have := bel.size; omega) (fun g h => by have := own_ge hown g h; omega), Nat.le_trans (by simp) hg.size⟩
  · intro h; have := own_ge hown _ h.symm; omega
  · intro h; have := own_ge hown _ h.symm; omega
theorem first_eq (s : ByteArray) (h : 0 < s.size) : PM.first s = ((s[0].toNat : Int) == 47) := by
  have := byte_get s 0 h
  unfold PM.first
  rw [← List.drop_zero (l := s.data.toList), this]
  simp only [List.head?_cons, Option.any_some]
  rw [Bool.eq_iff_iff, beq_iff_eq, beq_iff_eq]; omega
theorem last_eq (s : ByteArray) (h : 0 < s.size) : PM.last s = ((s[s.size - 1].toNat : Int) == 47) := by
  unfold PM.last
  rw [List.getLast?_eq_getElem?, PM.list_size, List.getElem?_eq_getElem (by rw [PM.list_size]; omega)]
  simp only [Option.any_some]
  have e : s.data.toList[s.size - 1]'(by rw [PM.list_size]; omega) = s[s.size - 1] := rfl
  rw [e, Bool.eq_iff_iff, beq_iff_eq, beq_iff_eq]
  omega
theorem extract_list (s : ByteArray) (a b : Nat) : (s.extract a b).data.toList = (s.data.toList.take b).drop a := by
  rw [ByteArray.data_extract, Array.toList_extract, List.extract_eq_take_drop, List.drop_take]
theorem cut_size (s : ByteArray) (a b : Nat) (h1 : a ≤ b) (h2 : b ≤ s.size) : (s.extract a b).size = b - a := by
  rw [← PM.list_size, extract_list, List.length_drop, List.length_take, PM.list_size]; omega
def part (s : ByteArray) (a b : Nat) : List UInt8 := (s.extract a b).data.toList
theorem part_length (s : ByteArray) (a b : Nat) (h1 : a ≤ b) (h2 : b ≤ s.size) : (part s a b).length = b - a := by
  unfold part; rw [PM.list_size, cut_size s a b h1 h2]
theorem part_nil (s : ByteArray) (a : Nat) : part s a a = [] := by
  unfold part; rw [extract_list]
  exact List.drop_eq_nil_of_le (by simp; omega)
theorem part_snoc (s : ByteArray) (a b : Nat) (h1 : a ≤ b) (h2 : b < s.size) : part s a (b + 1) = part s a b ++ [s[b]] := by
  unfold part
  rw [extract_list, extract_list, List.take_succ_eq_append_getElem (by rw [PM.list_size]; exact h2), List.drop_append]
  have e : a - (List.take b s.data.toList).length = 0 := by rw [List.length_take, PM.list_size]; omega
  rw [e]; rfl
theorem str_part (s : ByteArray) (a b : Nat) : PM.str (part s a b) = s.extract a b := PM.str_of _
def At (s : ByteArray) (k a : Nat) (l : List ByteArray) : Prop :=
  (k ≤ s.size ∧ a ≤ k ∧ PM.split (part s a k) l (s.data.toList.drop k) = PM.split [] [] s.data.toList) ∨ (k = s.size + 1 ∧ PM.split [] [] s.data.toList = some l)
theorem At.start (s : ByteArray) : At s 0 0 [] := .inl ⟨Nat.zero_le _, Nat.le_refl _, by rw [part_nil]; rfl⟩
theorem At.go {s : ByteArray} {k a : Nat} {l : List ByteArray} (h : At s k a l) (hk : k < s.size) (hc : ¬ (s[k].toNat : Int) = 47) : At s (k + 1) a l := by
  rcases h with ⟨h1, h2, h3⟩ | ⟨h1, -⟩
  · refine .inl ⟨by omega, by omega, ?_⟩
    rw [← h3, byte_get s k hk, PM.split, if_neg (by omega), part_snoc s a k h2 hk]
  · omega
theorem At.stop {s : ByteArray} {k a : Nat} {l : List ByteArray} (h : At s k a l) (hk : k ≤ s.size) (hc : ∀ h : k < s.size, (s[k].toNat : Int) = 47) (h32 : 32 < k - a) : PM.split [] [] s.data.toList = none := by
  rcases h with ⟨h1, h2, h3⟩ | ⟨h1, -⟩
  · have hl := part_length s a k h2 h1
    rw [← h3]
    by_cases hlt : k < s.size
    · rw [byte_get s k hlt, PM.split, if_pos (by have := hc hlt; omega), if_pos (by omega)]
    · rw [List.drop_eq_nil_of_le (by rw [PM.list_size]; omega), PM.split, if_pos (by omega)]
  · omega
theorem At.next {s : ByteArray} {k a : Nat} {l : List ByteArray} (h : At s k a l) (hk : k ≤ s.size) (hc : ∀ h : k < s.size, (s[k].toNat : Int) = 47) (h32 : ¬ 32 < k - a) : At s (k + 1) (k + 1) (if k = a then l else l ++ [s.extract a k]) := by
  rcases h with ⟨h1, h2, h3⟩ | ⟨h1, -⟩
  · have hl := part_length s a k h2 h1
    have he : PM.emit (part s a k) l = if k = a then l else l ++ [s.extract a k] := by
      unfold PM.emit
      by_cases e : k = a
      · rw [if_pos e, if_pos (by rw [e]; exact part_nil s a)]
      · rw [if_neg e, if_neg (fun h => by rw [h] at hl; simp at hl; omega), str_part]
    rw [← he]
    by_cases hlt : k < s.size
    · refine .inl ⟨by omega, Nat.le_refl _, ?_⟩
      rw [← h3, byte_get s k hlt, PM.split, if_pos (by have := hc hlt; omega), if_neg (by omega), part_nil]
    · refine .inr ⟨by omega, ?_⟩
      rw [← h3, List.drop_eq_nil_of_le (by rw [PM.list_size]; omega), PM.split, if_neg (by omega)]
  · omega
theorem At.le {s : ByteArray} {k a : Nat} {l : List ByteArray} (h : At s k a l) (hk : k ≤ s.size) : a ≤ k := by
  rcases h with ⟨_, h2, _⟩ | ⟨h1, -⟩ <;> omega
theorem perr_none {s : ByteArray} (h1 : 0 < s.size) (h2 : s.size ≤ 256) (h0 : PM.has s 0 = false) (h : PM.split [] [] s.data.toList = none) : PM.perr s = 17 ∧ PM.pA s = false ∧ PM.pD s = false ∧ PM.pN s = [] := by
  have he : PM.perr s = 17 := by unfold PM.perr; rw [if_neg (by omega), if_neg (by omega), h0, h]; simp
  refine ⟨he, ?_, ?_, ?_⟩
  · unfold PM.pA; rw [he]; rfl
  · unfold PM.pD; rw [he]; rfl
  · unfold PM.pN; rw [he]; rfl
theorem perr_some {s : ByteArray} {l : List ByteArray} (h1 : 0 < s.size) (h2 : s.size ≤ 256) (h0 : PM.has s 0 = false) (h : PM.split [] [] s.data.toList = some l) : PM.perr s = 0 ∧ PM.pA s = PM.first s ∧ PM.pD s = PM.last s ∧ PM.pN s = l := by
  have he : PM.perr s = 0 := by unfold PM.perr; rw [if_neg (by omega), if_neg (by omega), h0, h]; simp
  refine ⟨he, ?_, ?_, ?_⟩
  · unfold PM.pA; rw [he]; rfl
  · unfold PM.pD; rw [he]; rfl
  · unfold PM.pN PM.names; rw [he, h]; rfl
set_option maxRecDepth 100000 in
set_option maxHeartbeats 1000000 in
theorem Parse_any (s : ByteArray) (w : World) (h1 : 0 < s.size) (h2 : s.size ≤ 256) (h0 : PM.has s 0 = false) :
    Calls Tryz.prog 86 #[.string s] w fun e w' => ∃ v, e = .returned (.tuple #[.agg #[.bool (PM.pA s), v, .bool (PM.pD s)], .int .i64 (PM.perr s)]) ∧
      w'.ownsRow w.heap.size 9 1 v (PM.pN s).length (scl (PM.pN s)) ∧ Below w.heap.size w w' := by
  obtain ⟨i0, hi, hz0, hz1, hz2⟩ := info_parts info_str
  obtain ⟨e1, e2⟩ := full_facts (s := s) (by omega)
  have H0 : Hid (∀ w, Calls Tryz.prog 130 #[.string s, .int .u8 0] w fun e w' => e = .returned (.bool false) ∧ w = w') := by
    intro w
    have := contains_any s 0 0 rfl w (by unfold maxLen; omega)
    rwa [h0] at this
  have hno := W_hid (@perr_none s h1 h2 h0)
  have hyes := W_hid (fun l => @perr_some s l h1 h2 h0)
  have i1 : 1 ≤ (s.size : Int) := by omega
  have i2 : (s.size : Int) - 1 < s.size := by omega
  have i3 : ((s.size : Int) - 1).toNat = s.size - 1 := by omega
  have i4 : decide (256 < (s.size : Int)) = false := by simp; omega
  have iA := (first_eq s h1).symm
  have iD := (last_eq s h1).symm
  clear h0
  go_enter Tryz.func86, Tryz.ntmps86
  go_wp2_with fail
  refine (H0.out _).mono ?_
  rintro e w' ⟨rfl, rfl⟩
  go_wp2_with fail
  go_region
  go_wp2
  clear i4 iA iD
  go_loopw [5, 34] (fun f i wr => ∃ (k a : Nat) (v : Value) (l : List ByteArray), k ≤ s.size + 1 ∧ a ≤ s.size + 1 ∧ l.length ≤ k ∧ i = .int .i64 k ∧ f = .int .i64 a ∧ Hid (At s k a l) ∧ PB wr w.heap.size false (.slice none 0 0) false ∧ PB wr (w.heap.size + 1) (PM.first s) v (PM.last s) ∧
    wr.ownsRow (w.heap.size + 2) 9 1 v l.length (scl l) ∧ Below w.heap.size w wr) (fun _ i _ => s.size + 1 - (intOf i).toNat)
  case atStart => exact ⟨0, 0, .slice none 0 0, [], by omega, by omega, Nat.le_refl _, rfl, rfl, At.start s, (PB.new w _ _ _ rfl).alloc _, PB.new (w.alloc _) _ _ _ (by simp), World.ownsRow_nil _ _ _ _, (((Below.refl _ _).alloc (Nat.le_refl _) _).alloc (by simp) _).drew⟩
  case round =>
    obtain ⟨k, a, v, l, hk, ha, hl, rfl, rfl, hat, hp0, hp1, hown, bel⟩ := hrel
    obtain ⟨ao, cap, rfl⟩ := own_form hown
    have c00 := hp0.c0
    have c01 := hp0.c1
    have c02 := hp0.c2
    have f0 := hp0.fz
    have c10 := hp1.c0
    have c11 := hp1.c1
    have c12 := hp1.c2
    have f1 := hp1.fz
    by_cases hcont : ∃ h : k < s.size, ¬ (s[k].toNat : Int) = 47
    · obtain ⟨hlt, hc⟩ := hcont
      have hb : ((s[k].toNat : Int) == 47) = false := by simpa using hc
      have hat' := W_hid (hat.out.go hlt hc)
      clear hc hat
      go_wp2
      go_roundw
      case rel => exact ⟨k + 1, a, _, l, by omega, ha, by omega, by go_num, rfl, hat', hp0, hp1, hown, bel⟩
      case measure => simp [intOf]; omega
    · have hc : ∀ h : k < s.size, (s[k].toNat : Int) = 47 := fun h => Classical.byContradiction fun hn => hcont ⟨h, hn⟩
      clear hcont
      by_cases hks : k ≤ s.size
      · have hak := hat.out.le hks
        obtain ⟨p, hp⟩ : ∃ p, p = s.extract a k := ⟨_, rfl⟩
        have hsl : ∀ w, (Instr.slice 9 (.string s) (some (.int .i64 (a : Int))) (some (.int .i64 (k : Int))) none).run Tryz.prog w = .ok (.string p) w := fun w => by
          rw [run_slice_string w _ s _ _ _ _ Tryz.underlying9 (by omega) (by omega) (by omega), hp]; rfl
        have hpz := cut_size s a k hak hks
        rw [← hp] at hpz
        have HP := W_hid hp
        clear hp
        by_cases h32 : 32 < k - a
        · have hn := W_hid (hat.out.stop hks hc h32)
          have h32' : 32 < p.size := by omega
          clear hat hpz
          have hb : k < s.size → (∀ h : k < s.size, ((s[k].toNat : Int) == 47) = true) := fun _ h => by simpa using hc h
          have hb := W_hid hb
          clear hc
          by_cases hlt : k < s.size
          · have hb' := hb.out hlt hlt
            go_wp2
            have hq := ((hp0.set0 false).set1 (.slice none 0 0)).set2 false
            have bel' := ((bel.setCell (p := ⟨w.heap.size, 0, none⟩) (Nat.le_refl _) (.bool false)).setCell (p := ⟨w.heap.size, 1, none⟩) (Nat.le_refl _) (.slice none 0 0)).setCell (p := ⟨w.heap.size, 2, none⟩) (Nat.le_refl _) (.bool false)
            refine bodyPost_ret (res_path Tryz.results86 _ _ rfl hq) rfl ?_
            obtain ⟨r1, r2, r3, r4⟩ := hno.out hn.out
            rw [r1, r2, r3, r4]
            exact ⟨_, rfl, World.ownsRow_nil _ _ _ _, bel'⟩
          · go_wp2
            have hq := ((hp0.set0 false).set1 (.slice none 0 0)).set2 false
            have bel' := ((bel.setCell (p := ⟨w.heap.size, 0, none⟩) (Nat.le_refl _) (.bool false)).setCell (p := ⟨w.heap.size, 1, none⟩) (Nat.le_refl _) (.slice none 0 0)).setCell (p := ⟨w.heap.size, 2, none⟩) (Nat.le_refl _) (.bool false)
            refine bodyPost_ret (res_path Tryz.results86 _ _ rfl hq) rfl ?_
            obtain ⟨r1, r2, r3, r4⟩ := hno.out hn.out
            rw [r1, r2, r3, r4]
            exact ⟨_, rfl, World.ownsRow_nil _ _ _ _, bel'⟩
        · have hat' := W_hid (hat.out.next hks hc h32)
          have h32' : p.size ≤ 32 := by omega
          have hb : k < s.size → (∀ h : k < s.size, ((s[k].toNat : Int) == 47) = true) := fun _ h => by simpa using hc h
          have hb := W_hid hb
          clear hc
          by_cases hka : k = a
          · subst hka
            obtain ⟨p1, p2⟩ := empty_facts (s := p) (by omega)
            have hat2 : Hid (At s (k + 1) (k + 1) l) := by have := hat'.out; rw [if_pos rfl] at this; exact this
            clear hat hpz hat'
            by_cases hlt : k < s.size
            · have hb' := hb.out hlt hlt
              go_wp2
              go_roundw
              case rel => exact ⟨k + 1, k + 1, _, l, by omega, by omega, by omega, by go_num, by go_num, hat2, hp0, hp1, hown, bel⟩
              case measure => simp [intOf]; omega
            · go_wp2
              go_roundw
              case rel => exact ⟨k + 1, k + 1, _, l, by omega, by omega, by omega, by go_num, by go_num, hat2, hp0, hp1, hown, bel⟩
              case measure => simp [intOf]; omega
          · obtain ⟨p1, p2⟩ := full_facts (s := p) (by omega)
            have hat2 : Hid (At s (k + 1) (k + 1) (l ++ [p])) := by have := hat'.out; rw [if_neg hka, ← HP.out] at this; exact this
            clear hat hpz hat'
            by_cases hlt : k < s.size
            · have hb' := hb.out hlt hlt
              go_wp2_with (at_builtin; apply Hid.out)
              refine W_hid ?_
              refine wpList_append_own_wide _ rfl (.tmp 58) (.tmp 60) 156 rfl (w.heap.size + 2) 9 i0 (.string ByteArray.empty) 1 16 Tryz.underlying156 hi hz0 hz1 hz2 rfl (by decide) _ l.length (scl l) rfl (hown.alloc _) ⟨wr.heap.size, 0, none⟩ 1 1 [.string p] rfl rfl (cell_one_new _ _ _) (by intro u hu; simp at hu; subst hu; rfl) (by unfold maxLen; omega) (by omega) (by simp; have := hp1.lt; omega) ?_
              intro v2 w2 hown2 hgrow2 hnn
              obtain ⟨ao2, cap2, rfl⟩ := own_form hown2
              obtain ⟨q0, q1, q2, q3, q4⟩ := append_keeps hp0 hp1 hown bel hown2 hgrow2
              clear hown2 hgrow2 hnn hown bel c00 c01 c02 f0 c10 c11 c12 f1 hp0 hp1
              have c1 := q1.c1
              have f1 := q1.fz
              go_wp2
              have q1' := q1.set1 (.slice ao2 (l.length + 1) cap2)
              have q0' := q0.far (p := ⟨w.heap.size + 1, 1, none⟩) (by simp) (.slice ao2 (l.length + 1) cap2)
              have q2' := own_set q2 (by simp) (.slice ao2 (l.length + 1) cap2) (p := ⟨w.heap.size + 1, 1, none⟩)
              have q3' := q3.setCell (p := ⟨w.heap.size + 1, 1, none⟩) (by simp) (.slice ao2 (l.length + 1) cap2)
              go_roundw
              case rel => exact ⟨k + 1, k + 1, _, l ++ [p], by omega, by omega, by simp; omega, by go_num, by go_num, hat2, q0', q1', (by rw [scl_append, List.length_append]; exact q2'), q3'⟩
              case measure => simp [intOf]; omega
            · go_wp2_with (at_builtin; apply Hid.out)
              refine W_hid ?_
              refine wpList_append_own_wide _ rfl (.tmp 58) (.tmp 60) 156 rfl (w.heap.size + 2) 9 i0 (.string ByteArray.empty) 1 16 Tryz.underlying156 hi hz0 hz1 hz2 rfl (by decide) _ l.length (scl l) rfl (hown.alloc _) ⟨wr.heap.size, 0, none⟩ 1 1 [.string p] rfl rfl (cell_one_new _ _ _) (by intro u hu; simp at hu; subst hu; rfl) (by unfold maxLen; omega) (by omega) (by simp; have := hp1.lt; omega) ?_
              intro v2 w2 hown2 hgrow2 hnn
              obtain ⟨ao2, cap2, rfl⟩ := own_form hown2
              obtain ⟨q0, q1, q2, q3, q4⟩ := append_keeps hp0 hp1 hown bel hown2 hgrow2
              clear hown2 hgrow2 hnn hown bel c00 c01 c02 f0 c10 c11 c12 f1 hp0 hp1
              have c1 := q1.c1
              have f1 := q1.fz
              go_wp2
              have q1' := q1.set1 (.slice ao2 (l.length + 1) cap2)
              have q0' := q0.far (p := ⟨w.heap.size + 1, 1, none⟩) (by simp) (.slice ao2 (l.length + 1) cap2)
              have q2' := own_set q2 (by simp) (.slice ao2 (l.length + 1) cap2) (p := ⟨w.heap.size + 1, 1, none⟩)
              have q3' := q3.setCell (p := ⟨w.heap.size + 1, 1, none⟩) (by simp) (.slice ao2 (l.length + 1) cap2)
              go_roundw
              case rel => exact ⟨k + 1, k + 1, _, l ++ [p], by omega, by omega, by simp; omega, by go_num, by go_num, hat2, q0', q1', (by rw [scl_append, List.length_append]; exact q2'), q3'⟩
              case measure => simp [intOf]; omega
      · obtain rfl : k = s.size + 1 := by omega
        have hsome : Hid (PM.split [] [] s.data.toList = some l) := by
          rcases hat.out with ⟨h, -⟩ | ⟨-, h⟩
          · omega
          · exact h
        clear hat hc
        go_wp2
        have hq := ((hp0.set0 (PM.first s)).set1 (.slice ao l.length cap)).set2 (PM.last s)
        have bel' := ((bel.setCell (p := ⟨w.heap.size, 0, none⟩) (Nat.le_refl _) (.bool (PM.first s))).setCell (p := ⟨w.heap.size, 1, none⟩) (Nat.le_refl _) (.slice ao l.length cap)).setCell (p := ⟨w.heap.size, 2, none⟩) (Nat.le_refl _) (.bool (PM.last s))
        have hown' := own_set (p := ⟨w.heap.size, 2, none⟩) (own_set (p := ⟨w.heap.size, 1, none⟩) (own_set (p := ⟨w.heap.size, 0, none⟩) hown (by simp) (.bool (PM.first s))) (by simp) (.slice ao l.length cap)) (by simp) (.bool (PM.last s))
        refine bodyPost_ret (res_path Tryz.results86 _ _ rfl hq) rfl ?_
        obtain ⟨r1, r2, r3, r4⟩ := hyes.out _ hsome.out
        rw [r1, r2, r3, r4]
        exact ⟨_, rfl, own_base (by omega) hown', bel'⟩
theorem perr_facts {s : ByteArray} {n : Int} (h : PM.perr s = n) (hn : n ≠ 0) : PM.perr s = n ∧ PM.pA s = false ∧ PM.pD s = false ∧ PM.pN s = [] := by
  refine ⟨h, ?_, ?_, ?_⟩
  · unfold PM.pA; rw [h, if_neg hn]
  · unfold PM.pD; rw [h, if_neg hn]
  · unfold PM.pN; rw [h, if_neg hn]
def Parsed (s : ByteArray) (w : World) (e : Ending) (w' : World) : Prop := ∃ v, e = .returned (.tuple #[.agg #[.bool (PM.pA s), v, .bool (PM.pD s)], .int .i64 (PM.perr s)]) ∧
      w'.ownsRow w.heap.size 9 1 v (PM.pN s).length (scl (PM.pN s)) ∧ Below w.heap.size w w'
theorem parsed_no {s : ByteArray} {w w' : World} {n : Int} (h : PM.perr s = n) (hn : n ≠ 0) (hb : Below w.heap.size w w') : Parsed s w (.returned (.tuple #[.agg #[.bool false, .slice none 0 0, .bool false], .int .i64 n])) w' := by
  obtain ⟨r1, r2, r3, r4⟩ := perr_facts h hn
  unfold Parsed
  rw [r1, r2, r3, r4]
  exact ⟨_, rfl, World.ownsRow_nil _ _ _ _, hb⟩
set_option maxRecDepth 100000 in
set_option maxHeartbeats 1000000 in
theorem Parse_all (s : ByteArray) (w : World) (hs : s.size ≤ maxLen) : Calls Tryz.prog 86 #[.string s] w (Parsed s w) := by
  by_cases h1 : s.size = 0
  · have he : PM.perr s = 11 := by unfold PM.perr; rw [if_pos h1]
    have HE := W_hid (fun w' => @parsed_no s w w' 11 he (by decide))
    obtain ⟨e1, e2⟩ := empty_facts h1
    clear h1 he
    go_enter Tryz.func86, Tryz.ntmps86
    go_wp2_with fail
    exact bodyPost_ret (res_path Tryz.results86 _ _ rfl (PB.new w _ _ _ rfl)) rfl (HE.out _ ((Below.refl _ _).alloc (Nat.le_refl _) _))
  by_cases h2 : 256 < s.size
  · have he : PM.perr s = 17 := by unfold PM.perr; rw [if_neg h1, if_pos h2]
    have HE := W_hid (fun w' => @parsed_no s w w' 17 he (by decide))
    obtain ⟨e1, e2⟩ := full_facts h1
    have i4 : decide (256 < (s.size : Int)) = true := by simp; omega
    unfold maxLen at hs
    clear h1 he
    go_enter Tryz.func86, Tryz.ntmps86
    go_wp2_with fail
    exact bodyPost_ret (res_path Tryz.results86 _ _ rfl (PB.new w _ _ _ rfl)) rfl (HE.out _ ((Below.refl _ _).alloc (Nat.le_refl _) _))
  by_cases h0 : PM.has s 0 = true
  · have he : PM.perr s = 2 := by unfold PM.perr; rw [if_neg h1, if_neg h2, h0]; rfl
    have HE := W_hid (fun w' => @parsed_no s w w' 2 he (by decide))
    obtain ⟨e1, e2⟩ := full_facts h1
    have i4 : decide (256 < (s.size : Int)) = false := by simp; omega
    have H0 : Hid (∀ w, Calls Tryz.prog 130 #[.string s, .int .u8 0] w fun e w' => e = .returned (.bool true) ∧ w = w') := by
      intro w
      have := contains_any s 0 0 rfl w hs
      rwa [h0] at this
    unfold maxLen at hs
    clear h1 he h0
    go_enter Tryz.func86, Tryz.ntmps86
    go_wp2_with fail
    refine (H0.out _).mono ?_
    rintro e w' ⟨rfl, rfl⟩
    go_wp2_with fail
    exact bodyPost_ret (res_path Tryz.results86 _ _ rfl (PB.new w _ _ _ rfl)) rfl (HE.out _ ((Below.refl _ _).alloc (Nat.le_refl _) _))
  · exact Parse_any s w (by omega) (by omega) (by simpa using h0)
def SS (w : World) (ao : Option Addr) (n cap : Nat) (l : List ByteArray) : Prop :=
  l.length = n ∧ n ≤ cap ∧ cap ≤ maxLen ∧ (ao = none → cap = 0) ∧ ∀ a, ao = some a → ∀ j u, (scl l)[j]? = some u → w.cell? (a.add j) = some u
theorem SS.below {w w' : World} {ao : Option Addr} {n cap : Nat} {l : List ByteArray} (h : SS w ao n cap l) {B : Nat} (hb : Below B w w') (hB : w.heap.size ≤ B) : SS w' ao n cap l := by
  refine ⟨h.1, h.2.1, h.2.2.1, h.2.2.2.1, fun a ha j u hu => ?_⟩
  have hc := h.2.2.2.2 a ha j u hu
  rw [hb.cell (Nat.lt_of_lt_of_le (World.block_lt_of_cell? w _ hc) hB)]
  exact hc
theorem SS.nil (w : World) : SS w none 0 0 [] := ⟨rfl, Nat.le_refl _, Nat.zero_le _, fun _ => rfl, fun _ h => by cases h⟩
theorem SS.alloc {w : World} {ao : Option Addr} {n cap : Nat} {l : List ByteArray} (h : SS w ao n cap l) (o : Obj) : SS (w.alloc o) ao n cap l := h.below (Below.alloc (Below.refl _ _) (Nat.le_refl _) o) (Nat.le_refl _)
theorem SS_own {w : World} {base e : Nat} {n cap : Nat} {ao : Option Addr} {l : List ByteArray} (h : w.ownsRow base e 1 (.slice ao n cap) n (scl l)) : SS w ao n cap l := by
  have hl : l.length = n := by have := h.1; rw [scl_length] at this; omega
  rcases h.2 with ⟨h', h''⟩ | ⟨g', cap', cur, h', hb, hg, hnc, hcm, _⟩
  · simp only [Value.slice.injEq] at h'
    obtain ⟨rfl, rfl, rfl⟩ := h'
    obtain rfl := List.eq_nil_of_length_eq_zero hl
    exact SS.nil w
  · simp only [Value.slice.injEq, true_and] at h'
    obtain ⟨rfl, rfl⟩ := h'
    refine ⟨hl, hnc, hcm, (fun h => by cases h), fun a ha j u hu => ?_⟩
    obtain rfl := Option.some.inj ha
    exact h.cells (g := g') rfl j u hu
theorem SS.at_ {w : World} {ao : Option Addr} {n cap : Nat} {l : List ByteArray} (h : SS w ao n cap l) (hn : 0 < n) : ∃ blk off, ao = some ⟨blk, off, none⟩ ∧ ∀ j, (hj : j < n) → w.cell? ⟨blk, off + j, none⟩ = some (.string (l[j]'(by rw [h.1]; exact hj))) := by
  obtain ⟨hl, h1, h2, h3, h4⟩ := h
  cases ao with
  | none => have := h3 rfl; omega
  | some a =>
    have hcell : ∀ j, (hj : j < n) → w.cell? (a.add j) = some (.string (l[j]'(by rw [hl]; exact hj))) := fun j hj => by
      refine h4 a rfl j _ ?_
      rw [scl_get, List.getElem?_eq_getElem (by rw [hl]; exact hj)]; rfl
    obtain ⟨b, off, spot⟩ := a
    have h0 := hcell 0 hn
    have hs : spot = none := by simpa [Addr.add] using World.cell?_spot h0
    subst hs
    exact ⟨b, off, rfl, fun j hj => by have := hcell j hj; rwa [Addr.add_lit] at this⟩
def pathv (a : Bool) (v : Value) (d : Bool) : Value := .agg #[.bool a, v, .bool d]
def same (a1 : Bool) (l1 : List ByteArray) (d1 a2 : Bool) (l2 : List ByteArray) (d2 : Bool) : Bool := decide (a1 = a2) && decide (d1 = d2) && decide (l1 = l2)
end Go.Proofs.YtfhidjkhmjdioaaGreat

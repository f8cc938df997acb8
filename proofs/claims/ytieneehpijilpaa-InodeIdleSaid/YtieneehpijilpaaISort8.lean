/- breakPatternsOrdered, choosePivotOrdered. -/
import Derived.Test.YtieneehpijilpaaISort7
namespace Go.Proofs.Ytieneehpijilpaa
open Go.ChangeShapes Go.WideShapes Go.ChangeAt Go.RowKit
set_option linter.unusedVariables false
set_option linter.unusedSimpArgs false
namespace IS

theorem Two.own {g y : Nat} {w w' : World} (h : Two g y w w') (hy : w.heap.size ≤ y) : Two g g w w' := ⟨h.os, h.tape, h.output, h.size, fun k hk h1 _ => h.block k hk h1 (by omega)⟩
theorem Two.swap' {g y : Nat} {w w' : World} (h : Two y g w w') : Two g y w w' := ⟨h.os, h.tape, h.output, h.size, fun k hk h1 h2 => h.block k hk h2 h1⟩
theorem Two.wider {g y : Nat} {w w' : World} (h : Two y y w w') : Two g y w w' := ⟨h.os, h.tape, h.output, h.size, fun k hk h1 h2 => h.block k hk h2 h2⟩
theorem RW.two {w w' : World} {g y N : Nat} {X : Nat → Nat} {rest : List Value} (h : RW w g N X rest) (t : Two y y w w') (hne : g ≠ y) : RW w' g N X rest := ⟨h.blk.two t hne hne⟩
theorem and_some (x m n : Nat) (hx : x < 18446744073709551616) (h1 : n < m) (h2 : m ≤ 2 * n) (hn : n ≤ 65536) : ∃ r : Nat, r < 2 * n ∧ bits BinOp.and IntKind.u64 (x : Int) ((m : Int) - 1) = (r : Int) := by
  have e : (m : Int) - 1 = ((m - 1 : Nat) : Int) := by omega
  have h3 : x &&& (m - 1) ≤ m - 1 := Nat.and_le_right
  exact ⟨x &&& (m - 1), by omega, by rw [e]; exact u64_and_nat _ _ hx (by omega)⟩

set_option maxRecDepth 100000 in
set_option maxHeartbeats 4000000 in
theorem break_any (g N cap : Nat) (rest : List Value) (a b : Nat) (X : Nat → Nat) (w : World) (h : RW w g N X rest) (hab : a + 8 ≤ b) (hb : b ≤ N) (hN : N < 65536) (hcap : N ≤ cap) :
    Calls Try.prog 80 #[.slice (some ⟨g, 0, none⟩) N cap, .int .i64 (a : Int), .int .i64 (b : Int)] w fun e w' => e = .returned (.tuple #[]) ∧ Two g g w w' ∧ ∃ Y, RW w' g N Y rest ∧ SO.Sw a b X Y := by
  have hgl := h.lt
  have h := W_hid h
  obtain ⟨n, hn⟩ : ∃ n, b - a = n := ⟨_, rfl⟩
  have hni : (b : Int) - (a : Int) = (n : Int) := by omega
  have hn8 : 8 ≤ n := by omega
  have hnN : n < 65536 := by omega
  obtain ⟨d, hd⟩ : ∃ d, n / 4 = d := ⟨_, rfl⟩
  have hdi : (n : Int).tdiv 4 = (d : Int) := by rw [← hd]; rfl
  obtain ⟨d2, hd2⟩ : ∃ d2, d * 2 = d2 := ⟨_, rfl⟩
  have hd2i : (d : Int) * 2 = (d2 : Int) := by omega
  obtain ⟨s1, hs1⟩ : ∃ s, a + d2 = s := ⟨_, rfl⟩
  have hs1i : (a : Int) + (d2 : Int) = (s1 : Int) := by omega
  obtain ⟨s0, hs0⟩ : ∃ s, s1 - 1 = s := ⟨_, rfl⟩
  have hs0i : (s1 : Int) - 1 = (s0 : Int) := by omega
  have hbd : Hid (a ≤ s0 ∧ s1 + 1 < b ∧ s0 + 1 = s1 ∧ a + n = b) := by show _ ∧ _ ∧ _ ∧ _; omega
  have hsm : s1 ≤ 65536 ∧ s0 ≤ 65536 ∧ d2 ≤ 65536 ∧ d ≤ 65536 := by omega
  have cP := W_hid (fun w => power_any n w (by omega) hnN)
  have b1 : Below w.heap.size w (w.alloc (.cells #[.int .u64 (n : Int)] 117)) := (Below.refl _ _).alloc (Nat.le_refl _) _
  have hY := W_hid (Blk.new w 117 [.int .u64 (n : Int)] rfl)
  have hR1 := W_hid (h.out.keep b1)
  have hT1 : Hid (Two g w.heap.size w (w.alloc (.cells #[.int .u64 (n : Int)] 117))) := Two.of b1
  have hgy : ¬ g = w.heap.size := by omega
  replace hd := W_hid hd
  replace hd2 := W_hid hd2
  replace hs1 := W_hid hs1
  replace hs0 := W_hid hs0
  replace hn := W_hid hn
  clear b1
  go_enter Try.func80, Try.ntmps80
  go_wp2_with fail
  refine (cP.out _).mono ?_
  rintro e w1 ⟨⟨m, rfl, hm1, hm2⟩, rfl⟩
  have hmi : 0 ≤ (m : Int) - 1 ∧ (m : Int) - 1 ≤ 131072 := by omega
  replace hm1 := W_hid hm1
  replace hm2 := W_hid hm2
  go_wp2_with fail
  obtain ⟨W1, hW1⟩ : ∃ W, w.alloc (.cells #[.int .u64 (n : Int)] 117) = W := ⟨_, rfl⟩
  rw [hW1] at hY hR1 hT1 ⊢
  go_loopw [9] (fun v wr => ∃ (q x : Nat) (Z : Nat → Nat), v = .int .i64 (q : Int) ∧ s0 ≤ q ∧ q ≤ s1 + 2 ∧ Hid (x < 18446744073709551616) ∧ Hid (Blk wr w.heap.size 117 [.int .u64 (x : Int)]) ∧ Hid (RW wr g N Z rest) ∧ Hid (SO.Sw a b X Z) ∧ Hid (Two g w.heap.size w wr)) (fun v _ => s1 + 2 - (intOf v).toNat)
  case atStart => exact ⟨s0, n, X, rfl, Nat.le_refl _, by have := hbd.out; omega, (show n < 18446744073709551616 by omega), hY, hR1, W_hid .refl, hT1⟩
  case round =>
    clear hY hR1 hT1
    obtain ⟨q, x, Z, rfl, hq1, hq2, hx, hY, hR, hS, hT⟩ := hrel
    by_cases hle : q ≤ s1 + 1
    · have hlei : (q : Int) ≤ (s1 : Int) + 1 := by omega
      have cN := W_hid (Next_any w.heap.size x wr hY.out hx.out)
      go_wp2_with fail
      refine cN.out.mono ?_
      rintro e w2 ⟨z, rfl, hz, hY2, hT2⟩
      obtain ⟨r, hr1, hr2⟩ := and_some z m n hz hm1.out hm2.out (by omega)
      have hR2 := W_hid (hR.out.two hT2 hgy)
      have hT3 := W_hid (hT.out.trans (Two.wider hT2))
      replace hz := W_hid hz
      replace hY2 := W_hid hY2
      have hrb : r ≤ 131072 := by omega
      clear hY hR hT hT2 cN
      obtain ⟨o, ho, hor⟩ : ∃ o : Nat, o < n ∧ ((r < n ∧ o = r) ∨ (n ≤ r ∧ (r : Int) - (n : Int) = (o : Int))) := by
        by_cases hh : r < n
        · exact ⟨r, hh, .inl ⟨hh, rfl⟩⟩
        · exact ⟨r - n, by omega, .inr ⟨by omega, by omega⟩⟩
      obtain ⟨p, hp⟩ : ∃ p, a + o = p := ⟨_, rfl⟩
      have hpi : (a : Int) + (o : Int) = (p : Int) := by omega
      have hpb : a ≤ p ∧ p < b ∧ p < N := by have := hbd.out; omega
      have hqb : a ≤ q ∧ q < b ∧ q < N := by have := hbd.out; omega
      have dq := hR2.out.cell q hqb.2.2
      have dp := hR2.out.cell p hpb.2.2
      have gz := hR2.out.fz
      obtain ⟨vq, hvq⟩ : ∃ v, Z q = v := ⟨_, rfl⟩
      obtain ⟨vp, hvp⟩ : ∃ v, Z p = v := ⟨_, rfl⟩
      have hR4 := W_hid (hR2.out.swap q p hqb.2.2 hpb.2.2)
      have hT4 := W_hid ((hT3.out.setCell (p := ⟨g, q, none⟩) (.inl rfl) (.int .i64 (Z p : Int))).setCell (p := ⟨g, p, none⟩) (.inl rfl) (.int .i64 (Z q : Int)))
      have hS4 := W_hid (hS.out.step (i := q) (j := p) hqb.1 hqb.2.1 hpb.1 hpb.2.1)
      have hY4 := W_hid ((hY2.out.far (p := ⟨g, q, none⟩) (fun e => hgy e.symm) (.int .i64 (vp : Int))).far (p := ⟨g, p, none⟩) (fun e => hgy e.symm) (.int .i64 (vq : Int)))
      rw [hvq, hvp] at hR4 hT4
      rw [hvq] at dq
      rw [hvp] at dp
      replace hvq := W_hid hvq
      replace hvp := W_hid hvp
      replace hp := W_hid hp
      obtain ⟨V, hV⟩ : ∃ V, World.drew ((w2.setCell ⟨g, q, none⟩ (.int .i64 (vp : Int))).setCell ⟨g, p, none⟩ (.int .i64 (vq : Int))) = V := ⟨_, rfl⟩
      have hR5 : RW V g N (SO.swp Z q p) rest := by rw [← hV]; exact hR4.out.drew
      have hT5 : Two g w.heap.size w V := by rw [← hV]; exact ⟨hT4.out.os, hT4.out.tape, hT4.out.output, hT4.out.size, hT4.out.block⟩
      have hY5 : Blk V w.heap.size 117 [.int .u64 (z : Int)] := by rw [← hV]; exact hY4.out
      replace hR5 := W_hid hR5
      replace hT5 := W_hid hT5
      replace hY5 := W_hid hY5
      clear hR2 hT3 hY2 hR4 hT4 hY4 hS
      obtain ⟨qn, hqn⟩ : ∃ x, q + 1 = x := ⟨_, rfl⟩
      have hqi : (q : Int) + 1 = (qn : Int) := by omega
      have hqs : s0 ≤ qn ∧ qn ≤ s1 + 2 := by omega
      have hqm : Hid (s1 + 2 - qn < s1 + 2 - q) := by show _ < _; omega
      replace hqn := W_hid hqn
      rcases hor with ⟨hr, rfl⟩ | ⟨hr, hro⟩
      all_goals
        have hcs : p = q ∨ ¬ p = q := by omega
        rcases hcs with hqa | hne
        case' inl =>
          obtain rfl : vq = vp := hvq.out.symm.trans (by rw [← hqa]; exact hvp.out)
          subst hqa
        case' inr => have hne2 : ¬ q = p := fun e => hne e.symm
        all_goals
          go_wp2_with fail
          go_region
          try rw [hV]
          clear hV dq dp gz
          go_wp2_with fail
          go_roundw
          case rel => exact ⟨qn, z, _, rfl, hqs.1, hqs.2, hz, hY5, hR5, hS4, hT5⟩
          case measure => (have := hqm.out); first | (simp [intOf]; omega) | simp [intOf]
    · have hlei : ¬ (q : Int) ≤ (s1 : Int) + 1 := by omega
      go_wp2_with fail
      go_end0
      exact ⟨rfl, Two.own hT.out (Nat.le_refl _), Z, hR.out, hS.out⟩

set_option maxRecDepth 100000 in
set_option maxHeartbeats 4000000 in
theorem pivot_any (g N cap : Nat) (rest : List Value) (a b : Nat) (X : Nat → Nat) (w : World) (h : RW w g N X rest) (hab : a + 8 ≤ b) (hb : b ≤ N) (hN : N < 65536) (hcap : N ≤ cap) :
    Calls Try.prog 81 #[.slice (some ⟨g, 0, none⟩) N cap, .int .i64 (a : Int), .int .i64 (b : Int)] w fun e w' => ∃ p c : Nat, e = .returned (.tuple #[.int .i64 (p : Int), .int .i64 (c : Int)]) ∧ a ≤ p ∧ p < b ∧ c ≤ 2 ∧ Two g g w w' ∧ RW w' g N X rest := by
  have hgl := h.lt
  have hN' : N ≤ 65536 := by omega
  obtain ⟨n, hn⟩ : ∃ n, b - a = n := ⟨_, rfl⟩
  have hni : (b : Int) - (a : Int) = (n : Int) := by omega
  have hn8 : 8 ≤ n := by omega
  have hnN : n < 65536 := by omega
  obtain ⟨d, hd⟩ : ∃ d, n / 4 = d := ⟨_, rfl⟩
  have hdi : (n : Int).tdiv 4 = (d : Int) := by rw [← hd]; rfl
  obtain ⟨d2, hd2⟩ : ∃ d2, d * 2 = d2 := ⟨_, rfl⟩
  have hd2i : (d : Int) * 2 = (d2 : Int) := by omega
  obtain ⟨d3, hd3⟩ : ∃ d3, d * 3 = d3 := ⟨_, rfl⟩
  have hd3i : (d : Int) * 3 = (d3 : Int) := by omega
  obtain ⟨i, hi⟩ : ∃ s, a + d = s := ⟨_, rfl⟩
  have hii : (a : Int) + (d : Int) = (i : Int) := by omega
  obtain ⟨j, hj⟩ : ∃ s, a + d2 = s := ⟨_, rfl⟩
  have hji : (a : Int) + (d2 : Int) = (j : Int) := by omega
  obtain ⟨k, hk⟩ : ∃ s, a + d3 = s := ⟨_, rfl⟩
  have hki : (a : Int) + (d3 : Int) = (k : Int) := by omega
  have hsm : i < 65536 ∧ j < 65536 ∧ k < 65536 ∧ d ≤ 65536 ∧ d2 ≤ 65536 ∧ d3 ≤ 65536 := by omega
  have hbd : Hid (a ≤ i ∧ i < b ∧ a ≤ j ∧ j < b ∧ a ≤ k ∧ k < b) := by show _ ∧ _ ∧ _ ∧ _ ∧ _ ∧ _; omega
  have hbd2 : Hid (50 ≤ n → a + 1 ≤ i ∧ i + 1 < b ∧ a + 1 ≤ j ∧ j + 1 < b ∧ a + 1 ≤ k ∧ k + 1 < b) := by intro _; omega
  have b1 : Below w.heap.size w (w.alloc (.cells #[.int .i64 0] 3)) := (Below.refl _ _).alloc (Nat.le_refl _) _
  have hY := Blk.new w 3 [.int .i64 0] rfl
  have hR1 := h.keep b1
  have hT1 : Two w.heap.size w.heap.size w (w.alloc (.cells #[.int .i64 0] 3)) := Two.of b1
  have hgy : w.heap.size ≠ g := by omega
  obtain ⟨W1, hW1⟩ : ∃ W, w.alloc (.cells #[.int .i64 0] 3) = W := ⟨_, rfl⟩
  rw [hW1] at hY hR1 hT1
  -- the three places
  have hmed := W_hid (fun a b c s (V : World) h h1 h2 h3 h4 h5 => median_any g N cap rest a b c w.heap.size s X V h h1 h2 h3 hN' hcap h4 hgy h5)
  have hadj := W_hid (fun a s (V : World) h h1 h2 h4 h5 => adjacent_any g N cap rest a w.heap.size s X V h h1 h2 hN' hcap h4 hgy h5)
  replace hn := W_hid hn
  replace hd := W_hid hd
  replace hd2 := W_hid hd2
  replace hd3 := W_hid hd3
  replace hi := W_hid hi
  replace hj := W_hid hj
  replace hk := W_hid hk
  replace hgy := W_hid hgy
  replace hY := W_hid hY
  replace hR1 := W_hid hR1
  replace hT1 := W_hid hT1
  clear b1 h
  go_enter Try.func81, Try.ntmps81
  by_cases h50 : 50 ≤ n
  · have hb2 := hbd2.out h50
    have hA1 := W_hid (hadj.out i 0 W1 hR1.out (by omega) (by omega) hY.out (by omega))
    go_wp2_with fail
    try rw [hW1]
    clear hW1
    refine hA1.out.mono ?_
    rintro e w2 ⟨p1, rfl, hp1, hp1', k1⟩
    obtain ⟨s1, l1, u1, y1⟩ := k1.ex
    have hA2 := W_hid (hadj.out j s1 w2 k1.row (by omega) (by omega) y1 (by omega))
    replace k1 := W_hid k1
    clear y1 hA1 hR1 hY
    go_wp2_with fail
    refine hA2.out.mono ?_
    rintro e w3 ⟨p2, rfl, hp2, hp2', k2⟩
    obtain ⟨s2, l2, u2, y2⟩ := k2.ex
    have hA3 := W_hid (hadj.out k s2 w3 k2.row (by omega) (by omega) y2 (by omega))
    replace k2 := W_hid k2
    clear y2 hA2
    go_wp2_with fail
    refine hA3.out.mono ?_
    rintro e w4 ⟨p3, rfl, hp3, hp3', k3⟩
    obtain ⟨s3, l3, u3, y3⟩ := k3.ex
    have hA4 := W_hid (hmed.out p1 p2 p3 s3 w4 k3.row (by omega) (by omega) (by omega) y3 (by omega))
    replace k3 := W_hid k3
    clear y3 hA3
    go_wp2_with fail
    refine hA4.out.mono ?_
    rintro e w5 ⟨p4, rfl, hp4, k4⟩
    obtain ⟨s4, l4, u4, y4⟩ := k4.ex
    have hfin : Hid (a ≤ p4 ∧ p4 < b ∧ Two g g w w5 ∧ RW w5 g N X rest) := ⟨by omega, by omega, Two.own (g := g) (Two.wider ((((hT1.out.trans k1.out.two).trans k2.out.two).trans k3.out.two).trans k4.two)) (Nat.le_refl _), k4.row⟩
    have c4 := y4.cell (j := 0) rfl
    have hs4 : s4 ≤ 12 := by omega
    clear k1 k2 k3 k4 hA4 y4 l1 l2 l3 l4 u1 u2 u3 u4 hb2 hp1 hp1' hp2 hp2' hp3 hp3' hp4 hT1
    have hcs : s4 = 0 ∨ s4 = 12 ∨ (¬ s4 = 0 ∧ ¬ s4 = 12) := by omega
    rcases hcs with rfl | rfl | ⟨q1, q2⟩
    · go_wp2_with fail
      go_ret2
      exact ⟨p4, 1, rfl, hfin.out.1, hfin.out.2.1, by omega, hfin.out.2.2⟩
    · go_wp2_with fail
      go_ret2
      exact ⟨p4, 2, rfl, hfin.out.1, hfin.out.2.1, by omega, hfin.out.2.2⟩
    · have z1 : ((s4 : Int) == 0) = false := by simp; omega
      have z2 : ((s4 : Int) == 12) = false := by simp; omega
      go_wp2_with fail
      go_ret2
      exact ⟨p4, 0, rfl, hfin.out.1, hfin.out.2.1, by omega, hfin.out.2.2⟩
  · have hb2 := hbd.out
    have hA4 := W_hid (hmed.out i j k 0 W1 hR1.out (by omega) (by omega) (by omega) hY.out (by omega))
    go_wp2_with fail
    try rw [hW1]
    clear hW1
    refine hA4.out.mono ?_
    rintro e w5 ⟨p4, rfl, hp4, k4⟩
    obtain ⟨s4, l4, u4, y4⟩ := k4.ex
    have hfin : Hid (a ≤ p4 ∧ p4 < b ∧ Two g g w w5 ∧ RW w5 g N X rest) := ⟨by omega, by omega, Two.own (g := g) (Two.wider (hT1.out.trans k4.two)) (Nat.le_refl _), k4.row⟩
    have c4 := y4.cell (j := 0) rfl
    have hs4 : s4 ≤ 12 := by omega
    clear k4 hA4 y4 l4 u4 hb2 hp4 hT1 hR1 hY
    have hcs : s4 = 0 ∨ s4 = 12 ∨ (¬ s4 = 0 ∧ ¬ s4 = 12) := by omega
    rcases hcs with rfl | rfl | ⟨q1, q2⟩
    · go_wp2_with fail
      go_ret2
      exact ⟨p4, 1, rfl, hfin.out.1, hfin.out.2.1, by omega, hfin.out.2.2⟩
    · go_wp2_with fail
      go_ret2
      exact ⟨p4, 2, rfl, hfin.out.1, hfin.out.2.1, by omega, hfin.out.2.2⟩
    · have z1 : ((s4 : Int) == 0) = false := by simp; omega
      have z2 : ((s4 : Int) == 12) = false := by simp; omega
      go_wp2_with fail
      go_ret2
      exact ⟨p4, 0, rfl, hfin.out.1, hfin.out.2.1, by omega, hfin.out.2.2⟩
end IS
end Go.Proofs.Ytieneehpijilpaa

/- medianOrdered, medianAdjacentOrdered: a place among three. -/
import Derived.Test.YtieneehpijilpaaISort2
namespace Go.Proofs.Ytieneehpijilpaa
open Go.ChangeShapes Go.WideShapes Go.ChangeAt Go.RowKit
set_option linter.unusedVariables false
set_option linter.unusedSimpArgs false
namespace IS

theorem Cnt.trans {g N y s d d' t : Nat} {X : Nat → Nat} {rest : List Value} {w w1 w2 : World} (h : Cnt g N X rest y s d w w1) (hst : t ≤ s + d) (hst2 : s ≤ t) (k : Cnt g N X rest y t d' w1 w2) : Cnt g N X rest y s (d + d') w w2 := by
  obtain ⟨u, h1, h2, h3⟩ := k.ex
  exact ⟨k.row, h.two.trans k.two, u, by omega, by omega, h3⟩

set_option maxRecDepth 100000 in
set_option maxHeartbeats 1000000 in
theorem median_any (g N cap : Nat) (rest : List Value) (a b c y s : Nat) (X : Nat → Nat) (w : World) (h : RW w g N X rest) (ha : a < N) (hb : b < N) (hc : c < N) (hN : N ≤ 65536) (hcap : N ≤ cap) (hy : Blk w y 3 [.int .i64 (s : Int)]) (hyg : y ≠ g) (hs : s ≤ 900) :
    Calls Try.prog 94 #[.slice (some ⟨g, 0, none⟩) N cap, .int .i64 (a : Int), .int .i64 (b : Int), .int .i64 (c : Int), .pointer (some ⟨y, 0, none⟩)] w fun e w' => ∃ p : Nat, e = .returned (.int .i64 (p : Int)) ∧ (p = a ∨ p = b ∨ p = c) ∧ Cnt g N X rest y s 3 w w' := by
  have o2 := W_hid (fun a b s w h ha hb hy hs => order2_any g N cap rest a b y s X w h ha hb hN hcap hy hyg hs)
  have h1 := W_hid (o2.out a b s w h ha hb hy (by omega))
  clear h hy
  go_enter Try.func94, Try.ntmps94
  go_wp2_with fail
  refine h1.out.mono ?_
  rintro e w1 ⟨p1, q1, rfl, hp1, k1⟩
  obtain ⟨s1, l1, u1, y1⟩ := k1.ex
  have h2 := W_hid (o2.out q1 c s1 w1 k1.row (by omega) hc y1 (by omega))
  replace k1 := W_hid k1
  replace hp1 := W_hid hp1
  clear y1 h1
  go_wp2_with fail
  refine h2.out.mono ?_
  rintro e w2 ⟨p2, q2, rfl, hp2, k2⟩
  obtain ⟨s2, l2, u2, y2⟩ := k2.ex
  have h3 := W_hid (o2.out p1 p2 s2 w2 k2.row (by have := hp1.out; omega) (by have := hp1.out; omega) y2 (by omega))
  replace k2 := W_hid k2
  replace hp2 := W_hid hp2
  clear y2 h2
  go_wp2_with fail
  refine h3.out.mono ?_
  rintro e w3 ⟨p3, q3, rfl, hp3, k3⟩
  have hfin := W_hid ((k1.out.trans u1 l1 k2.out).trans (by omega) (by omega) k3)
  replace hp3 := W_hid hp3
  clear k1 k2 k3 h3
  go_wp2
  go_ret
  exact ⟨q3, rfl, by have := hp1.out; have := hp2.out; have := hp3.out; omega, hfin.out⟩

set_option maxRecDepth 100000 in
set_option maxHeartbeats 1000000 in
theorem adjacent_any (g N cap : Nat) (rest : List Value) (a y s : Nat) (X : Nat → Nat) (w : World) (h : RW w g N X rest) (h1 : 1 ≤ a) (ha : a + 1 < N) (hN : N ≤ 65536) (hcap : N ≤ cap) (hy : Blk w y 3 [.int .i64 (s : Int)]) (hyg : y ≠ g) (hs : s ≤ 900) :
    Calls Try.prog 93 #[.slice (some ⟨g, 0, none⟩) N cap, .int .i64 (a : Int), .pointer (some ⟨y, 0, none⟩)] w fun e w' => ∃ p : Nat, e = .returned (.int .i64 (p : Int)) ∧ a ≤ p + 1 ∧ p ≤ a + 1 ∧ Cnt g N X rest y s 3 w w' := by
  have hm := median_any g N cap rest (a - 1) a (a + 1) y s X w h (by omega) (by omega) (by omega) hN hcap hy hyg hs
  rw [show ((a - 1 : Nat) : Int) = (a : Int) - 1 from by omega, show ((a + 1 : Nat) : Int) = (a : Int) + 1 from by omega] at hm
  replace hm := W_hid hm
  clear h hy
  go_enter Try.func93, Try.ntmps93
  go_wp2_with fail
  refine hm.out.mono ?_
  rintro e w1 ⟨p, rfl, hp, k⟩
  have hfin := W_hid (show a ≤ p + 1 ∧ p ≤ a + 1 ∧ Cnt g N X rest y s 3 w w1 from ⟨by omega, by omega, k⟩)
  clear hp k
  go_wp2
  go_ret
  exact ⟨p, rfl, hfin.out⟩
end IS
end Go.Proofs.Ytieneehpijilpaa

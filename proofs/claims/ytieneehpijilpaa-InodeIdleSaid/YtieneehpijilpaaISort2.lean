/- reverseRangeOrdered: a row is turned by swaps. -/
import Derived.Test.YtieneehpijilpaaISort1
namespace Go.Proofs.Ytieneehpijilpaa
open Go.ChangeShapes Go.WideShapes Go.ChangeAt Go.RowKit
set_option linter.unusedVariables false
set_option linter.unusedSimpArgs false
namespace IS

set_option maxRecDepth 100000 in
set_option maxHeartbeats 1000000 in
theorem reverse_any (g N cap : Nat) (rest : List Value) (a b : Nat) (X : Nat → Nat) (w : World) (h : RW w g N X rest) (hab : a < b) (hb : b ≤ N) (hN : N ≤ 65536) (hcap : N ≤ cap) :
    Calls Try.prog 82 #[.slice (some ⟨g, 0, none⟩) N cap, .int .i64 (a : Int), .int .i64 (b : Int)] w fun e w' => e = .returned (.tuple #[]) ∧ Two g g w w' ∧ ∃ Y, RW w' g N Y rest ∧ SO.Sw a b X Y := by
  have h := W_hid h
  go_enter Try.func82, Try.ntmps82
  go_wp2_with fail
  go_loopw [6, 7] (fun v u wr => ∃ (i j : Nat) (Y : Nat → Nat), v = .int .i64 (i : Int) ∧ u = .int .i64 (j : Int) ∧ a ≤ i ∧ j < b ∧ Hid (RW wr g N Y rest) ∧ Hid (SO.Sw a b X Y) ∧ Hid (Two g g w wr)) (fun _ u _ => (intOf u).toNat)
  case atStart => exact ⟨a, b - 1, X, rfl, by congr 1; omega, Nat.le_refl _, by omega, h, W_hid .refl, W_hid (Two.refl _ _ _)⟩
  case round =>
    obtain ⟨i, j, Y, rfl, rfl, hai, hjb, hR, hS, hT⟩ := hrel
    by_cases hij : i < j
    · have ci := hR.out.cell i (by omega)
      have cj := hR.out.cell j (by omega)
      have fi := hR.out.fz i
      have fj := hR.out.fz j
      have hR2 := W_hid (hR.out.swap i j (by omega) (by omega))
      have hS2 := W_hid (hS.out.step (i := i) (j := j) hai (by omega) (by omega) hjb)
      have hT2 := W_hid ((hT.out.setCell (p := ⟨g, i, none⟩) (.inl rfl) (.int .i64 (Y j : Int))).setCell (p := ⟨g, j, none⟩) (.inl rfl) (.int .i64 (Y i : Int)))
      go_wp2_with fail
      go_region
      go_wp2_with fail
      exact ⟨⟨i + 1, j - 1, _, by go_num, by congr 1; omega, by omega, by omega, W_hid hR2.out.drew, hS2, W_hid ⟨hT2.out.os, hT2.out.tape, hT2.out.output, hT2.out.size, hT2.out.block⟩⟩, by simp [intOf]; omega⟩
    · go_wp2_with fail
      go_end0
      exact ⟨rfl, hT.out, Y, hR.out, hS.out⟩

/-- What order2Ordered and its callers leave: the row as it was, the count of swaps risen by at most d. -/
structure Cnt (g N : Nat) (X : Nat → Nat) (rest : List Value) (y s d : Nat) (w w' : World) : Prop where
  row : RW w' g N X rest
  two : Two y y w w'
  ex : ∃ t, s ≤ t ∧ t ≤ s + d ∧ Blk w' y 3 [.int .i64 (t : Int)]

set_option maxRecDepth 100000 in
set_option maxHeartbeats 1000000 in
theorem order2_any (g N cap : Nat) (rest : List Value) (a b y s : Nat) (X : Nat → Nat) (w : World) (h : RW w g N X rest) (ha : a < N) (hb : b < N) (hN : N ≤ 65536) (hcap : N ≤ cap) (hy : Blk w y 3 [.int .i64 (s : Int)]) (hyg : y ≠ g) (hs : s ≤ 1000) :
    Calls Try.prog 96 #[.slice (some ⟨g, 0, none⟩) N cap, .int .i64 (a : Int), .int .i64 (b : Int), .pointer (some ⟨y, 0, none⟩)] w fun e w' => ∃ p q : Nat, e = .returned (.tuple #[.int .i64 (p : Int), .int .i64 (q : Int)]) ∧ ((p = a ∧ q = b) ∨ (p = b ∧ q = a)) ∧ Cnt g N X rest y s 1 w w' := by
  have ca := h.cell a ha
  have cb := h.cell b hb
  have cy := hy.cell (j := 0) rfl
  have fy := hy.fz
  have hL := W_hid (fun t => Calls.quiet_of_same (Less_any (X b) (X a) (w.drewN t)))
  have h := W_hid h
  have hy := W_hid hy
  cases hd : decide (X b < X a) with
  | true =>
    rw [hd] at hL
    clear hd
    generalize X a = xa at *
    generalize X b = xb at *
    go_enter Try.func96, Try.ntmps96
    go_wp2_with fail
    go_quiet ((go_at_call 84; exact hL.out _))
    obtain ⟨W, hW⟩ : ∃ W, w.drewN nq = W := ⟨_, rfl⟩
    have hR : RW W g N X rest := by rw [← hW]; exact h.out.drewN nq
    have hY : Blk W y 3 [.int .i64 (s : Int)] := by rw [← hW]; exact hy.out
    have hT : Two y y w W := by rw [← hW]; exact (Two.refl _ _ _).drew nq
    rw [hW]
    have c2 := hY.cell (j := 0) rfl
    have f2 := hY.fz
    have hfin := W_hid (show Cnt g N X rest y s 1 w (W.setCell ⟨y, 0, none⟩ (.int .i64 ((s + 1 : Nat) : Int))) from ⟨hR.far (Ne.symm hyg) _, hT.setCell (.inl rfl) _, s + 1, by omega, by omega, hY.set 0 _⟩)
    rw [show ((s + 1 : Nat) : Int) = (s : Int) + 1 from by omega] at hfin
    clear hR hY hT
    go_wp2
    go_ret2
    exact ⟨b, a, rfl, .inr ⟨rfl, rfl⟩, hfin.out⟩
  | false =>
    rw [hd] at hL
    clear hd
    generalize X a = xa at *
    generalize X b = xb at *
    go_enter Try.func96, Try.ntmps96
    go_wp2_with fail
    go_quiet ((go_at_call 84; exact hL.out _))
    have hfin := W_hid (show Cnt g N X rest y s 1 w (w.drewN nq) from ⟨h.out.drewN nq, (Two.refl _ _ _).drew nq, s, Nat.le_refl _, by omega, hy.out⟩)
    go_wp2
    go_ret2
    exact ⟨a, b, rfl, .inl ⟨rfl, rfl⟩, hfin.out⟩
end IS
end Go.Proofs.Ytieneehpijilpaa

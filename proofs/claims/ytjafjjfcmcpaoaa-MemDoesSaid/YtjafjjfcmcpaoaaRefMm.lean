/- Stage 18, the document: is all there that an instruction names? -/
import Derived.Test.YtjafjjfcmcpaoaaMmSound
namespace Go.Proofs.Ytjafjjfcmcpaoaa
open Go.ChangeShapes Go.WideShapes Go.ChangeAt Go.RowKit
set_option linter.unusedVariables false
set_option linter.unusedSimpArgs false
set_option maxRecDepth 100000
namespace MC
open IN (lt_of_some)

set_option maxRecDepth 100000 in
set_option maxHeartbeats 4000000 in
theorem right_any {w : World} {g n : Nat} {ao : Option Addr} {cap : Nat} (hm : w.cell? ⟨g, 0, none⟩ = some (.slice ao n cap)) (x : In) : Calls Try.prog 31 #[ptr g, inv x] w fun e w' => e = .returned (.bool (snd x n)) ∧ Below w.heap.size w w' := by
  obtain ⟨op, cell, a, b, t⟩ := x
  have hgl := cell_lt hm
  simp only at hgl
  have hT := W_hid (fun W => risR_any W t)
  have hA := W_hid (fun W => risR_any W a)
  have hB := W_hid (fun W => risR_any W b)
  obtain ⟨B1, h1⟩ : ∃ B, hasC n cell = B := ⟨_, rfl⟩
  obtain ⟨B2, h2⟩ : ∃ B, isR t = B := ⟨_, rfl⟩
  obtain ⟨B3, h3⟩ : ∃ B, isR a = B := ⟨_, rfl⟩
  obtain ⟨B4, h4⟩ : ∃ B, isR b = B := ⟨_, rfl⟩
  rw [snd_eq op cell a b t n h1 h2 h3 h4]
  rw [h2] at hT
  rw [h3] at hA
  rw [h4] at hB
  clear h2 h3 h4
  unfold hasC at h1
  unfold inv
  have hmA : (w.alloc (.cells #[.int .i64 op, .int .i64 cell, .int .i64 a, .int .i64 b, .int .i64 t] TX)).cell? ⟨g, 0, none⟩ = some (.slice ao n cap) := by
    rw [World.cell?_of_block (w := w) (Below.heap_alloc w _ g hgl)]; exact hm
  by_cases h0 : 0 ≤ cell
  · have hd0 : decide (0 ≤ cell) = true := by simp [h0]
    by_cases hlt : cell < (n : Int)
    · have hd1 : decide (cell < (n : Int)) = true := by simp [hlt]
      obtain rfl : B1 = true := by rw [← h1]; simp [h0, hlt]
      clear h1
      go_enter Try.func31, Try.ntmps31
      go_wp2_with fail
      go_quiet (fail)
      obtain ⟨W, hW⟩ : ∃ W, (w.alloc (.cells #[.int .i64 op, .int .i64 cell, .int .i64 a, .int .i64 b, .int .i64 t] TX)).drewN nq = W := ⟨_, rfl⟩
      have hbl2 : Hid (Below w.heap.size w W) := W_hid (by rw [← hW]; exact below_drewN ((Below.refl _ _).alloc (Nat.le_refl _) _) nq)
      have hbk : Blk W w.heap.size TX [.int .i64 op, .int .i64 cell, .int .i64 a, .int .i64 b, .int .i64 t] := by rw [← hW]; exact Blk.new w _ _ rfl
      rw [hW]
      have c0 := hbk.cell (j := 0) rfl
      have c2 := hbk.cell (j := 2) rfl
      have c3 := hbk.cell (j := 3) rfl
      have c4 := hbk.cell (j := 4) rfl
      clear hW hbk
      go_wp2_with fail
      refine (hA.out _).mono ?_
      rintro e w' ⟨rfl, rfl⟩
      go_wp2_with fail
      refine (hB.out _).mono ?_
      rintro e w' ⟨rfl, rfl⟩
      go_wp2_with fail
      refine (hT.out _).mono ?_
      rintro e w' ⟨rfl, rfl⟩
      clear hA hB hT
      by_cases h1 : op = 1
      · subst h1
        cases B2 <;>
        (go_wp2_with fail; go_ret; exact ⟨by simp, hbl2.out⟩)
      by_cases h2 : op = 2
      · subst h2
        cases B2 <;>
        (go_wp2_with fail; go_ret; exact ⟨by simp, hbl2.out⟩)
      by_cases h3 : op = 3
      · subst h3
        cases B3 <;>
        (go_wp2_with fail; go_ret; exact ⟨by simp, hbl2.out⟩)
      by_cases h4 : op = 4
      · subst h4
        cases B3 <;> cases B4 <;> cases B2 <;>
        (go_wp2_with fail; go_ret; exact ⟨by simp, hbl2.out⟩)
      by_cases h5 : op = 5
      · subst h5
        cases B3 <;> cases B2 <;>
        (go_wp2_with fail; go_ret; exact ⟨by simp, hbl2.out⟩)
      by_cases h6 : op = 6
      · subst h6
        cases B3 <;>
        (go_wp2_with fail; go_ret; exact ⟨by simp, hbl2.out⟩)
      go_wp2_with fail
      go_ret
      exact ⟨by simp [h1, h2, h3, h4, h5, h6], hbl2.out⟩
    · have hd1 : decide (cell < (n : Int)) = false := by simp [hlt]
      obtain rfl : B1 = false := by rw [← h1]; simp [hlt]
      clear h1
      go_enter Try.func31, Try.ntmps31
      go_wp2_with fail
      go_quiet (fail)
      obtain ⟨W, hW⟩ : ∃ W, (w.alloc (.cells #[.int .i64 op, .int .i64 cell, .int .i64 a, .int .i64 b, .int .i64 t] TX)).drewN nq = W := ⟨_, rfl⟩
      have hbl2 : Hid (Below w.heap.size w W) := W_hid (by rw [← hW]; exact below_drewN ((Below.refl _ _).alloc (Nat.le_refl _) _) nq)
      have hbk : Blk W w.heap.size TX [.int .i64 op, .int .i64 cell, .int .i64 a, .int .i64 b, .int .i64 t] := by rw [← hW]; exact Blk.new w _ _ rfl
      rw [hW]
      have c0 := hbk.cell (j := 0) rfl
      have c2 := hbk.cell (j := 2) rfl
      have c3 := hbk.cell (j := 3) rfl
      have c4 := hbk.cell (j := 4) rfl
      clear hW hbk
      go_wp2_with fail
      refine (hA.out _).mono ?_
      rintro e w' ⟨rfl, rfl⟩
      go_wp2_with fail
      refine (hB.out _).mono ?_
      rintro e w' ⟨rfl, rfl⟩
      go_wp2_with fail
      refine (hT.out _).mono ?_
      rintro e w' ⟨rfl, rfl⟩
      clear hA hB hT
      by_cases h1 : op = 1
      · subst h1
        cases B2 <;>
        (go_wp2_with fail; go_ret; exact ⟨by simp, hbl2.out⟩)
      by_cases h2 : op = 2
      · subst h2
        (go_wp2_with fail; go_ret; exact ⟨by simp, hbl2.out⟩)
      by_cases h3 : op = 3
      · subst h3
        (go_wp2_with fail; go_ret; exact ⟨by simp, hbl2.out⟩)
      by_cases h4 : op = 4
      · subst h4
        (go_wp2_with fail; go_ret; exact ⟨by simp, hbl2.out⟩)
      by_cases h5 : op = 5
      · subst h5
        (go_wp2_with fail; go_ret; exact ⟨by simp, hbl2.out⟩)
      by_cases h6 : op = 6
      · subst h6
        cases B3 <;>
        (go_wp2_with fail; go_ret; exact ⟨by simp, hbl2.out⟩)
      go_wp2_with fail
      go_ret
      exact ⟨by simp [h1, h2, h3, h4, h5, h6], hbl2.out⟩
  · have hd0 : decide (0 ≤ cell) = false := by simp [h0]
    obtain rfl : B1 = false := by rw [← h1]; simp [h0]
    clear h1
    go_enter Try.func31, Try.ntmps31
    go_wp2_with fail
    go_quiet (fail)
    obtain ⟨W, hW⟩ : ∃ W, (w.alloc (.cells #[.int .i64 op, .int .i64 cell, .int .i64 a, .int .i64 b, .int .i64 t] TX)).drewN nq = W := ⟨_, rfl⟩
    have hbl2 : Hid (Below w.heap.size w W) := W_hid (by rw [← hW]; exact below_drewN ((Below.refl _ _).alloc (Nat.le_refl _) _) nq)
    have hbk : Blk W w.heap.size TX [.int .i64 op, .int .i64 cell, .int .i64 a, .int .i64 b, .int .i64 t] := by rw [← hW]; exact Blk.new w _ _ rfl
    rw [hW]
    have c0 := hbk.cell (j := 0) rfl
    have c2 := hbk.cell (j := 2) rfl
    have c3 := hbk.cell (j := 3) rfl
    have c4 := hbk.cell (j := 4) rfl
    clear hW hbk
    go_wp2_with fail
    refine (hA.out _).mono ?_
    rintro e w' ⟨rfl, rfl⟩
    go_wp2_with fail
    refine (hB.out _).mono ?_
    rintro e w' ⟨rfl, rfl⟩
    go_wp2_with fail
    refine (hT.out _).mono ?_
    rintro e w' ⟨rfl, rfl⟩
    clear hA hB hT
    by_cases h1 : op = 1
    · subst h1
      cases B2 <;>
      (go_wp2_with fail; go_ret; exact ⟨by simp, hbl2.out⟩)
    by_cases h2 : op = 2
    · subst h2
      (go_wp2_with fail; go_ret; exact ⟨by simp, hbl2.out⟩)
    by_cases h3 : op = 3
    · subst h3
      (go_wp2_with fail; go_ret; exact ⟨by simp, hbl2.out⟩)
    by_cases h4 : op = 4
    · subst h4
      (go_wp2_with fail; go_ret; exact ⟨by simp, hbl2.out⟩)
    by_cases h5 : op = 5
    · subst h5
      (go_wp2_with fail; go_ret; exact ⟨by simp, hbl2.out⟩)
    by_cases h6 : op = 6
    · subst h6
      cases B3 <;>
      (go_wp2_with fail; go_ret; exact ⟨by simp, hbl2.out⟩)
    go_wp2_with fail
    go_ret
    exact ⟨by simp [h1, h2, h3, h4, h5, h6], hbl2.out⟩
end MC
end Go.Proofs.Ytjafjjfcmcpaoaa


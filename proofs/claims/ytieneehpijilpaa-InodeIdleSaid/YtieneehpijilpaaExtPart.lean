/- Contract of part, the program's: the pieces of a valid list from a place on, ahead of another. -/
import Derived.Test.YtieneehpijilpaaExt
import Derived.Deep.RegionHeld3
namespace Go.Proofs.Ytieneehpijilpaa
open Go.ChangeShapes Go.WideShapes Go.ChangeAt Go.RowKit
set_option linter.unusedVariables false
set_option linter.unusedSimpArgs false

theorem info_ext : (Try.prog.info? 94).map (fun i => (i.zero, i.size, i.bytes)) = some (some (.agg #[.int .i64 0, .string ByteArray.empty]), 2, 24) := by kernel_rfl

/-- A valid list in numbers. -/
theorem ok_nums {l : List (Int × ByteArray)} (h : EM.ok 0 l = true) : l.length ≤ 1048576 ∧ EM.cnt l ≤ 1048576 := by
  have := EM.wk_cnt (EM.ok_wk h) (by decide)
  omega
theorem ok_each {l : List (Int × ByteArray)} (h : EM.ok 0 l = true) (k : Nat) (hk : k < l.length) : 0 < l[k].2.size ∧ 0 ≤ l[k].1 ∧ l[k].1 + l[k].2.size ≤ 1048576 := by
  have := EM.wk_at (EM.ok_wk h) k hk
  exact ⟨this.1, this.2.1, this.2.2.1⟩

set_option maxRecDepth 100000 in
set_option maxHeartbeats 400000 in
/-- end, at a struct that lies in a block: that block is as it was. -/
theorem end_held (a : Int) (d : ByteArray) (g : Nat) (w : World) (h1 : -9223372036854775808 ≤ a) (h2 : a + d.size ≤ 9223372036854775807) (c0 : w.cell? ⟨g, 0, none⟩ = some (.int .i64 a)) (c1 : w.cell? ⟨g, 1, none⟩ = some (.string d)) :
    Calls Try.prog 69 #[.agg #[.int .i64 a, .string d]] w fun e w' => e = .returned (.int .i64 (a + d.size)) ∧ Below w.heap.size w w' ∧ w'.cell? ⟨g, 0, none⟩ = some (.int .i64 a) ∧ w'.cell? ⟨g, 1, none⟩ = some (.string d) := by
  have hlt := World.block_lt_of_cell? w _ c0
  refine (end_any a d w h1 h2).mono ?_
  rintro e w' ⟨rfl, bel⟩
  exact ⟨rfl, bel, by rw [bel.cell (World.block_lt_of_cell? w _ c0)]; exact c0, by rw [bel.cell (World.block_lt_of_cell? w _ c1)]; exact c1⟩

set_option maxRecDepth 100000 in
set_option maxHeartbeats 4000000 in
theorem part_any (ao : Option Addr) (n cap : Nat) (l : List (Int × ByteArray)) (lo hi : Int) (w : World) (h : XS w ao n cap l) (hv : EM.ok 0 l = true) (hlo : I64 lo) (hhi : I64 hi) :
    Calls Try.prog 66 #[.slice ao n cap, .int .i64 lo, .int .i64 hi] w fun e w' => ∃ v, e = .returned v ∧ w'.ownsRow w.heap.size 94 2 v (EM.part lo hi l).length (ecl (EM.part lo hi l)) ∧ Below w.heap.size w w' := by
  obtain ⟨i0, hi0, hz0, hz1, hz2⟩ := info_parts info_ext
  have hn : n ≤ 1048576 := by have := (ok_nums hv).1; have := h.1; omega
  have L := W_hid h.1
  have H := W_hid h
  have hok := W_hid (fun k hk => ok_each hv k hk)
  have hlen := W_hid (fun k => EM.part_length lo hi (l.take k))
  have htk := W_hid (fun k hk => EM.part_take lo hi l k hk)
  obtain ⟨l1, l2⟩ := hlo
  obtain ⟨r1, r2⟩ := hhi
  clear h hv
  go_enter Try.func66, Try.ntmps66
  go_wp2_with fail
  go_loopw [7, 14] (fun v i wr => ∃ (k m : Nat) (q : List (Int × ByteArray)), k ≤ n ∧ m ≤ k ∧ i = .int .i64 k ∧ Hid (EM.part lo hi (l.take k) = q ∧ q.length = m) ∧ wr.ownsRow w.heap.size 94 2 v m (ecl q) ∧ Below w.heap.size w wr) (fun _ i _ => n - (intOf i).toNat)
  case atStart => exact ⟨0, 0, [], Nat.zero_le _, Nat.le_refl _, rfl, W_hid ⟨rfl, rfl⟩, World.ownsRow_nil _ _ _ _, Below.refl _ _⟩
  case round =>
    obtain ⟨k, m, q, hk, hmk, rfl, hq, hown, bel⟩ := hrel
    obtain ⟨ox, cx, rfl⟩ := Own.form hown
    by_cases hlt : k < n
    · obtain ⟨b1, o1, rfl, g1⟩ := (H.out.below bel (Nat.le_refl _)).at_ (by omega)
      have k1 : k < l.length := by rw [L.out]; exact hlt
      obtain ⟨e1, e2⟩ := g1 k hlt
      have hft := hok.out k k1
      have hnx := W_hid (htk.out k k1)
      obtain ⟨⟨a, d⟩, hx⟩ : ∃ x, l[k] = x := ⟨_, rfl⟩
      simp only [hx] at e1 e2 hft hnx
      obtain ⟨hd, ha, had⟩ := hft
      clear hx g1 k1
      have hend := W_hid (fun w g c0 c1 => end_held a d g w (by omega) (by omega) c0 c1)
      obtain ⟨A, hA⟩ : ∃ A, (if a < lo then lo else a) = A := ⟨_, rfl⟩
      obtain ⟨B, hB⟩ : ∃ B, (if hi < a + d.size then hi else a + d.size) = B := ⟨_, rfl⟩
      have HA : Hid (A = max a lo) := by show _ = _; rw [← hA]; split <;> omega
      have HB : Hid (B = min (a + d.size) hi) := by show _ = _; rw [← hB]; split <;> omega
      have A1 : 0 ≤ A - a := by have := HA.out; omega
      have A2 : -9223372036854775808 ≤ A ∧ A ≤ 9223372036854775807 := by have := HA.out; omega
      have B2 : -9223372036854775808 ≤ B ∧ B ≤ 9223372036854775807 := by have := HB.out; omega
      have B1 : B - a ≤ d.size := by have := HB.out; omega
      have hpc : Hid (EM.piece lo hi (a, d) = if A < B then some (A, d.extract (A - a).toNat (B - a).toNat) else none) := by
        show _ = _
        rw [HA.out, HB.out]; rfl
      have hw1 := XB.new wr a d rfl
      have u0 := hw1.c0
      have u1 := hw1.c1
      go_wp2_with fail
      go_region_held3 (fun w' => w'.cell? ⟨wr.heap.size, 0, none⟩ = some (.int .i64 a) ∧ w'.cell? ⟨wr.heap.size, 1, none⟩ = some (.string d)) (go_keep)
        (first | (go_at_call 69; refine (hend.out _ wr.heap.size (by assumption) (by assumption)).mono ?_; rintro e w' ⟨rfl, bel2, k0, k1⟩))
      all_goals
        have bel3 := (bel.alloc bel.size (.cells #[.int .i64 a, .string d] 94)).trans ((Own.bundrew bel2).mono (bel.alloc bel.size _).size)
        have hown3 := Own.below (hown.alloc (.cells #[.int .i64 a, .string d] 94)) (Own.bundrew bel2)
        clear hA hB hend u0 u1 hw1 bel2 e1 e2 bel hown
        by_cases hAB : A < B
        · obtain ⟨p, hp⟩ : ∃ p, p = d.extract (A - a).toNat (B - a).toNat := ⟨_, rfl⟩
          have hsl : ∀ w, (Instr.slice 9 (.string d) (some (.int .i64 (A - a))) (some (.int .i64 (B - a))) none).run Try.prog w = .ok (.string p) w := fun w => by
            rw [run_slice_string w _ d _ _ _ _ Try.underlying9 (by omega) (by omega) (by omega), hp]
          have hnext : Hid (EM.part lo hi (l.take (k + 1)) = q ++ [(A, p)]) := by
            show _ = _
            rw [hnx.out, hpc.out, if_pos hAB, hq.out.1, ← hp]; first | done | rfl
          have hm : Hid (m = q.length) := hq.out.2.symm
          clear hp hnx hpc hq
          go_wp2_with (at_builtin; apply Hid.out)
          refine W_hid ?_
          refine wpList_append_own_wide _ rfl (.tmp 29) (.tmp 43) 70 rfl w.heap.size 94 i0 (.agg #[.int .i64 0, .string ByteArray.empty]) 2 24 Try.underlying70 hi0 hz0 hz1 hz2 rfl (by decide) _ m (ecl q) rfl (hown3.alloc _) ⟨w'.heap.size, 0, none⟩ 1 1 [.int .i64 A, .string p] rfl rfl (Own.cells_two _ _ _ _ _) (by intro u hu; simp at hu; rcases hu with rfl | rfl <;> rfl) (by unfold maxLen; omega) (by omega) (by simp; have := bel3.size; omega) ?_
          intro v2 w2 hown4 hgrow _
          obtain ⟨ao2, cap2, rfl⟩ := Own.form hown4
          have bel4 := (bel3.alloc bel3.size _).grown hgrow (by simp; have := bel3.size; omega) (fun k h => Own.ge hown3 k h)
          clear k0 k1 hown3 bel3 hgrow
          go_wp2_with fail
          go_roundw
          case rel => exact ⟨k + 1, m + 1, q ++ [(A, p)], by omega, by omega, by go_num, W_hid ⟨hnext.out, by simp [hm.out]⟩, (by rw [ecl_append]; exact hown4), bel4⟩
          case measure => simp [intOf]; omega
        · have hnext : Hid (EM.part lo hi (l.take (k + 1)) = q) := by
            show _ = _
            rw [hnx.out, hpc.out, if_neg hAB, hq.out.1]; simp
          have hm : Hid (m = q.length) := hq.out.2.symm
          clear hnx hpc hq
          go_wp2_with fail
          go_roundw
          case rel => exact ⟨k + 1, m, q, by omega, by omega, by go_num, W_hid ⟨hnext.out, hm.out.symm⟩, hown3, bel3⟩
          case measure => simp [intOf]; omega
    · obtain rfl : k = n := by omega
      have hh : Hid (EM.part lo hi l = q) := by
        have := hq.out.1
        rwa [List.take_of_length_le (by rw [L.out]; exact Nat.le_refl _)] at this
      have hm := W_hid hq.out.2
      clear hq
      go_wp2_with fail
      go_ret
      refine ⟨_, rfl, ?_, bel⟩
      rw [hh.out, hm.out]
      exact hown

end Go.Proofs.Ytieneehpijilpaa

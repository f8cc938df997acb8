/- siftDownOrdered, heapSortOrdered. -/
import Derived.Test.YtieneehpijilpaaISortMath
import Derived.Test.YtieneehpijilpaaISort3
import Derived.BigRegion
namespace Go.Proofs.Ytieneehpijilpaa
open Go.ChangeShapes Go.WideShapes Go.ChangeAt Go.RowKit
set_option linter.unusedVariables false
set_option linter.unusedSimpArgs false
namespace IS

theorem Two.drewed {g b : Nat} {w w' : World} (h : Two g b w w'.drew) : Two g b w w' := ⟨h.os, h.tape, h.output, h.size, h.block⟩

set_option maxRecDepth 100000 in
set_option maxHeartbeats 4000000 in
theorem sift_any (g N cap : Nat) (rest : List Value) (lo hi f : Nat) (X : Nat → Nat) (w : World) (h : RW w g N X rest) (hlo : lo ≤ hi) (hf : f + hi ≤ N) (hN : N ≤ 65536) (hcap : N ≤ cap) (hH : SO.Heap X f (lo + 1) hi) :
    Calls Try.prog 90 #[.slice (some ⟨g, 0, none⟩) N cap, .int .i64 (lo : Int), .int .i64 (hi : Int), .int .i64 (f : Int)] w fun e w' => e = .returned (.tuple #[]) ∧ Two g g w w' ∧ ∃ Y, RW w' g N Y rest ∧ SO.Sw (f + lo) (f + hi) X Y ∧ SO.Heap Y f lo hi := by
  have h := W_hid h
  obtain ⟨hx0, hg0⟩ := SO.heap_begin hH
  have hx0 := W_hid hx0
  have hg0 := W_hid hg0
  clear hH
  go_enter Try.func90, Try.ntmps90
  go_wp2_with fail
  go_loopw [8, 9] (fun v u wr => ∃ (r : Nat) (Z : Nat → Nat), v = .int .i64 (r : Int) ∧ lo ≤ r ∧ r ≤ hi ∧ Hid (RW wr g N Z rest) ∧ Hid (SO.Sw (f + lo) (f + hi) X Z) ∧ Hid (SO.HeapX Z f lo hi r) ∧ Hid (SO.Grand Z f lo hi r) ∧ Hid (Two g g w wr)) (fun v _ _ => hi - (intOf v).toNat)
  case atStart => exact ⟨lo, X, rfl, Nat.le_refl _, hlo, h, W_hid .refl, hx0, hg0, W_hid (Two.refl _ _ _)⟩
  case round =>
    clear hx0 hg0
    obtain ⟨r, Z, rfl, hlr, hrh, hR, hS, hHX, hG, hT⟩ := hrel
    obtain ⟨c1, hc1⟩ : ∃ c1, 2 * r + 1 = c1 := ⟨_, rfl⟩
    have e1 : 2 * (r : Int) + 1 = (c1 : Int) := by omega
    by_cases h1 : c1 < hi
    · obtain ⟨p0, hp0⟩ : ∃ p, f + r = p := ⟨_, rfl⟩
      obtain ⟨p1, hp1⟩ : ∃ p, f + c1 = p := ⟨_, rfl⟩
      obtain ⟨c2, hc2⟩ : ∃ c, c1 + 1 = c := ⟨_, rfl⟩
      obtain ⟨p2, hp2⟩ : ∃ p, p1 + 1 = p := ⟨_, rfl⟩
      have f0 : (f : Int) + (r : Int) = (p0 : Int) := by omega
      have f1 : (f : Int) + (c1 : Int) = (p1 : Int) := by omega
      have f2 : (p1 : Int) + 1 = (p2 : Int) := by omega
      have f3 : (c1 : Int) + 1 = (c2 : Int) := by omega
      have f4 : (f : Int) + (c2 : Int) = (p2 : Int) := by omega
      have b0 : p0 < N := by omega
      have b1 : p1 < N := by omega
      have hcc : Hid (c1 = 2 * r + 1 ∧ c2 = 2 * r + 2 ∧ f + r = p0 ∧ f + c1 = p1 ∧ f + c2 = p2) := ⟨by omega, by omega, hp0, hp1, by omega⟩
      have d0 := hR.out.cell p0 b0
      have d1 := hR.out.cell p1 b1
      have gz := hR.out.fz
      obtain ⟨v0, hv0⟩ : ∃ v, Z p0 = v := ⟨_, rfl⟩
      obtain ⟨v1, hv1⟩ : ∃ v, Z p1 = v := ⟨_, rfl⟩
      rw [hv0] at d0
      rw [hv1] at d1
      replace hv0 := W_hid hv0
      replace hv1 := W_hid hv1
      by_cases h2 : c2 < hi
      · have b2 : p2 < N := by omega
        have d2 := hR.out.cell p2 b2
        obtain ⟨v2, hv2⟩ : ∃ v, Z p2 = v := ⟨_, rfl⟩
        rw [hv2] at d2
        replace hv2 := W_hid hv2
        have hL := W_hid (fun t => Calls.quiet_of_same (Less_any v1 v2 (wr.drewN t)))
        clear hc1 hc2 hp0 hp1 hp2
        by_cases h3 : v1 < v2
        · rw [show decide (v1 < v2) = true by simp [h3]] at hL
          have hm : Hid (∀ d, (d = 2 * r + 1 ∨ d = 2 * r + 2) → d < hi → Z (f + d) ≤ Z (f + c2)) := by
            obtain ⟨q1, q2, q3, q4, q5⟩ := hcc.out
            have := hv1.out
            have := hv2.out
            rw [← q4] at hv1
            rintro d (rfl | rfl) hd
            · rw [q5, hv2.out, ← q1, hv1.out]; omega
            · rw [← q2]; exact Nat.le_refl _
          replace h3 := W_hid h3
          have hLL := W_hid (fun W t => Calls.quiet_of_same (Less_any v0 v2 (World.drewN W t)))
          have hcx : Hid ((c2 = 2 * r + 1 ∨ c2 = 2 * r + 2) ∧ c2 < hi ∧ f + c2 = p2) := by
            obtain ⟨q1, q2, q3, q4, q5⟩ := hcc.out
            exact ⟨by omega, by omega, by omega⟩
          go_wp2_with fail
          go_quiet ((go_at_call 84; exact hL.out _))
          obtain ⟨W, hW⟩ : ∃ W, wr.drewN nq = W := ⟨_, rfl⟩
          have hR3 : RW W g N Z rest := by rw [← hW]; exact hR.out.drewN nq
          have hT3 : Two g g w W := by rw [← hW]; exact hT.out.drew nq
          rw [hW]
          clear hW d0 d1 d2 gz
          have d0 := hR3.cell p0 b0
          have dc := hR3.cell p2 b2
          have gz := hR3.fz
          rw [hv0.out] at d0
          rw [hv2.out] at dc
          replace hR3 := W_hid hR3
          replace hT3 := W_hid hT3
          by_cases h4 : v0 < v2
          · replace hLL := W_hid (hLL.out W)
            rw [show decide (v0 < v2) = true by simp [h4]] at hLL
            have hnx := W_hid (SO.heap_down hHX.out hG.out hlr hcx.out.1 hcx.out.2.1 hm.out (by rw [hcx.out.2.2, hcc.out.2.2.1, hv0.out, hv2.out]; exact h4))
            rw [hcx.out.2.2, hcc.out.2.2.1] at hnx
            have hS3 := W_hid (hS.out.step (i := p0) (j := p2) (by have := hcc.out.2.2.1; omega) (by have := hcc.out.2.2.1; omega) (by have := hcx.out; omega) (by have := hcx.out; omega))
            have hlt : Hid (r < c2 ∧ c2 ≤ hi ∧ lo ≤ c2) := by
              have := hcx.out
              show _ ∧ _ ∧ _
              omega
            replace h4 := W_hid h4
            go_wp2_with fail
            go_quiet ((go_at_call 84; exact hLL.out _))
            go_wp2_with fail
            obtain ⟨V, hV⟩ : ∃ V, W.drewN nq = V := ⟨_, rfl⟩
            have hR4 : RW V g N Z rest := by rw [← hV]; exact hR3.out.drewN nq
            have hT4 : Two g g w V := by rw [← hV]; exact hT3.out.drew nq
            rw [hV]
            clear hV d0 dc gz
            have d0 := hR4.cell p0 b0
            have dc := hR4.cell p2 b2
            have gz := hR4.fz
            rw [hv0.out] at d0
            rw [hv2.out] at dc
            have hR5 := W_hid (hR4.swap p0 p2 b0 b2)
            rw [hv0.out, hv2.out] at hR5
            have hT5 := W_hid ((hT4.setCell (p := ⟨g, p0, none⟩) (.inl rfl) (.int .i64 (v2 : Int))).setCell (p := ⟨g, p2, none⟩) (.inl rfl) (.int .i64 (v0 : Int)))
            clear hR4 hT4
            go_region
            go_wp2_with fail
            exact ⟨⟨c2, _, rfl, hlt.out.2.2, hlt.out.2.1, W_hid hR5.out.drew, hS3, W_hid hnx.out.1, W_hid hnx.out.2, W_hid ⟨hT5.out.os, hT5.out.tape, hT5.out.output, hT5.out.size, hT5.out.block⟩⟩, by have := hlt.out; simp [intOf]; omega⟩
          · replace hLL := W_hid (hLL.out W)
            rw [show decide (v0 < v2) = false by simp [h4]] at hLL
            have hfin := W_hid (SO.heap_stop hHX.out hcx.out.1 hm.out (by rw [hcx.out.2.2, hcc.out.2.2.1, hv0.out, hv2.out]; omega))
            replace h4 := W_hid h4
            go_wp2_with fail
            go_quiet ((go_at_call 84; exact hLL.out _))
            go_wp2_with fail
            refine bodyPost_ret (results_none rfl _ _ _) rfl ?_
            exact ⟨rfl, hT3.out.drew nq, Z, hR3.out.drewN nq, hS.out, hfin.out⟩
        · rw [show decide (v1 < v2) = false by simp [h3]] at hL
          have hm : Hid (∀ d, (d = 2 * r + 1 ∨ d = 2 * r + 2) → d < hi → Z (f + d) ≤ Z (f + c1)) := by
            obtain ⟨q1, q2, q3, q4, q5⟩ := hcc.out
            rintro d (rfl | rfl) hd
            · rw [← q1]; exact Nat.le_refl _
            · rw [← q2, q5, hv2.out, q4, hv1.out]; omega
          replace h3 := W_hid h3
          have hLL := W_hid (fun W t => Calls.quiet_of_same (Less_any v0 v1 (World.drewN W t)))
          have hcx : Hid ((c1 = 2 * r + 1 ∨ c1 = 2 * r + 2) ∧ c1 < hi ∧ f + c1 = p1) := by
            obtain ⟨q1, q2, q3, q4, q5⟩ := hcc.out
            exact ⟨by omega, by omega, by omega⟩
          go_wp2_with fail
          go_quiet ((go_at_call 84; exact hL.out _))
          obtain ⟨W, hW⟩ : ∃ W, wr.drewN nq = W := ⟨_, rfl⟩
          have hR3 : RW W g N Z rest := by rw [← hW]; exact hR.out.drewN nq
          have hT3 : Two g g w W := by rw [← hW]; exact hT.out.drew nq
          rw [hW]
          clear hW d0 d1 d2 gz
          have d0 := hR3.cell p0 b0
          have dc := hR3.cell p1 b1
          have gz := hR3.fz
          rw [hv0.out] at d0
          rw [hv1.out] at dc
          replace hR3 := W_hid hR3
          replace hT3 := W_hid hT3
          by_cases h4 : v0 < v1
          · replace hLL := W_hid (hLL.out W)
            rw [show decide (v0 < v1) = true by simp [h4]] at hLL
            have hnx := W_hid (SO.heap_down hHX.out hG.out hlr hcx.out.1 hcx.out.2.1 hm.out (by rw [hcx.out.2.2, hcc.out.2.2.1, hv0.out, hv1.out]; exact h4))
            rw [hcx.out.2.2, hcc.out.2.2.1] at hnx
            have hS3 := W_hid (hS.out.step (i := p0) (j := p1) (by have := hcc.out.2.2.1; omega) (by have := hcc.out.2.2.1; omega) (by have := hcx.out; omega) (by have := hcx.out; omega))
            have hlt : Hid (r < c1 ∧ c1 ≤ hi ∧ lo ≤ c1) := by
              have := hcx.out
              show _ ∧ _ ∧ _
              omega
            replace h4 := W_hid h4
            go_wp2_with fail
            go_quiet ((go_at_call 84; exact hLL.out _))
            go_wp2_with fail
            obtain ⟨V, hV⟩ : ∃ V, W.drewN nq = V := ⟨_, rfl⟩
            have hR4 : RW V g N Z rest := by rw [← hV]; exact hR3.out.drewN nq
            have hT4 : Two g g w V := by rw [← hV]; exact hT3.out.drew nq
            rw [hV]
            clear hV d0 dc gz
            have d0 := hR4.cell p0 b0
            have dc := hR4.cell p1 b1
            have gz := hR4.fz
            rw [hv0.out] at d0
            rw [hv1.out] at dc
            have hR5 := W_hid (hR4.swap p0 p1 b0 b1)
            rw [hv0.out, hv1.out] at hR5
            have hT5 := W_hid ((hT4.setCell (p := ⟨g, p0, none⟩) (.inl rfl) (.int .i64 (v1 : Int))).setCell (p := ⟨g, p1, none⟩) (.inl rfl) (.int .i64 (v0 : Int)))
            clear hR4 hT4
            go_region
            go_wp2_with fail
            exact ⟨⟨c1, _, rfl, hlt.out.2.2, hlt.out.2.1, W_hid hR5.out.drew, hS3, W_hid hnx.out.1, W_hid hnx.out.2, W_hid ⟨hT5.out.os, hT5.out.tape, hT5.out.output, hT5.out.size, hT5.out.block⟩⟩, by have := hlt.out; simp [intOf]; omega⟩
          · replace hLL := W_hid (hLL.out W)
            rw [show decide (v0 < v1) = false by simp [h4]] at hLL
            have hfin := W_hid (SO.heap_stop hHX.out hcx.out.1 hm.out (by rw [hcx.out.2.2, hcc.out.2.2.1, hv0.out, hv1.out]; omega))
            replace h4 := W_hid h4
            go_wp2_with fail
            go_quiet ((go_at_call 84; exact hLL.out _))
            go_wp2_with fail
            refine bodyPost_ret (results_none rfl _ _ _) rfl ?_
            exact ⟨rfl, hT3.out.drew nq, Z, hR3.out.drewN nq, hS.out, hfin.out⟩
      · clear hc1 hc2 hp0 hp1 hp2
        have hm : Hid (∀ d, (d = 2 * r + 1 ∨ d = 2 * r + 2) → d < hi → Z (f + d) ≤ Z (f + c1)) := by
          obtain ⟨q1, q2, q3, q4, q5⟩ := hcc.out
          rintro d (rfl | rfl) hd
          · rw [← q1]; exact Nat.le_refl _
          · omega
        have hLL := W_hid (fun W t => Calls.quiet_of_same (Less_any v0 v1 (World.drewN W t)))
        have hcx : Hid ((c1 = 2 * r + 1 ∨ c1 = 2 * r + 2) ∧ c1 < hi ∧ f + c1 = p1) := by
          obtain ⟨q1, q2, q3, q4, q5⟩ := hcc.out
          exact ⟨by omega, by omega, by omega⟩
        go_wp2_with fail
        go_quiet (fail)
        obtain ⟨W, hW⟩ : ∃ W, wr.drewN nq = W := ⟨_, rfl⟩
        have hR3 : RW W g N Z rest := by rw [← hW]; exact hR.out.drewN nq
        have hT3 : Two g g w W := by rw [← hW]; exact hT.out.drew nq
        rw [hW]
        clear hW d0 d1 gz
        have d0 := hR3.cell p0 b0
        have dc := hR3.cell p1 b1
        have gz := hR3.fz
        rw [hv0.out] at d0
        rw [hv1.out] at dc
        replace hR3 := W_hid hR3
        replace hT3 := W_hid hT3
        by_cases h4 : v0 < v1
        · replace hLL := W_hid (hLL.out W)
          rw [show decide (v0 < v1) = true by simp [h4]] at hLL
          have hnx := W_hid (SO.heap_down hHX.out hG.out hlr hcx.out.1 hcx.out.2.1 hm.out (by rw [hcx.out.2.2, hcc.out.2.2.1, hv0.out, hv1.out]; exact h4))
          rw [hcx.out.2.2, hcc.out.2.2.1] at hnx
          have hS3 := W_hid (hS.out.step (i := p0) (j := p1) (by have := hcc.out.2.2.1; omega) (by have := hcc.out.2.2.1; omega) (by have := hcx.out; omega) (by have := hcx.out; omega))
          have hlt : Hid (r < c1 ∧ c1 ≤ hi ∧ lo ≤ c1) := by
            have := hcx.out
            show _ ∧ _ ∧ _
            omega
          replace h4 := W_hid h4
          go_wp2_with fail
          go_quiet ((go_at_call 84; exact hLL.out _))
          go_wp2_with fail
          obtain ⟨V, hV⟩ : ∃ V, W.drewN nq = V := ⟨_, rfl⟩
          have hR4 : RW V g N Z rest := by rw [← hV]; exact hR3.out.drewN nq
          have hT4 : Two g g w V := by rw [← hV]; exact hT3.out.drew nq
          rw [hV]
          clear hV d0 dc gz
          have d0 := hR4.cell p0 b0
          have dc := hR4.cell p1 b1
          have gz := hR4.fz
          rw [hv0.out] at d0
          rw [hv1.out] at dc
          have hR5 := W_hid (hR4.swap p0 p1 b0 b1)
          rw [hv0.out, hv1.out] at hR5
          have hT5 := W_hid ((hT4.setCell (p := ⟨g, p0, none⟩) (.inl rfl) (.int .i64 (v1 : Int))).setCell (p := ⟨g, p1, none⟩) (.inl rfl) (.int .i64 (v0 : Int)))
          clear hR4 hT4
          go_region
          go_wp2_with fail
          exact ⟨⟨c1, _, rfl, hlt.out.2.2, hlt.out.2.1, W_hid hR5.out.drew, hS3, W_hid hnx.out.1, W_hid hnx.out.2, W_hid ⟨hT5.out.os, hT5.out.tape, hT5.out.output, hT5.out.size, hT5.out.block⟩⟩, by have := hlt.out; simp [intOf]; omega⟩
        · replace hLL := W_hid (hLL.out W)
          rw [show decide (v0 < v1) = false by simp [h4]] at hLL
          have hfin := W_hid (SO.heap_stop hHX.out hcx.out.1 hm.out (by rw [hcx.out.2.2, hcc.out.2.2.1, hv0.out, hv1.out]; omega))
          replace h4 := W_hid h4
          go_wp2_with fail
          go_quiet ((go_at_call 84; exact hLL.out _))
          go_wp2_with fail
          refine bodyPost_ret (results_none rfl _ _ _) rfl ?_
          exact ⟨rfl, hT3.out.drew nq, Z, hR3.out.drewN nq, hS.out, hfin.out⟩
    · have hfin : SO.Heap Z f lo hi := SO.heap_leaf hHX.out (by omega)
      go_wp2_with fail
      go_end0
      exact ⟨rfl, hT.out, Z, hR.out, hS.out, hfin⟩

set_option maxRecDepth 100000 in
set_option maxHeartbeats 4000000 in
theorem heap_any (g N cap : Nat) (rest : List Value) (a b : Nat) (X : Nat → Nat) (w : World) (h : RW w g N X rest) (hab : a < b) (hb : b ≤ N) (hN : N ≤ 65536) (hcap : N ≤ cap) :
    Calls Try.prog 79 #[.slice (some ⟨g, 0, none⟩) N cap, .int .i64 (a : Int), .int .i64 (b : Int)] w fun e w' => e = .returned (.tuple #[]) ∧ Two g g w w' ∧ ∃ Y, RW w' g N Y rest ∧ SO.Sw a b X Y ∧ SO.Up Y a b := by
  have h := W_hid h
  obtain ⟨n, hn⟩ : ∃ n, b - a = n := ⟨_, rfl⟩
  have hni : (b : Int) - (a : Int) = (n : Int) := by omega
  have hn1 : 1 ≤ n := by omega
  have hnb : a + n = b := by omega
  obtain ⟨m, hm⟩ : ∃ m, (n - 1) / 2 = m := ⟨_, rfl⟩
  have hn0 : (n : Int) - 1 = ((n - 1 : Nat) : Int) := by omega
  have hmi : ((n - 1 : Nat) : Int).tdiv 2 = (m : Int) := by rw [← hm]; rfl
  obtain ⟨n1, hn2⟩ : ∃ n1, n - 1 = n1 := ⟨_, rfl⟩
  rw [hn2] at hn0 hmi
  have hmn : m < n := by omega
  have hm0 : Hid (SO.Heap X a (m + 1) n) := fun i c h1 h2 h3 => by omega
  have hn3 : n1 + 1 = n := by omega
  have cS := W_hid (fun lo hi (Z : Nat → Nat) (W : World) h1 h2 h3 h4 => sift_any g N cap rest lo hi a Z W h1 h2 h3 hN hcap h4)
  clear hn hm hn2
  go_enter Try.func79, Try.ntmps79
  go_wp2_with fail
  go_loopw [9] (fun v wr => ∃ (i : Nat) (Z : Nat → Nat), v = .int .i64 ((i : Int) - 1) ∧ i ≤ n ∧ Hid (RW wr g N Z rest) ∧ Hid (SO.Sw a b X Z) ∧ Hid (SO.Heap Z a i n) ∧ Hid (Two g g w wr)) (fun v _ => (intOf v + 1).toNat)
  case atStart => exact ⟨m + 1, X, by congr 1; omega, by omega, h, W_hid .refl, hm0, W_hid (Two.refl _ _ _)⟩
  case round =>
    clear hm0
    obtain ⟨i, Z, rfl, hi, hR, hS, hH, hT⟩ := hrel
    rcases Nat.eq_zero_or_pos i with rfl | hpos
    · obtain ⟨wa, rfl⟩ : ∃ wa, wa = wr := ⟨wr, rfl⟩
      have ht0 : Hid (SO.Tail Z a n n) := fun p q h1 h2 h3 => by omega
      rw [show (((0 : Nat) : Int) - 1) = -1 from rfl]
      go_wp2_with fail
      go_loopw [10] (fun v wr => ∃ (i : Nat) (Z : Nat → Nat), v = .int .i64 ((i : Int) - 1) ∧ i ≤ n ∧ Hid (RW wr g N Z rest) ∧ Hid (SO.Sw a b X Z) ∧ Hid (SO.Heap Z a 0 i) ∧ Hid (SO.Tail Z a i n) ∧ Hid (Two g g w wr)) (fun v _ => (intOf v + 1).toNat)
      case atStart => exact ⟨n, Z, by congr 1; omega, Nat.le_refl _, hR, hS, hH, ht0, hT⟩
      case round =>
        clear hR hS hH ht0 hT
        obtain ⟨i, Z, rfl, hi, hR, hS, hH, hTl, hT⟩ := hrel
        rcases Nat.eq_zero_or_pos i with rfl | hpos
        · have hU := SO.tail_up hTl.out
          rw [hnb] at hU
          go_wp2_with fail
          go_end0
          exact ⟨rfl, hT.out, Z, hR.out, hS.out, hU⟩
        · obtain ⟨j, rfl⟩ : ∃ j, i = j + 1 := ⟨i - 1, by omega⟩
          have ej : ((j + 1 : Nat) : Int) - 1 = (j : Int) := by omega
          obtain ⟨q, hq⟩ : ∃ q, a + j = q := ⟨_, rfl⟩
          have eq : (a : Int) + (j : Int) = (q : Int) := by omega
          have bq : q < N := by omega
          have ba : a < N := by omega
          have da := hR.out.cell a ba
          have dq := hR.out.cell q bq
          have gz := hR.out.fz
          obtain ⟨va, hva⟩ : ∃ v, Z a = v := ⟨_, rfl⟩
          obtain ⟨vq, hvq⟩ : ∃ v, Z q = v := ⟨_, rfl⟩
          have hR2 := W_hid (hR.out.swap a q ba bq)
          have hT2 := W_hid ((hT.out.setCell (p := ⟨g, a, none⟩) (.inl rfl) (.int .i64 (Z q : Int))).setCell (p := ⟨g, q, none⟩) (.inl rfl) (.int .i64 (Z a : Int)))
          have hS2 := W_hid (hS.out.step (i := a) (j := q) (Nat.le_refl _) hab (by omega) (by omega))
          have hP := W_hid (SO.heap_pop hH.out)
          have hTl2 := W_hid (SO.tail_pop hH.out hTl.out (by omega))
          rw [hq] at hP hTl2
          rw [hva, hvq] at hR2 hT2
          rw [hva] at da
          rw [hvq] at dq
          replace hq := W_hid hq
          replace hva := W_hid hva
          replace hvq := W_hid hvq
          rw [ej]
          clear hR hT hH hTl ej
          obtain ⟨V, hV⟩ : ∃ V, World.drew ((wr.setCell ⟨g, a, none⟩ (.int .i64 (vq : Int))).setCell ⟨g, q, none⟩ (.int .i64 (va : Int))) = V := ⟨_, rfl⟩
          have hR3 : RW V g N (SO.swp Z a q) rest := by rw [← hV]; exact hR2.out.drew
          have hT3 : Hid (Two g g w V) := by rw [← hV]; exact ⟨hT2.out.os, hT2.out.tape, hT2.out.output, hT2.out.size, hT2.out.block⟩
          have hc := W_hid (cS.out 0 j (SO.swp Z a q) V hR3 (Nat.zero_le _) (by omega) hP.out)
          clear hR3 hR2 hT2
          have hcs : q = a ∨ ¬ q = a := by omega
          rcases hcs with hqa | hne
          case' inl =>
            obtain rfl : va = vq := hva.out.symm.trans (by rw [← hqa]; exact hvq.out)
            subst hqa
          case' inr => have hne2 : ¬ a = q := fun e => hne e.symm
          all_goals
            go_wp2_with fail
            go_region
            try rw [hV]
            clear hV da dq gz
            go_wp2_with (go_at_call 90; refine hc.out.mono ?_; rintro e w5 ⟨rfl, hT5, Y5, hR5, hS5, hH5⟩)
            go_roundw
            case rel => exact ⟨j, Y5, by go_num, by omega, W_hid hR5, W_hid (hS2.out.trans (hS5.wide (by omega) (by omega))), W_hid hH5, W_hid (SO.tail_sw hTl2.out (hS5.wide (by omega) (Nat.le_refl _))), W_hid (hT3.out.trans hT5)⟩
            case measure => first | (simp [intOf]; omega) | simp [intOf]
    · obtain ⟨j, rfl⟩ : ∃ j, i = j + 1 := ⟨i - 1, by omega⟩
      have ej : ((j + 1 : Nat) : Int) - 1 = (j : Int) := by omega
      have hc := W_hid (cS.out j n Z wr hR.out (by omega) (by omega) hH.out)
      rw [ej]
      clear ej hR hH
      go_wp2_with (go_at_call 90; refine hc.out.mono ?_; rintro e w5 ⟨rfl, hT5, Y5, hR5, hS5, hH5⟩)
      go_roundw
      case rel => exact ⟨j, Y5, by go_num, by omega, W_hid hR5, W_hid (hS.out.trans (hS5.wide (by omega) (by omega))), W_hid hH5, W_hid (hT.out.trans hT5)⟩
      case measure => first | (simp [intOf]; omega) | simp [intOf]
end IS
end Go.Proofs.Ytieneehpijilpaa

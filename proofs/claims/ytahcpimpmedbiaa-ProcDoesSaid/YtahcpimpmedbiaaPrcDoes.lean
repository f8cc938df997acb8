/- Layer 14: does: a call, by both tables. -/
import Derived.Test.YtahcpimpmedbiaaPrcBoth
import Derived.Deep.RegionHeld3
import Derived.OrdersHeld
namespace Go.Proofs.Ytahcpimpmedbiaa
open Go.ChangeShapes Go.WideShapes Go.ChangeAt Go.RowKit Go.Maps
set_option linter.unusedVariables false
set_option linter.unusedSimpArgs false
set_option maxRecDepth 100000
namespace PC
open IS (I64)
open IN (Keeps lt_of_some)

set_option maxRecDepth 100000 in
set_option maxHeartbeats 16000000 in
theorem does14 (b : Nat) (w0 : World) (tb rb N : Nat) (L : List Pr) (kd a c : Int) (w : World) (hJ : J b w0 tb rb N L L (fun _ => False) w) (ha : I64 a) :
    Calls Try.prog 13 #[.pointer (some ⟨tb, 0, none⟩), .pointer (some ⟨rb, 0, none⟩), .agg #[.int .i64 kd, .int .i64 a, .int .i64 c]] w fun e w' => e = .returned (.bool true) ∧ ∃ L', J b w0 tb rb N L' L' (fun _ => False) w' := by
  obtain ⟨xg, hxg⟩ : ∃ xg, w.heap.size = xg := ⟨_, rfl⟩
  obtain ⟨W0, hW0⟩ : ∃ W0, w.alloc (.cells #[.int .i64 kd, .int .i64 a, .int .i64 c] 33) = W0 := ⟨_, rfl⟩
  have hJ0 : J b w0 tb rb N L L (fun k => False ∨ k = xg) W0 := by rw [← hW0, ← hxg]; exact hJ.alloc _
  have hx0 : Blk W0 xg 33 [.int .i64 kd, .int .i64 a, .int .i64 c] := by rw [← hW0]; exact Blk.new w 33 [.int .i64 kd, .int .i64 a, .int .i64 c] hxg.symm
  have hlen : L.length ≤ 1024 := by have := hJ.toP.good.len; have := hJ.toP.good.top; omega
  obtain ⟨hcs, hk1, hk2⟩ := kind6 kd
  have y0 := hx0.cell (j := 0) rfl
  have y1 := hx0.cell (j := 1) rfl
  have y2 := hx0.cell (j := 2) rfl
  have hJ0 := W_hid hJ0
  have hx0 := W_hid hx0
  have hxz : ∀ (Z : Nat → Prop), False ∨ xg = xg := fun _ => .inr rfl
  clear hJ hxz
  obtain ⟨tm, htm⟩ : ∃ tm, kd.tmod 6 = tm := ⟨_, rfl⟩
  rw [htm] at hcs hk1 hk2
  have hwt : IntKind.i64.wrap (tm + 6) = tm + 6 := IntWalk.i64_in _ (by omega)
  rcases hcs with e0 | e0 | e0 | e0 | e0 | e0
  · have cP := W_hid (fun w (h : J b w0 tb rb N L L (fun k => False ∨ k = xg) w) => J.callP (f := 18) (args := #[.pointer (some ⟨tb, 0, none⟩), .int .i64 a, .int .i64 c]) (r := .returned (.tuple #[.int .i64 (spawnR N L a c).1.1, .int .i64 (spawnR N L a c).1.2])) (L' := (spawnR N L a c).2) (fun hG => good_spawnR hG a c) (fun w X hT hG => Spawn_any hT hG a c ha) h)
    have cR := W_hid (fun w (h : J b w0 tb rb N ((spawnR N L a c).2) L (fun k => False ∨ k = xg) w) => J.callD (f := 24) (args := #[.pointer (some ⟨rb, 0, none⟩), .int .i64 a, .int .i64 c]) (r := .returned (.tuple #[.int .i64 (spawnR N L a c).1.1, .int .i64 (spawnR N L a c).1.2])) (L' := (spawnR N L a c).2) (fun hG => good_spawnR hG a c) (fun w Y hT hG => rpSpawn_any hT hG a c) h)
    obtain ⟨LL, hLL⟩ : ∃ LL, (spawnR N L a c).2 = LL := ⟨_, rfl⟩
    rw [hLL] at cP cR
    obtain ⟨r1, hr1⟩ : ∃ r, (spawnR N L a c).1.1 = r := ⟨_, rfl⟩
    obtain ⟨r2, hr2⟩ : ∃ r, (spawnR N L a c).1.2 = r := ⟨_, rfl⟩
    rw [hr1, hr2] at cP cR
    go_enter Try.func13, Try.ntmps13
    go_wp2_with fail
    refine (cP.out _ hJ0.out).mono ?_
    rintro e w1 ⟨rfl, hJ1, hz1⟩
    have hx1 : Blk w1 xg 33 [.int .i64 kd, .int .i64 a, .int .i64 c] := (hz1 xg (.inr rfl)).trans hx0.out
    have q1 := hx1.cell (j := 1) rfl
    have q2 := hx1.cell (j := 2) rfl
    replace hJ1 := W_hid hJ1
    replace hz1 := W_hid hz1
    replace hx1 := W_hid hx1
    go_wp2_with fail
    refine (cR.out _ hJ1.out).mono ?_
    rintro e w2 ⟨rfl, hJ2, hz2⟩
    replace hJ2 := W_hid hJ2
    replace hz2 := W_hid hz2
    go_wp2_with fail
    go_ret
    exact ⟨rfl, LL, hJ2.out.less fun k hk => hk.elim⟩

  · have cP := W_hid (fun w (h : J b w0 tb rb N L L (fun k => False ∨ k = xg) w) => J.callP (f := 20) (args := #[.pointer (some ⟨tb, 0, none⟩), .int .i64 a, .int .i64 c]) (r := .returned (.int .i64 (exitR L a c).1)) (L' := (exitR L a c).2) (fun hG => good_exitR hG a c) (fun w X hT hG => Exit_any hT hG a c ha) h)
    have cR := W_hid (fun w (h : J b w0 tb rb N ((exitR L a c).2) L (fun k => False ∨ k = xg) w) => J.callD (f := 25) (args := #[.pointer (some ⟨rb, 0, none⟩), .int .i64 a, .int .i64 c]) (r := .returned (.int .i64 (exitR L a c).1)) (L' := (exitR L a c).2) (fun hG => good_exitR hG a c) (fun w Y hT hG => rpExit_any hT hG a c) h)
    obtain ⟨LL, hLL⟩ : ∃ LL, (exitR L a c).2 = LL := ⟨_, rfl⟩
    rw [hLL] at cP cR
    obtain ⟨r1, hr1⟩ : ∃ r, (exitR L a c).1 = r := ⟨_, rfl⟩
    rw [hr1] at cP cR
    go_enter Try.func13, Try.ntmps13
    go_wp2_with fail
    refine wp_region_held_drew (S := (fun w' => Blk w' xg 33 [.int .i64 kd, .int .i64 a, .int .i64 c])) (by kernel_rfl) hx0.out (fun hHeld => ?_)
    refine wpAnyH_take (i := 0) (v := .pointer (some ⟨tb, 0, none⟩)) rfl (by kernel_rfl) (by kernel_rfl) (by kernel_rfl) (fun _ _ _ h => h) (Or.inl ⟨by rfl, fun w0 s1 => ?_⟩) hHeld ?_
    · go_simp
    try simp only [Act.put, List.setIfInBounds_toArray, List.set_cons_zero, List.set_cons_succ, List.getElem_toArray, List.getElem_cons_zero, List.getElem_cons_succ]
    refine wpAnyH_take (i := 1) (v := .pointer (some ⟨xg, 1, none⟩)) rfl (by kernel_rfl) (by kernel_rfl) (by kernel_rfl) (fun _ _ _ h => h) (Or.inl ⟨by rfl, fun w0 s1 => ?_⟩) hHeld ?_
    · go_simp
    try simp only [Act.put, List.setIfInBounds_toArray, List.set_cons_zero, List.set_cons_succ, List.getElem_toArray, List.getElem_cons_zero, List.getElem_cons_succ]
    refine wpAnyH_take (i := 2) (v := .int .i64 a) rfl (by kernel_rfl) (by kernel_rfl) (by kernel_rfl) (fun _ _ _ h => h) (Or.inl ⟨by rfl, fun w0 s1 => ?_⟩) hHeld ?_
    · (have q := Blk.cell (j := 1) s1 rfl; go_simp)
    try simp only [Act.put, List.setIfInBounds_toArray, List.set_cons_zero, List.set_cons_succ, List.getElem_toArray, List.getElem_cons_zero, List.getElem_cons_succ]
    refine wpAnyH_take (i := 3) (v := .pointer (some ⟨xg, 2, none⟩)) rfl (by kernel_rfl) (by kernel_rfl) (by kernel_rfl) (fun _ _ _ h => h) (Or.inl ⟨by rfl, fun w0 s1 => ?_⟩) hHeld ?_
    · go_simp
    try simp only [Act.put, List.setIfInBounds_toArray, List.set_cons_zero, List.set_cons_succ, List.getElem_toArray, List.getElem_cons_zero, List.getElem_cons_succ]
    refine wpAnyH_take (i := 4) (v := .int .i64 c) rfl (by kernel_rfl) (by kernel_rfl) (by kernel_rfl) (fun _ _ _ h => h) (Or.inl ⟨by rfl, fun w0 s1 => ?_⟩) hHeld ?_
    · (have q := Blk.cell (j := 2) s1 rfl; go_simp)
    try simp only [Act.put, List.setIfInBounds_toArray, List.set_cons_zero, List.set_cons_succ, List.getElem_toArray, List.getElem_cons_zero, List.getElem_cons_succ]
    refine wpAnyH_take (i := 6) (v := .pointer (some ⟨rb, 0, none⟩)) rfl (by kernel_rfl) (by kernel_rfl) (by kernel_rfl) (fun _ _ _ h => h) (Or.inl ⟨by rfl, fun w0 s1 => ?_⟩) hHeld ?_
    · go_simp
    try simp only [Act.put, List.setIfInBounds_toArray, List.set_cons_zero, List.set_cons_succ, List.getElem_toArray, List.getElem_cons_zero, List.getElem_cons_succ]
    refine wpAnyH_take (i := 7) (v := .pointer (some ⟨xg, 1, none⟩)) rfl (by kernel_rfl) (by kernel_rfl) (by kernel_rfl) (fun _ _ _ h => h) (Or.inl ⟨by rfl, fun w0 s1 => ?_⟩) hHeld ?_
    · go_simp
    try simp only [Act.put, List.setIfInBounds_toArray, List.set_cons_zero, List.set_cons_succ, List.getElem_toArray, List.getElem_cons_zero, List.getElem_cons_succ]
    refine wpAnyH_take (i := 8) (v := .int .i64 a) rfl (by kernel_rfl) (by kernel_rfl) (by kernel_rfl) (fun _ _ _ h => h) (Or.inl ⟨by rfl, fun w0 s1 => ?_⟩) hHeld ?_
    · (have q := Blk.cell (j := 1) s1 rfl; go_simp)
    try simp only [Act.put, List.setIfInBounds_toArray, List.set_cons_zero, List.set_cons_succ, List.getElem_toArray, List.getElem_cons_zero, List.getElem_cons_succ]
    refine wpAnyH_take (i := 9) (v := .pointer (some ⟨xg, 2, none⟩)) rfl (by kernel_rfl) (by kernel_rfl) (by kernel_rfl) (fun _ _ _ h => h) (Or.inl ⟨by rfl, fun w0 s1 => ?_⟩) hHeld ?_
    · go_simp
    try simp only [Act.put, List.setIfInBounds_toArray, List.set_cons_zero, List.set_cons_succ, List.getElem_toArray, List.getElem_cons_zero, List.getElem_cons_succ]
    refine wpAnyH_take (i := 10) (v := .int .i64 c) rfl (by kernel_rfl) (by kernel_rfl) (by kernel_rfl) (fun _ _ _ h => h) (Or.inl ⟨by rfl, fun w0 s1 => ?_⟩) hHeld ?_
    · (have q := Blk.cell (j := 2) s1 rfl; go_simp)
    try simp only [Act.put, List.setIfInBounds_toArray, List.set_cons_zero, List.set_cons_succ, List.getElem_toArray, List.getElem_cons_zero, List.getElem_cons_succ]
    refine wpAnyH_ready (rs := [5]) (by kernel_rfl) (by simp) ?_
    refine AllReadyH.cons rfl (fun K hK => ?_) AllReadyH.nil
    go_simp
    refine (cP.out _ (hJ0.out.keep (pdrew_keep 1)).1).mono ?_
    rintro e w1 ⟨rfl, hJ1, hz1⟩
    have hx1 : Blk w1 xg 33 [.int .i64 kd, .int .i64 a, .int .i64 c] := (hz1 xg (.inr rfl)).trans hx0.out
    replace hJ1 := W_hid hJ1
    replace hz1 := W_hid hz1
    refine hK.out _ _ hx1 (fun hHeld1 => ?_)
    clear hK K
    try simp only [Act.put, List.setIfInBounds_toArray, List.set_cons_zero, List.set_cons_succ, List.getElem_toArray, List.getElem_cons_zero, List.getElem_cons_succ]
    refine wpAnyH_ready (rs := [11]) (by kernel_rfl) (by simp) ?_
    refine AllReadyH.cons rfl (fun K hK => ?_) AllReadyH.nil
    go_simp
    refine (cR.out _ hJ1.out).mono ?_
    rintro e w2 ⟨rfl, hJ2, hz2⟩
    have hx2 : Blk w2 xg 33 [.int .i64 kd, .int .i64 a, .int .i64 c] := (hz2 xg (.inr rfl)).trans hx1
    replace hJ2 := W_hid hJ2
    replace hz2 := W_hid hz2
    refine hK.out _ _ hx2 (fun hHeld2 => ?_)
    clear hK K
    try simp only [Act.put, List.setIfInBounds_toArray, List.set_cons_zero, List.set_cons_succ, List.getElem_toArray, List.getElem_cons_zero, List.getElem_cons_succ]
    refine wpAnyH_take (i := 12) (v := .bool true) rfl (by kernel_rfl) (by kernel_rfl) (by kernel_rfl) (fun _ _ _ h => h) (Or.inl ⟨by rfl, fun w0 s1 => ?_⟩) hHeld2 ?_
    · go_simp
    try simp only [Act.put, List.setIfInBounds_toArray, List.set_cons_zero, List.set_cons_succ, List.getElem_toArray, List.getElem_cons_zero, List.getElem_cons_succ]
    refine wpAnyH_take (i := 13) (v := .bool true) rfl (by kernel_rfl) (by kernel_rfl) (by kernel_rfl) (fun _ _ _ h => h) (Or.inl ⟨by rfl, fun w0 s1 => ?_⟩) hHeld2 ?_
    · go_simp
    try simp only [Act.put, List.setIfInBounds_toArray, List.set_cons_zero, List.set_cons_succ, List.getElem_toArray, List.getElem_cons_zero, List.getElem_cons_succ]
    refine wpAnyH_done (by kernel_rfl) ?_ _
    go_wp2_with fail
    go_ret
    exact ⟨rfl, LL, hJ2.out.less fun k hk => hk.elim⟩

  · have cP := W_hid (fun w (h : J b w0 tb rb N L L (fun k => False ∨ k = xg) w) => J.callP (f := 19) (args := #[.pointer (some ⟨tb, 0, none⟩), .int .i64 a, .int .i64 c]) (r := .returned (.tuple #[.agg (prow (waitR L a c).1.1).toArray, .int .i64 (waitR L a c).1.2])) (L' := (waitR L a c).2) (fun hG => good_waitR hG a c) (fun w X hT hG => Wait_any hT hG a c ha) h)
    have cR := W_hid (fun w zz (h : J b w0 tb rb N ((waitR L a c).2) L (fun k => (False ∨ k = xg) ∨ k = zz) w) => J.callD (f := 26) (args := #[.pointer (some ⟨rb, 0, none⟩), .int .i64 a, .int .i64 c]) (r := .returned (.tuple #[.agg (prow (waitR L a c).1.1).toArray, .int .i64 (waitR L a c).1.2])) (L' := (waitR L a c).2) (fun hG => good_waitR hG a c) (fun w Y hT hG => rpWait_any hT hG a c) h)
    obtain ⟨LL, hLL⟩ : ∃ LL, (waitR L a c).2 = LL := ⟨_, rfl⟩
    obtain ⟨r2, hr2⟩ : ∃ r, (waitR L a c).1.2 = r := ⟨_, rfl⟩
    rw [hLL, hr2] at cP cR
    obtain ⟨⟨xa, xb, xc, xd, xe⟩, hx⟩ : ∃ x, (waitR L a c).1.1 = x := ⟨_, rfl⟩
    rw [hx] at cP cR
    simp only [prow] at cP cR
    have hq := prc_eq xa xb xc xd xe
    go_enter Try.func13, Try.ntmps13
    go_wp2_with fail
    refine (cP.out _ hJ0.out).mono ?_
    rintro e w1 ⟨rfl, hJ1, hz1⟩
    have hx1 : Blk w1 xg 33 [.int .i64 kd, .int .i64 a, .int .i64 c] := (hz1 xg (.inr rfl)).trans hx0.out
    replace hJ1 := W_hid hJ1
    replace hz1 := W_hid hz1
    obtain ⟨W1, hW1⟩ : ∃ W1, w1.alloc (.cells #[.int .i64 xa, .int .i64 xb, .int .i64 xc, .int .i64 xd, .int .i64 xe] 43) = W1 := ⟨_, rfl⟩
    have hb1 : Below w1.heap.size w1 W1 := by rw [← hW1]; exact (Below.refl _ _).alloc (Nat.le_refl _) _
    have hJ1a : J b w0 tb rb N LL L (fun k => (False ∨ k = xg) ∨ k = w1.heap.size) W1 := by rw [← hW1]; exact hJ1.out.alloc _
    have hp1 : Blk W1 w1.heap.size 43 (fv xa xb xc xd xe) := by rw [← hW1]; exact Blk.new w1 43 (fv xa xb xc xd xe) rfl
    have hx1a := hx1.keep hb1
    have q1 := hx1a.cell (j := 1) rfl
    have q2 := hx1a.cell (j := 2) rfl
    replace hJ1a := W_hid hJ1a
    replace hx1a := W_hid hx1a
    replace hx1 := W_hid hx1
    replace hb1 := W_hid hb1
    replace hp1 := W_hid hp1
    go_wp2_with fail
    refine (cR.out _ _ hJ1a.out).mono ?_
    rintro e w2 ⟨rfl, hJ2, hz2⟩
    have hp2 : Blk w2 w1.heap.size 43 (fv xa xb xc xd xe) := (hz2 _ (.inr rfl)).trans hp1.out
    replace hJ2 := W_hid hJ2
    replace hz2 := W_hid hz2
    obtain ⟨W2, hW2⟩ : ∃ W2, w2.alloc (.cells #[.int .i64 xa, .int .i64 xb, .int .i64 xc, .int .i64 xd, .int .i64 xe] 43) = W2 := ⟨_, rfl⟩
    have hb2 : Below w2.heap.size w2 W2 := by rw [← hW2]; exact (Below.refl _ _).alloc (Nat.le_refl _) _
    have hJ2a : J b w0 tb rb N LL LL (fun k => ((False ∨ k = xg) ∨ k = w1.heap.size) ∨ k = w2.heap.size) W2 := by rw [← hW2]; exact hJ2.out.alloc _
    have hq2 : Blk W2 w2.heap.size 43 (fv xa xb xc xd xe) := by rw [← hW2]; exact Blk.new w2 43 (fv xa xb xc xd xe) rfl
    have hp2a := hp2.keep hb2
    have s0 := hp2a.cell (j := 0) rfl
    have s1 := hp2a.cell (j := 1) rfl
    have s2 := hp2a.cell (j := 2) rfl
    have s3 := hp2a.cell (j := 3) rfl
    have s4 := hp2a.cell (j := 4) rfl
    have u0 := hq2.cell (j := 0) rfl
    have u1 := hq2.cell (j := 1) rfl
    have u2 := hq2.cell (j := 2) rfl
    have u3 := hq2.cell (j := 3) rfl
    have u4 := hq2.cell (j := 4) rfl
    replace hJ2a := W_hid hJ2a
    replace hb2 := W_hid hb2
    replace hp2 := W_hid hp2
    replace hp2a := W_hid hp2a
    replace hq2 := W_hid hq2
    go_wp2_with fail
    go_ret
    exact ⟨rfl, LL, hJ2a.out.less fun k hk => hk.elim⟩

  · have cP := W_hid (fun w (h : J b w0 tb rb N L L (fun k => False ∨ k = xg) w) => J.callP (f := 21) (args := #[.pointer (some ⟨tb, 0, none⟩), .int .i64 a]) (r := .returned (.int .i64 (undoR L a).1)) (L' := (undoR L a).2) (fun hG => good_undoR hG a) (fun w X hT hG => Undo_any hT hG a ha) h)
    have cR := W_hid (fun w (h : J b w0 tb rb N ((undoR L a).2) L (fun k => False ∨ k = xg) w) => J.callD (f := 27) (args := #[.pointer (some ⟨rb, 0, none⟩), .int .i64 a]) (r := .returned (.int .i64 (undoR L a).1)) (L' := (undoR L a).2) (fun hG => good_undoR hG a) (fun w Y hT hG => rpUndo_any hT hG a) h)
    obtain ⟨LL, hLL⟩ : ∃ LL, (undoR L a).2 = LL := ⟨_, rfl⟩
    rw [hLL] at cP cR
    obtain ⟨r1, hr1⟩ : ∃ r, (undoR L a).1 = r := ⟨_, rfl⟩
    rw [hr1] at cP cR
    go_enter Try.func13, Try.ntmps13
    go_wp2_with fail
    refine wp_region_held_drew (S := (fun w' => Blk w' xg 33 [.int .i64 kd, .int .i64 a, .int .i64 c])) (by kernel_rfl) hx0.out (fun hHeld => ?_)
    refine wpAnyH_take (i := 0) (v := .pointer (some ⟨tb, 0, none⟩)) rfl (by kernel_rfl) (by kernel_rfl) (by kernel_rfl) (fun _ _ _ h => h) (Or.inl ⟨by rfl, fun w0 s1 => ?_⟩) hHeld ?_
    · go_simp
    try simp only [Act.put, List.setIfInBounds_toArray, List.set_cons_zero, List.set_cons_succ, List.getElem_toArray, List.getElem_cons_zero, List.getElem_cons_succ]
    refine wpAnyH_take (i := 1) (v := .pointer (some ⟨xg, 1, none⟩)) rfl (by kernel_rfl) (by kernel_rfl) (by kernel_rfl) (fun _ _ _ h => h) (Or.inl ⟨by rfl, fun w0 s1 => ?_⟩) hHeld ?_
    · go_simp
    try simp only [Act.put, List.setIfInBounds_toArray, List.set_cons_zero, List.set_cons_succ, List.getElem_toArray, List.getElem_cons_zero, List.getElem_cons_succ]
    refine wpAnyH_take (i := 2) (v := .int .i64 a) rfl (by kernel_rfl) (by kernel_rfl) (by kernel_rfl) (fun _ _ _ h => h) (Or.inl ⟨by rfl, fun w0 s1 => ?_⟩) hHeld ?_
    · (have q := Blk.cell (j := 1) s1 rfl; go_simp)
    try simp only [Act.put, List.setIfInBounds_toArray, List.set_cons_zero, List.set_cons_succ, List.getElem_toArray, List.getElem_cons_zero, List.getElem_cons_succ]
    refine wpAnyH_take (i := 4) (v := .pointer (some ⟨rb, 0, none⟩)) rfl (by kernel_rfl) (by kernel_rfl) (by kernel_rfl) (fun _ _ _ h => h) (Or.inl ⟨by rfl, fun w0 s1 => ?_⟩) hHeld ?_
    · go_simp
    try simp only [Act.put, List.setIfInBounds_toArray, List.set_cons_zero, List.set_cons_succ, List.getElem_toArray, List.getElem_cons_zero, List.getElem_cons_succ]
    refine wpAnyH_take (i := 5) (v := .pointer (some ⟨xg, 1, none⟩)) rfl (by kernel_rfl) (by kernel_rfl) (by kernel_rfl) (fun _ _ _ h => h) (Or.inl ⟨by rfl, fun w0 s1 => ?_⟩) hHeld ?_
    · go_simp
    try simp only [Act.put, List.setIfInBounds_toArray, List.set_cons_zero, List.set_cons_succ, List.getElem_toArray, List.getElem_cons_zero, List.getElem_cons_succ]
    refine wpAnyH_take (i := 6) (v := .int .i64 a) rfl (by kernel_rfl) (by kernel_rfl) (by kernel_rfl) (fun _ _ _ h => h) (Or.inl ⟨by rfl, fun w0 s1 => ?_⟩) hHeld ?_
    · (have q := Blk.cell (j := 1) s1 rfl; go_simp)
    try simp only [Act.put, List.setIfInBounds_toArray, List.set_cons_zero, List.set_cons_succ, List.getElem_toArray, List.getElem_cons_zero, List.getElem_cons_succ]
    refine wpAnyH_ready (rs := [3]) (by kernel_rfl) (by simp) ?_
    refine AllReadyH.cons rfl (fun K hK => ?_) AllReadyH.nil
    go_simp
    refine (cP.out _ (hJ0.out.keep (pdrew_keep 1)).1).mono ?_
    rintro e w1 ⟨rfl, hJ1, hz1⟩
    have hx1 : Blk w1 xg 33 [.int .i64 kd, .int .i64 a, .int .i64 c] := (hz1 xg (.inr rfl)).trans hx0.out
    replace hJ1 := W_hid hJ1
    replace hz1 := W_hid hz1
    refine hK.out _ _ hx1 (fun hHeld1 => ?_)
    clear hK K
    try simp only [Act.put, List.setIfInBounds_toArray, List.set_cons_zero, List.set_cons_succ, List.getElem_toArray, List.getElem_cons_zero, List.getElem_cons_succ]
    refine wpAnyH_ready (rs := [7]) (by kernel_rfl) (by simp) ?_
    refine AllReadyH.cons rfl (fun K hK => ?_) AllReadyH.nil
    go_simp
    refine (cR.out _ hJ1.out).mono ?_
    rintro e w2 ⟨rfl, hJ2, hz2⟩
    have hx2 : Blk w2 xg 33 [.int .i64 kd, .int .i64 a, .int .i64 c] := (hz2 xg (.inr rfl)).trans hx1
    replace hJ2 := W_hid hJ2
    replace hz2 := W_hid hz2
    refine hK.out _ _ hx2 (fun hHeld2 => ?_)
    clear hK K
    try simp only [Act.put, List.setIfInBounds_toArray, List.set_cons_zero, List.set_cons_succ, List.getElem_toArray, List.getElem_cons_zero, List.getElem_cons_succ]
    refine wpAnyH_take (i := 8) (v := .bool true) rfl (by kernel_rfl) (by kernel_rfl) (by kernel_rfl) (fun _ _ _ h => h) (Or.inl ⟨by rfl, fun w0 s1 => ?_⟩) hHeld2 ?_
    · go_simp
    try simp only [Act.put, List.setIfInBounds_toArray, List.set_cons_zero, List.set_cons_succ, List.getElem_toArray, List.getElem_cons_zero, List.getElem_cons_succ]
    refine wpAnyH_take (i := 9) (v := .bool true) rfl (by kernel_rfl) (by kernel_rfl) (by kernel_rfl) (fun _ _ _ h => h) (Or.inl ⟨by rfl, fun w0 s1 => ?_⟩) hHeld2 ?_
    · go_simp
    try simp only [Act.put, List.setIfInBounds_toArray, List.set_cons_zero, List.set_cons_succ, List.getElem_toArray, List.getElem_cons_zero, List.getElem_cons_succ]
    refine wpAnyH_done (by kernel_rfl) ?_ _
    go_wp2_with fail
    go_ret
    exact ⟨rfl, LL, hJ2.out.less fun k hk => hk.elim⟩

  · have cP := W_hid (fun w (h : J b w0 tb rb N L L (fun k => False ∨ k = xg) w) => J.callP (f := 22) (args := #[.pointer (some ⟨tb, 0, none⟩), .int .i64 a, .int .i64 c]) (r := .returned (.int .i64 (niceR L a c).1)) (L' := (niceR L a c).2) (fun hG => good_niceR hG a c) (fun w X hT hG => Nice_any hT a c ha) h)
    have cR := W_hid (fun w (h : J b w0 tb rb N ((niceR L a c).2) L (fun k => False ∨ k = xg) w) => J.callD (f := 28) (args := #[.pointer (some ⟨rb, 0, none⟩), .int .i64 a, .int .i64 c]) (r := .returned (.int .i64 (niceR L a c).1)) (L' := (niceR L a c).2) (fun hG => good_niceR hG a c) (fun w Y hT hG => rpNice_any hT hG a c) h)
    obtain ⟨LL, hLL⟩ : ∃ LL, (niceR L a c).2 = LL := ⟨_, rfl⟩
    rw [hLL] at cP cR
    obtain ⟨r1, hr1⟩ : ∃ r, (niceR L a c).1 = r := ⟨_, rfl⟩
    rw [hr1] at cP cR
    go_enter Try.func13, Try.ntmps13
    go_wp2_with fail
    refine wp_region_held_drew (S := (fun w' => Blk w' xg 33 [.int .i64 kd, .int .i64 a, .int .i64 c])) (by kernel_rfl) hx0.out (fun hHeld => ?_)
    refine wpAnyH_take (i := 0) (v := .pointer (some ⟨tb, 0, none⟩)) rfl (by kernel_rfl) (by kernel_rfl) (by kernel_rfl) (fun _ _ _ h => h) (Or.inl ⟨by rfl, fun w0 s1 => ?_⟩) hHeld ?_
    · go_simp
    try simp only [Act.put, List.setIfInBounds_toArray, List.set_cons_zero, List.set_cons_succ, List.getElem_toArray, List.getElem_cons_zero, List.getElem_cons_succ]
    refine wpAnyH_take (i := 1) (v := .pointer (some ⟨xg, 1, none⟩)) rfl (by kernel_rfl) (by kernel_rfl) (by kernel_rfl) (fun _ _ _ h => h) (Or.inl ⟨by rfl, fun w0 s1 => ?_⟩) hHeld ?_
    · go_simp
    try simp only [Act.put, List.setIfInBounds_toArray, List.set_cons_zero, List.set_cons_succ, List.getElem_toArray, List.getElem_cons_zero, List.getElem_cons_succ]
    refine wpAnyH_take (i := 2) (v := .int .i64 a) rfl (by kernel_rfl) (by kernel_rfl) (by kernel_rfl) (fun _ _ _ h => h) (Or.inl ⟨by rfl, fun w0 s1 => ?_⟩) hHeld ?_
    · (have q := Blk.cell (j := 1) s1 rfl; go_simp)
    try simp only [Act.put, List.setIfInBounds_toArray, List.set_cons_zero, List.set_cons_succ, List.getElem_toArray, List.getElem_cons_zero, List.getElem_cons_succ]
    refine wpAnyH_take (i := 3) (v := .pointer (some ⟨xg, 2, none⟩)) rfl (by kernel_rfl) (by kernel_rfl) (by kernel_rfl) (fun _ _ _ h => h) (Or.inl ⟨by rfl, fun w0 s1 => ?_⟩) hHeld ?_
    · go_simp
    try simp only [Act.put, List.setIfInBounds_toArray, List.set_cons_zero, List.set_cons_succ, List.getElem_toArray, List.getElem_cons_zero, List.getElem_cons_succ]
    refine wpAnyH_take (i := 4) (v := .int .i64 c) rfl (by kernel_rfl) (by kernel_rfl) (by kernel_rfl) (fun _ _ _ h => h) (Or.inl ⟨by rfl, fun w0 s1 => ?_⟩) hHeld ?_
    · (have q := Blk.cell (j := 2) s1 rfl; go_simp)
    try simp only [Act.put, List.setIfInBounds_toArray, List.set_cons_zero, List.set_cons_succ, List.getElem_toArray, List.getElem_cons_zero, List.getElem_cons_succ]
    refine wpAnyH_take (i := 6) (v := .pointer (some ⟨rb, 0, none⟩)) rfl (by kernel_rfl) (by kernel_rfl) (by kernel_rfl) (fun _ _ _ h => h) (Or.inl ⟨by rfl, fun w0 s1 => ?_⟩) hHeld ?_
    · go_simp
    try simp only [Act.put, List.setIfInBounds_toArray, List.set_cons_zero, List.set_cons_succ, List.getElem_toArray, List.getElem_cons_zero, List.getElem_cons_succ]
    refine wpAnyH_take (i := 7) (v := .pointer (some ⟨xg, 1, none⟩)) rfl (by kernel_rfl) (by kernel_rfl) (by kernel_rfl) (fun _ _ _ h => h) (Or.inl ⟨by rfl, fun w0 s1 => ?_⟩) hHeld ?_
    · go_simp
    try simp only [Act.put, List.setIfInBounds_toArray, List.set_cons_zero, List.set_cons_succ, List.getElem_toArray, List.getElem_cons_zero, List.getElem_cons_succ]
    refine wpAnyH_take (i := 8) (v := .int .i64 a) rfl (by kernel_rfl) (by kernel_rfl) (by kernel_rfl) (fun _ _ _ h => h) (Or.inl ⟨by rfl, fun w0 s1 => ?_⟩) hHeld ?_
    · (have q := Blk.cell (j := 1) s1 rfl; go_simp)
    try simp only [Act.put, List.setIfInBounds_toArray, List.set_cons_zero, List.set_cons_succ, List.getElem_toArray, List.getElem_cons_zero, List.getElem_cons_succ]
    refine wpAnyH_take (i := 9) (v := .pointer (some ⟨xg, 2, none⟩)) rfl (by kernel_rfl) (by kernel_rfl) (by kernel_rfl) (fun _ _ _ h => h) (Or.inl ⟨by rfl, fun w0 s1 => ?_⟩) hHeld ?_
    · go_simp
    try simp only [Act.put, List.setIfInBounds_toArray, List.set_cons_zero, List.set_cons_succ, List.getElem_toArray, List.getElem_cons_zero, List.getElem_cons_succ]
    refine wpAnyH_take (i := 10) (v := .int .i64 c) rfl (by kernel_rfl) (by kernel_rfl) (by kernel_rfl) (fun _ _ _ h => h) (Or.inl ⟨by rfl, fun w0 s1 => ?_⟩) hHeld ?_
    · (have q := Blk.cell (j := 2) s1 rfl; go_simp)
    try simp only [Act.put, List.setIfInBounds_toArray, List.set_cons_zero, List.set_cons_succ, List.getElem_toArray, List.getElem_cons_zero, List.getElem_cons_succ]
    refine wpAnyH_ready (rs := [5]) (by kernel_rfl) (by simp) ?_
    refine AllReadyH.cons rfl (fun K hK => ?_) AllReadyH.nil
    go_simp
    refine (cP.out _ (hJ0.out.keep (pdrew_keep 1)).1).mono ?_
    rintro e w1 ⟨rfl, hJ1, hz1⟩
    have hx1 : Blk w1 xg 33 [.int .i64 kd, .int .i64 a, .int .i64 c] := (hz1 xg (.inr rfl)).trans hx0.out
    replace hJ1 := W_hid hJ1
    replace hz1 := W_hid hz1
    refine hK.out _ _ hx1 (fun hHeld1 => ?_)
    clear hK K
    try simp only [Act.put, List.setIfInBounds_toArray, List.set_cons_zero, List.set_cons_succ, List.getElem_toArray, List.getElem_cons_zero, List.getElem_cons_succ]
    refine wpAnyH_ready (rs := [11]) (by kernel_rfl) (by simp) ?_
    refine AllReadyH.cons rfl (fun K hK => ?_) AllReadyH.nil
    go_simp
    refine (cR.out _ hJ1.out).mono ?_
    rintro e w2 ⟨rfl, hJ2, hz2⟩
    have hx2 : Blk w2 xg 33 [.int .i64 kd, .int .i64 a, .int .i64 c] := (hz2 xg (.inr rfl)).trans hx1
    replace hJ2 := W_hid hJ2
    replace hz2 := W_hid hz2
    refine hK.out _ _ hx2 (fun hHeld2 => ?_)
    clear hK K
    try simp only [Act.put, List.setIfInBounds_toArray, List.set_cons_zero, List.set_cons_succ, List.getElem_toArray, List.getElem_cons_zero, List.getElem_cons_succ]
    refine wpAnyH_take (i := 12) (v := .bool true) rfl (by kernel_rfl) (by kernel_rfl) (by kernel_rfl) (fun _ _ _ h => h) (Or.inl ⟨by rfl, fun w0 s1 => ?_⟩) hHeld2 ?_
    · go_simp
    try simp only [Act.put, List.setIfInBounds_toArray, List.set_cons_zero, List.set_cons_succ, List.getElem_toArray, List.getElem_cons_zero, List.getElem_cons_succ]
    refine wpAnyH_take (i := 13) (v := .bool true) rfl (by kernel_rfl) (by kernel_rfl) (by kernel_rfl) (fun _ _ _ h => h) (Or.inl ⟨by rfl, fun w0 s1 => ?_⟩) hHeld2 ?_
    · go_simp
    try simp only [Act.put, List.setIfInBounds_toArray, List.set_cons_zero, List.set_cons_succ, List.getElem_toArray, List.getElem_cons_zero, List.getElem_cons_succ]
    refine wpAnyH_done (by kernel_rfl) ?_ _
    go_wp2_with fail
    go_ret
    exact ⟨rfl, LL, hJ2.out.less fun k hk => hk.elim⟩

  · have cP := W_hid (fun w (h : J b w0 tb rb N L L (fun k => False ∨ k = xg) w) => J.callP (f := 17) (args := #[.pointer (some ⟨tb, 0, none⟩), .int .i64 a]) (r := .returned (.tuple #[.agg (prow (getR L a).1).toArray, .bool (getR L a).2])) (L' := L) (fun hG => hG) (fun w X hT hG => (Get_any hT a ha).mono fun e w2 ⟨h1, h2⟩ => ⟨h1, hT.same h2⟩) h)
    have cR := W_hid (fun w zz (h : J b w0 tb rb N (L) L (fun k => (False ∨ k = xg) ∨ k = zz) w) => J.callD (f := 29) (args := #[.pointer (some ⟨rb, 0, none⟩), .int .i64 a]) (r := .returned (.tuple #[.agg (prow (getR L a).1).toArray, .bool (getR L a).2])) (L' := L) (fun hG => hG) (fun w Y hT hG => (rpGet_any hT a hlen).mono fun e w2 ⟨h1, h2⟩ => ⟨h1, hT.same h2⟩) h)
    obtain ⟨r2, hr2⟩ : ∃ r, (getR L a).2 = r := ⟨_, rfl⟩
    rw [hr2] at cP cR
    obtain ⟨⟨xa, xb, xc, xd, xe⟩, hx⟩ : ∃ x, (getR L a).1 = x := ⟨_, rfl⟩
    rw [hx] at cP cR
    simp only [prow] at cP cR
    have hq := prc_eq xa xb xc xd xe
    have hbb : (r2 == r2) = true := by simp
    go_enter Try.func13, Try.ntmps13
    go_wp2_with fail
    refine (cP.out _ hJ0.out).mono ?_
    rintro e w1 ⟨rfl, hJ1, hz1⟩
    have hx1 : Blk w1 xg 33 [.int .i64 kd, .int .i64 a, .int .i64 c] := (hz1 xg (.inr rfl)).trans hx0.out
    replace hJ1 := W_hid hJ1
    replace hz1 := W_hid hz1
    obtain ⟨W1, hW1⟩ : ∃ W1, w1.alloc (.cells #[.int .i64 xa, .int .i64 xb, .int .i64 xc, .int .i64 xd, .int .i64 xe] 43) = W1 := ⟨_, rfl⟩
    have hb1 : Below w1.heap.size w1 W1 := by rw [← hW1]; exact (Below.refl _ _).alloc (Nat.le_refl _) _
    have hJ1a : J b w0 tb rb N L L (fun k => (False ∨ k = xg) ∨ k = w1.heap.size) W1 := by rw [← hW1]; exact hJ1.out.alloc _
    have hp1 : Blk W1 w1.heap.size 43 (fv xa xb xc xd xe) := by rw [← hW1]; exact Blk.new w1 43 (fv xa xb xc xd xe) rfl
    have hx1a := hx1.keep hb1
    have q1 := hx1a.cell (j := 1) rfl
    replace hJ1a := W_hid hJ1a
    replace hx1a := W_hid hx1a
    replace hx1 := W_hid hx1
    replace hb1 := W_hid hb1
    replace hp1 := W_hid hp1
    go_wp2_with fail
    refine (cR.out _ _ hJ1a.out).mono ?_
    rintro e w2 ⟨rfl, hJ2, hz2⟩
    have hp2 : Blk w2 w1.heap.size 43 (fv xa xb xc xd xe) := (hz2 _ (.inr rfl)).trans hp1.out
    replace hJ2 := W_hid hJ2
    replace hz2 := W_hid hz2
    obtain ⟨W2, hW2⟩ : ∃ W2, w2.alloc (.cells #[.int .i64 xa, .int .i64 xb, .int .i64 xc, .int .i64 xd, .int .i64 xe] 43) = W2 := ⟨_, rfl⟩
    have hb2 : Below w2.heap.size w2 W2 := by rw [← hW2]; exact (Below.refl _ _).alloc (Nat.le_refl _) _
    have hJ2a : J b w0 tb rb N L L (fun k => ((False ∨ k = xg) ∨ k = w1.heap.size) ∨ k = w2.heap.size) W2 := by rw [← hW2]; exact hJ2.out.alloc _
    have hq2 : Blk W2 w2.heap.size 43 (fv xa xb xc xd xe) := by rw [← hW2]; exact Blk.new w2 43 (fv xa xb xc xd xe) rfl
    have hp2a := hp2.keep hb2
    have s0 := hp2a.cell (j := 0) rfl
    have s1 := hp2a.cell (j := 1) rfl
    have s2 := hp2a.cell (j := 2) rfl
    have s3 := hp2a.cell (j := 3) rfl
    have s4 := hp2a.cell (j := 4) rfl
    have u0 := hq2.cell (j := 0) rfl
    have u1 := hq2.cell (j := 1) rfl
    have u2 := hq2.cell (j := 2) rfl
    have u3 := hq2.cell (j := 3) rfl
    have u4 := hq2.cell (j := 4) rfl
    replace hJ2a := W_hid hJ2a
    replace hb2 := W_hid hb2
    replace hp2 := W_hid hp2
    replace hp2a := W_hid hp2a
    replace hq2 := W_hid hq2
    go_wp2_with fail
    go_ret
    exact ⟨rfl, L, hJ2a.out.less fun k hk => hk.elim⟩


end PC
end Go.Proofs.Ytahcpimpmedbiaa

/- Layer 15: does: a call, by both queues. -/
import Derived.Test.YtmikgkelmdgckaaSchBoth
import Derived.Deep.RegionHeld3
import Derived.OrdersHeld
namespace Go.Proofs.Ytmikgkelmdgckaa
open Go.ChangeShapes Go.WideShapes Go.ChangeAt Go.RowKit
set_option linter.unusedVariables false
set_option linter.unusedSimpArgs false
set_option maxRecDepth 100000
namespace SD
open IN (Keeps lt_of_some)
open FM (one)
theorem pdrew_keep {w : World} (n : Nat) : Below w.heap.size w (w.drewN n) := ⟨rfl, rfl, rfl, Nat.le_refl _, fun _ _ => rfl⟩

set_option maxRecDepth 100000 in
set_option maxHeartbeats 16000000 in
theorem does15 (b : Nat) (w0 : World) (qb rb c : Nat) (S : Qs) (kd a n : Int) (x : Nat) (w : World) (hJ : J b w0 qb rb c S S (fun _ => False) w) (hc : c ≤ 899) (ha : a ≤ 9223372036854775807) (hx : x < 18446744073709551616) :
    Calls Try.prog 12 #[ptr qb, ptr rb, .agg #[.int .i64 kd, .int .i64 a, .int .i64 n, .int .u64 (x : Int)]] w fun e w' => e = .returned (.bool true) ∧ ∃ S', J b w0 qb rb (c + 1) S' S' (fun _ => False) w' := by
  obtain ⟨xg, hxg⟩ : ∃ xg, w.heap.size = xg := ⟨_, rfl⟩
  obtain ⟨W0, hW0⟩ : ∃ W0, w.alloc (.cells #[.int .i64 kd, .int .i64 a, .int .i64 n, .int .u64 (x : Int)] 47) = W0 := ⟨_, rfl⟩
  have hJ0 : J b w0 qb rb c S S (fun k => False ∨ k = xg) W0 := by rw [← hW0, ← hxg]; exact hJ.alloc _
  have hx0 : Blk W0 xg 47 [.int .i64 kd, .int .i64 a, .int .i64 n, .int .u64 (x : Int)] := by rw [← hW0]; exact Blk.new w 47 [.int .i64 kd, .int .i64 a, .int .i64 n, .int .u64 (x : Int)] hxg.symm
  obtain ⟨hcs, hk1, hk2⟩ := kind9 kd
  have hcc : c ≤ c + 1 := Nat.le_succ c
  have y0 := hx0.cell (j := 0) rfl
  have y1 := hx0.cell (j := 1) rfl
  have y2 := hx0.cell (j := 2) rfl
  have y3 := hx0.cell (j := 3) rfl
  have hlo : Hid (∀ p, (loadR S p).1 < 18446744073709551616) := W_hid fun p => by have := loadR_le hJ.good p; unfold one at this; omega
  have hJ0 := W_hid hJ0
  have hx0 := W_hid hx0
  clear hJ
  obtain ⟨tm, htm⟩ : ∃ tm, kd.tmod 9 = tm := ⟨_, rfl⟩
  rw [htm] at hcs hk1 hk2
  have hwt : IntKind.i64.wrap (tm + 9) = tm + 9 := IntWalk.i64_in _ (by omega)
  rcases hcs with e0 | e0 | e0 | e0 | e0 | e0 | e0 | e0 | e0
  · have cP := W_hid (fun w (h : J b w0 qb rb c S S (fun k => False ∨ k = xg) w) => J.callP (f := 10) (args := #[ptr qb, .int .i64 a, .int .i64 n]) (r := .returned (.int .i64 (addR S a n).1)) (S' := (addR S a n).2) (c' := c + 1) hcc (fun hG => good_addR hG a n ha) (fun X hT hG => Add_any hT hG (by omega) a n) h)
    have cR := W_hid (fun w (h : J b w0 qb rb (c + 1) (addR S a n).2 S (fun k => False ∨ k = xg) w) => J.callE (f := 26) (args := #[ptr rb, .int .i64 a, .int .i64 n]) (r := .returned (.int .i64 (addR S a n).1)) (fun Y hT hG => rAdd_any hT hG (by omega) a n) h)
    obtain ⟨LL, hLL⟩ : ∃ LL, (addR S a n).2 = LL := ⟨_, rfl⟩
    rw [hLL] at cP cR
    obtain ⟨r1, hr1⟩ : ∃ r, (addR S a n).1 = r := ⟨_, rfl⟩
    rw [hr1] at cP cR
    go_enter Try.func12, Try.ntmps12
    go_wp2_with fail
    refine wp_region_held_drew (S := (fun w' => Blk w' xg 47 [.int .i64 kd, .int .i64 a, .int .i64 n, .int .u64 (x : Int)])) (by kernel_rfl) hx0.out (fun hHeld => ?_)
    refine wpAnyH_take (i := 0) (v := .pointer (some ⟨qb, 0, none⟩)) rfl (by kernel_rfl) (by kernel_rfl) (by kernel_rfl) (fun _ _ _ h => h) (Or.inl ⟨by rfl, fun w0 s1 => ?_⟩) hHeld ?_
    · go_simp
    try simp only [Act.put, List.setIfInBounds_toArray, List.set_cons_zero, List.set_cons_succ, List.getElem_toArray, List.getElem_cons_zero, List.getElem_cons_succ]
    refine wpAnyH_take (i := 1) (v := .pointer (some ⟨xg, 1, none⟩)) rfl (by kernel_rfl) (by kernel_rfl) (by kernel_rfl) (fun _ _ _ h => h) (Or.inl ⟨by rfl, fun w0 s1 => ?_⟩) hHeld ?_
    · go_simp
    try simp only [Act.put, List.setIfInBounds_toArray, List.set_cons_zero, List.set_cons_succ, List.getElem_toArray, List.getElem_cons_zero, List.getElem_cons_succ]
    refine wpAnyH_take (i := 2) (v := .int .i64 a) rfl (by kernel_rfl) (by kernel_rfl) (by kernel_rfl) (fun _ _ _ h => h) (Or.inl ⟨by rfl, fun w0 s1 => ?_⟩) hHeld ?_
    · (have q := Blk.cell (j := 1) s1 rfl; go_simp)
    try simp only [Act.put, List.setIfInBounds_toArray, List.set_cons_zero, List.set_cons_succ, List.getElem_toArray, List.getElem_cons_zero, List.getElem_cons_succ]
    refine wpAnyH_take (i := 3) (v := .pointer (some ⟨xg, 2, none⟩)) rfl (by kernel_rfl) (by kernel_rfl) (by kernel_rfl) (fun _ _ _ h => h) (Or.inl ⟨by rfl, fun w0 s1 => ?_⟩) hHeld ?_
    · go_simp
    try simp only [Act.put, List.setIfInBounds_toArray, List.set_cons_zero, List.set_cons_succ, List.getElem_toArray, List.getElem_cons_zero, List.getElem_cons_succ]
    refine wpAnyH_take (i := 4) (v := .int .i64 n) rfl (by kernel_rfl) (by kernel_rfl) (by kernel_rfl) (fun _ _ _ h => h) (Or.inl ⟨by rfl, fun w0 s1 => ?_⟩) hHeld ?_
    · (have q := Blk.cell (j := 2) s1 rfl; go_simp)
    try simp only [Act.put, List.setIfInBounds_toArray, List.set_cons_zero, List.set_cons_succ, List.getElem_toArray, List.getElem_cons_zero, List.getElem_cons_succ]
    refine wpAnyH_take (i := 6) (v := .pointer (some ⟨rb, 0, none⟩)) rfl (by kernel_rfl) (by kernel_rfl) (by kernel_rfl) (fun _ _ _ h => h) (Or.inl ⟨by rfl, fun w0 s1 => ?_⟩) hHeld ?_
    · go_simp
    try simp only [Act.put, List.setIfInBounds_toArray, List.set_cons_zero, List.set_cons_succ, List.getElem_toArray, List.getElem_cons_zero, List.getElem_cons_succ]
    refine wpAnyH_take (i := 7) (v := .pointer (some ⟨xg, 1, none⟩)) rfl (by kernel_rfl) (by kernel_rfl) (by kernel_rfl) (fun _ _ _ h => h) (Or.inl ⟨by rfl, fun w0 s1 => ?_⟩) hHeld ?_
    · go_simp
    try simp only [Act.put, List.setIfInBounds_toArray, List.set_cons_zero, List.set_cons_succ, List.getElem_toArray, List.getElem_cons_zero, List.getElem_cons_succ]
    refine wpAnyH_take (i := 8) (v := .int .i64 a) rfl (by kernel_rfl) (by kernel_rfl) (by kernel_rfl) (fun _ _ _ h => h) (Or.inl ⟨by rfl, fun w0 s1 => ?_⟩) hHeld ?_
    · (have q := Blk.cell (j := 1) s1 rfl; go_simp)
    try simp only [Act.put, List.setIfInBounds_toArray, List.set_cons_zero, List.set_cons_succ, List.getElem_toArray, List.getElem_cons_zero, List.getElem_cons_succ]
    refine wpAnyH_take (i := 9) (v := .pointer (some ⟨xg, 2, none⟩)) rfl (by kernel_rfl) (by kernel_rfl) (by kernel_rfl) (fun _ _ _ h => h) (Or.inl ⟨by rfl, fun w0 s1 => ?_⟩) hHeld ?_
    · go_simp
    try simp only [Act.put, List.setIfInBounds_toArray, List.set_cons_zero, List.set_cons_succ, List.getElem_toArray, List.getElem_cons_zero, List.getElem_cons_succ]
    refine wpAnyH_take (i := 10) (v := .int .i64 n) rfl (by kernel_rfl) (by kernel_rfl) (by kernel_rfl) (fun _ _ _ h => h) (Or.inl ⟨by rfl, fun w0 s1 => ?_⟩) hHeld ?_
    · (have q := Blk.cell (j := 2) s1 rfl; go_simp)
    try simp only [Act.put, List.setIfInBounds_toArray, List.set_cons_zero, List.set_cons_succ, List.getElem_toArray, List.getElem_cons_zero, List.getElem_cons_succ]
    refine wpAnyH_ready (rs := [5]) (by kernel_rfl) (by simp) ?_
    refine AllReadyH.cons rfl (fun K hK => ?_) AllReadyH.nil
    go_simp
    refine (cP.out _ (hJ0.out.keep (pdrew_keep 1)).1).mono ?_
    rintro e w1 ⟨rfl, hJ1, hz1⟩
    have hx1 : Blk w1 xg 47 [.int .i64 kd, .int .i64 a, .int .i64 n, .int .u64 (x : Int)] := (hz1 xg (.inr rfl)).trans hx0.out
    replace hJ1 := W_hid hJ1
    replace hz1 := W_hid hz1
    refine hK.out _ _ hx1 (fun hHeld1 => ?_)
    clear hK K
    try simp only [Act.put, List.setIfInBounds_toArray, List.set_cons_zero, List.set_cons_succ, List.getElem_toArray, List.getElem_cons_zero, List.getElem_cons_succ]
    refine wpAnyH_ready (rs := [11]) (by kernel_rfl) (by simp) ?_
    refine AllReadyH.cons rfl (fun K hK => ?_) AllReadyH.nil
    go_simp
    refine (cR.out _ hJ1.out).mono ?_
    rintro e w2 ⟨rfl, hJ2, hz2⟩
    have hx2 : Blk w2 xg 47 [.int .i64 kd, .int .i64 a, .int .i64 n, .int .u64 (x : Int)] := (hz2 xg (.inr rfl)).trans hx1
    replace hJ2 := W_hid hJ2
    replace hz2 := W_hid hz2
    refine hK.out _ _ hx2 (fun hHeld2 => ?_)
    clear hK K
    try simp only [Act.put, List.setIfInBounds_toArray, List.set_cons_zero, List.set_cons_succ, List.getElem_toArray, List.getElem_cons_zero, List.getElem_cons_succ]
    refine wpAnyH_take (i := 12) (v := .bool true) rfl (by kernel_rfl) (by kernel_rfl) (by kernel_rfl) (fun _ _ _ h => h) (Or.inl ⟨by rfl, fun w0 s1 => ?_⟩) hHeld2 ?_
    · go_simp
    try simp only [Act.put, List.setIfInBounds_toArray, List.set_cons_zero, List.set_cons_succ, List.getElem_toArray, List.getElem_cons_zero, List.getElem_cons_succ]
    refine wpAnyH_take (i := 13) (v := .bool true) rfl (by kernel_rfl) (by kernel_rfl) (by kernel_rfl) (fun _ _ _ h => h) (Or.inl ⟨by rfl, fun w0 s1 => ?_⟩) hHeld2 ?_
    · go_simp
    try simp only [Act.put, List.setIfInBounds_toArray, List.set_cons_zero, List.set_cons_succ, List.getElem_toArray, List.getElem_cons_zero, List.getElem_cons_succ]
    refine wpAnyH_done (by kernel_rfl) ?_ _
    go_wp2_with fail
    go_ret
    exact ⟨rfl, LL, hJ2.out.less fun k hk => hk.elim⟩
  · have cP := W_hid (fun w (h : J b w0 qb rb c S S (fun k => False ∨ k = xg) w) => J.callP (f := 27) (args := #[ptr qb, .int .i64 a]) (r := .returned (.int .i64 (remR S a).1)) (S' := (remR S a).2) (c' := c + 1) hcc (fun hG => (good_remR hG a).le hcc) (fun X hT hG => Remove_any hT hG (by omega) a) h)
    have cR := W_hid (fun w (h : J b w0 qb rb (c + 1) (remR S a).2 S (fun k => False ∨ k = xg) w) => J.callE (f := 28) (args := #[ptr rb, .int .i64 a]) (r := .returned (.int .i64 (remR S a).1)) (fun Y hT hG => rRemove_any hT hG (by omega) a) h)
    obtain ⟨LL, hLL⟩ : ∃ LL, (remR S a).2 = LL := ⟨_, rfl⟩
    rw [hLL] at cP cR
    obtain ⟨r1, hr1⟩ : ∃ r, (remR S a).1 = r := ⟨_, rfl⟩
    rw [hr1] at cP cR
    go_enter Try.func12, Try.ntmps12
    go_wp2_with fail
    refine wp_region_held_drew (S := (fun w' => Blk w' xg 47 [.int .i64 kd, .int .i64 a, .int .i64 n, .int .u64 (x : Int)])) (by kernel_rfl) hx0.out (fun hHeld => ?_)
    refine wpAnyH_take (i := 0) (v := .pointer (some ⟨qb, 0, none⟩)) rfl (by kernel_rfl) (by kernel_rfl) (by kernel_rfl) (fun _ _ _ h => h) (Or.inl ⟨by rfl, fun w0 s1 => ?_⟩) hHeld ?_
    · go_simp
    try simp only [Act.put, List.setIfInBounds_toArray, List.set_cons_zero, List.set_cons_succ, List.getElem_toArray, List.getElem_cons_zero, List.getElem_cons_succ]
    refine wpAnyH_take (i := 1) (v := .pointer (some ⟨xg, 1, none⟩)) rfl (by kernel_rfl) (by kernel_rfl) (by kernel_rfl) (fun _ _ _ h => h) (Or.inl ⟨by rfl, fun w0 s1 => ?_⟩) hHeld ?_
    · go_simp
    try simp only [Act.put, List.setIfInBounds_toArray, List.set_cons_zero, List.set_cons_succ, List.getElem_toArray, List.getElem_cons_zero, List.getElem_cons_succ]
    refine wpAnyH_take (i := 2) (v := .int .i64 a) rfl (by kernel_rfl) (by kernel_rfl) (by kernel_rfl) (fun _ _ _ h => h) (Or.inl ⟨by rfl, fun w0 s1 => ?_⟩) hHeld ?_
    · (have q := Blk.cell (j := 1) s1 rfl; go_simp)
    try simp only [Act.put, List.setIfInBounds_toArray, List.set_cons_zero, List.set_cons_succ, List.getElem_toArray, List.getElem_cons_zero, List.getElem_cons_succ]
    refine wpAnyH_take (i := 4) (v := .pointer (some ⟨rb, 0, none⟩)) rfl (by kernel_rfl) (by kernel_rfl) (by kernel_rfl) (fun _ _ _ h => h) (Or.inl ⟨by rfl, fun w0 s1 => ?_⟩) hHeld ?_
    · go_simp
    try simp only [Act.put, List.setIfInBounds_toArray, List.set_cons_zero, List.set_cons_succ, List.getElem_toArray, List.getElem_cons_zero, List.getElem_cons_succ]
    refine wpAnyH_take (i := 5) (v := .pointer (some ⟨xg, 1, none⟩)) rfl (by kernel_rfl) (by kernel_rfl) (by kernel_rfl) (fun _ _ _ h => h) (Or.inl ⟨by rfl, fun w0 s1 => ?_⟩) hHeld ?_
    · go_simp
    try simp only [Act.put, List.setIfInBounds_toArray, List.set_cons_zero, List.set_cons_succ, List.getElem_toArray, List.getElem_cons_zero, List.getElem_cons_succ]
    refine wpAnyH_take (i := 6) (v := .int .i64 a) rfl (by kernel_rfl) (by kernel_rfl) (by kernel_rfl) (fun _ _ _ h => h) (Or.inl ⟨by rfl, fun w0 s1 => ?_⟩) hHeld ?_
    · (have q := Blk.cell (j := 1) s1 rfl; go_simp)
    try simp only [Act.put, List.setIfInBounds_toArray, List.set_cons_zero, List.set_cons_succ, List.getElem_toArray, List.getElem_cons_zero, List.getElem_cons_succ]
    refine wpAnyH_ready (rs := [3]) (by kernel_rfl) (by simp) ?_
    refine AllReadyH.cons rfl (fun K hK => ?_) AllReadyH.nil
    go_simp
    refine (cP.out _ (hJ0.out.keep (pdrew_keep 1)).1).mono ?_
    rintro e w1 ⟨rfl, hJ1, hz1⟩
    have hx1 : Blk w1 xg 47 [.int .i64 kd, .int .i64 a, .int .i64 n, .int .u64 (x : Int)] := (hz1 xg (.inr rfl)).trans hx0.out
    replace hJ1 := W_hid hJ1
    replace hz1 := W_hid hz1
    refine hK.out _ _ hx1 (fun hHeld1 => ?_)
    clear hK K
    try simp only [Act.put, List.setIfInBounds_toArray, List.set_cons_zero, List.set_cons_succ, List.getElem_toArray, List.getElem_cons_zero, List.getElem_cons_succ]
    refine wpAnyH_ready (rs := [7]) (by kernel_rfl) (by simp) ?_
    refine AllReadyH.cons rfl (fun K hK => ?_) AllReadyH.nil
    go_simp
    refine (cR.out _ hJ1.out).mono ?_
    rintro e w2 ⟨rfl, hJ2, hz2⟩
    have hx2 : Blk w2 xg 47 [.int .i64 kd, .int .i64 a, .int .i64 n, .int .u64 (x : Int)] := (hz2 xg (.inr rfl)).trans hx1
    replace hJ2 := W_hid hJ2
    replace hz2 := W_hid hz2
    refine hK.out _ _ hx2 (fun hHeld2 => ?_)
    clear hK K
    try simp only [Act.put, List.setIfInBounds_toArray, List.set_cons_zero, List.set_cons_succ, List.getElem_toArray, List.getElem_cons_zero, List.getElem_cons_succ]
    refine wpAnyH_take (i := 8) (v := .bool true) rfl (by kernel_rfl) (by kernel_rfl) (by kernel_rfl) (fun _ _ _ h => h) (Or.inl ⟨by rfl, fun w0 s1 => ?_⟩) hHeld2 ?_
    · go_simp
    try simp only [Act.put, List.setIfInBounds_toArray, List.set_cons_zero, List.set_cons_succ, List.getElem_toArray, List.getElem_cons_zero, List.getElem_cons_succ]
    refine wpAnyH_take (i := 9) (v := .bool true) rfl (by kernel_rfl) (by kernel_rfl) (by kernel_rfl) (fun _ _ _ h => h) (Or.inl ⟨by rfl, fun w0 s1 => ?_⟩) hHeld2 ?_
    · go_simp
    try simp only [Act.put, List.setIfInBounds_toArray, List.set_cons_zero, List.set_cons_succ, List.getElem_toArray, List.getElem_cons_zero, List.getElem_cons_succ]
    refine wpAnyH_done (by kernel_rfl) ?_ _
    go_wp2_with fail
    go_ret
    exact ⟨rfl, LL, hJ2.out.less fun k hk => hk.elim⟩
  · have cP := W_hid (fun w (h : J b w0 qb rb c S S (fun k => False ∨ k = xg) w) => J.callP (f := 29) (args := #[ptr qb, .int .i64 a]) (r := .returned (.int .i64 (blkR S a).1)) (S' := (blkR S a).2) (c' := c + 1) hcc (fun hG => (good_blkR hG a).le hcc) (fun X hT hG => Block_any hT hG (by omega) a) h)
    have cR := W_hid (fun w (h : J b w0 qb rb (c + 1) (blkR S a).2 S (fun k => False ∨ k = xg) w) => J.callE (f := 30) (args := #[ptr rb, .int .i64 a]) (r := .returned (.int .i64 (blkR S a).1)) (fun Y hT hG => rBlock_any hT hG (by omega) a) h)
    obtain ⟨LL, hLL⟩ : ∃ LL, (blkR S a).2 = LL := ⟨_, rfl⟩
    rw [hLL] at cP cR
    obtain ⟨r1, hr1⟩ : ∃ r, (blkR S a).1 = r := ⟨_, rfl⟩
    rw [hr1] at cP cR
    go_enter Try.func12, Try.ntmps12
    go_wp2_with fail
    refine wp_region_held_drew (S := (fun w' => Blk w' xg 47 [.int .i64 kd, .int .i64 a, .int .i64 n, .int .u64 (x : Int)])) (by kernel_rfl) hx0.out (fun hHeld => ?_)
    refine wpAnyH_take (i := 0) (v := .pointer (some ⟨qb, 0, none⟩)) rfl (by kernel_rfl) (by kernel_rfl) (by kernel_rfl) (fun _ _ _ h => h) (Or.inl ⟨by rfl, fun w0 s1 => ?_⟩) hHeld ?_
    · go_simp
    try simp only [Act.put, List.setIfInBounds_toArray, List.set_cons_zero, List.set_cons_succ, List.getElem_toArray, List.getElem_cons_zero, List.getElem_cons_succ]
    refine wpAnyH_take (i := 1) (v := .pointer (some ⟨xg, 1, none⟩)) rfl (by kernel_rfl) (by kernel_rfl) (by kernel_rfl) (fun _ _ _ h => h) (Or.inl ⟨by rfl, fun w0 s1 => ?_⟩) hHeld ?_
    · go_simp
    try simp only [Act.put, List.setIfInBounds_toArray, List.set_cons_zero, List.set_cons_succ, List.getElem_toArray, List.getElem_cons_zero, List.getElem_cons_succ]
    refine wpAnyH_take (i := 2) (v := .int .i64 a) rfl (by kernel_rfl) (by kernel_rfl) (by kernel_rfl) (fun _ _ _ h => h) (Or.inl ⟨by rfl, fun w0 s1 => ?_⟩) hHeld ?_
    · (have q := Blk.cell (j := 1) s1 rfl; go_simp)
    try simp only [Act.put, List.setIfInBounds_toArray, List.set_cons_zero, List.set_cons_succ, List.getElem_toArray, List.getElem_cons_zero, List.getElem_cons_succ]
    refine wpAnyH_take (i := 4) (v := .pointer (some ⟨rb, 0, none⟩)) rfl (by kernel_rfl) (by kernel_rfl) (by kernel_rfl) (fun _ _ _ h => h) (Or.inl ⟨by rfl, fun w0 s1 => ?_⟩) hHeld ?_
    · go_simp
    try simp only [Act.put, List.setIfInBounds_toArray, List.set_cons_zero, List.set_cons_succ, List.getElem_toArray, List.getElem_cons_zero, List.getElem_cons_succ]
    refine wpAnyH_take (i := 5) (v := .pointer (some ⟨xg, 1, none⟩)) rfl (by kernel_rfl) (by kernel_rfl) (by kernel_rfl) (fun _ _ _ h => h) (Or.inl ⟨by rfl, fun w0 s1 => ?_⟩) hHeld ?_
    · go_simp
    try simp only [Act.put, List.setIfInBounds_toArray, List.set_cons_zero, List.set_cons_succ, List.getElem_toArray, List.getElem_cons_zero, List.getElem_cons_succ]
    refine wpAnyH_take (i := 6) (v := .int .i64 a) rfl (by kernel_rfl) (by kernel_rfl) (by kernel_rfl) (fun _ _ _ h => h) (Or.inl ⟨by rfl, fun w0 s1 => ?_⟩) hHeld ?_
    · (have q := Blk.cell (j := 1) s1 rfl; go_simp)
    try simp only [Act.put, List.setIfInBounds_toArray, List.set_cons_zero, List.set_cons_succ, List.getElem_toArray, List.getElem_cons_zero, List.getElem_cons_succ]
    refine wpAnyH_ready (rs := [3]) (by kernel_rfl) (by simp) ?_
    refine AllReadyH.cons rfl (fun K hK => ?_) AllReadyH.nil
    go_simp
    refine (cP.out _ (hJ0.out.keep (pdrew_keep 1)).1).mono ?_
    rintro e w1 ⟨rfl, hJ1, hz1⟩
    have hx1 : Blk w1 xg 47 [.int .i64 kd, .int .i64 a, .int .i64 n, .int .u64 (x : Int)] := (hz1 xg (.inr rfl)).trans hx0.out
    replace hJ1 := W_hid hJ1
    replace hz1 := W_hid hz1
    refine hK.out _ _ hx1 (fun hHeld1 => ?_)
    clear hK K
    try simp only [Act.put, List.setIfInBounds_toArray, List.set_cons_zero, List.set_cons_succ, List.getElem_toArray, List.getElem_cons_zero, List.getElem_cons_succ]
    refine wpAnyH_ready (rs := [7]) (by kernel_rfl) (by simp) ?_
    refine AllReadyH.cons rfl (fun K hK => ?_) AllReadyH.nil
    go_simp
    refine (cR.out _ hJ1.out).mono ?_
    rintro e w2 ⟨rfl, hJ2, hz2⟩
    have hx2 : Blk w2 xg 47 [.int .i64 kd, .int .i64 a, .int .i64 n, .int .u64 (x : Int)] := (hz2 xg (.inr rfl)).trans hx1
    replace hJ2 := W_hid hJ2
    replace hz2 := W_hid hz2
    refine hK.out _ _ hx2 (fun hHeld2 => ?_)
    clear hK K
    try simp only [Act.put, List.setIfInBounds_toArray, List.set_cons_zero, List.set_cons_succ, List.getElem_toArray, List.getElem_cons_zero, List.getElem_cons_succ]
    refine wpAnyH_take (i := 8) (v := .bool true) rfl (by kernel_rfl) (by kernel_rfl) (by kernel_rfl) (fun _ _ _ h => h) (Or.inl ⟨by rfl, fun w0 s1 => ?_⟩) hHeld2 ?_
    · go_simp
    try simp only [Act.put, List.setIfInBounds_toArray, List.set_cons_zero, List.set_cons_succ, List.getElem_toArray, List.getElem_cons_zero, List.getElem_cons_succ]
    refine wpAnyH_take (i := 9) (v := .bool true) rfl (by kernel_rfl) (by kernel_rfl) (by kernel_rfl) (fun _ _ _ h => h) (Or.inl ⟨by rfl, fun w0 s1 => ?_⟩) hHeld2 ?_
    · go_simp
    try simp only [Act.put, List.setIfInBounds_toArray, List.set_cons_zero, List.set_cons_succ, List.getElem_toArray, List.getElem_cons_zero, List.getElem_cons_succ]
    refine wpAnyH_done (by kernel_rfl) ?_ _
    go_wp2_with fail
    go_ret
    exact ⟨rfl, LL, hJ2.out.less fun k hk => hk.elim⟩
  · have cP := W_hid (fun w (h : J b w0 qb rb c S S (fun k => False ∨ k = xg) w) => J.callP (f := 31) (args := #[ptr qb, .int .i64 a]) (r := .returned (.int .i64 (wakR S a).1)) (S' := (wakR S a).2) (c' := c + 1) hcc (fun hG => good_wakR hG a) (fun X hT hG => Wake_any hT hG (by omega) a) h)
    have cR := W_hid (fun w (h : J b w0 qb rb (c + 1) (wakR S a).2 S (fun k => False ∨ k = xg) w) => J.callE (f := 32) (args := #[ptr rb, .int .i64 a]) (r := .returned (.int .i64 (wakR S a).1)) (fun Y hT hG => rWake_any hT hG (by omega) a) h)
    obtain ⟨LL, hLL⟩ : ∃ LL, (wakR S a).2 = LL := ⟨_, rfl⟩
    rw [hLL] at cP cR
    obtain ⟨r1, hr1⟩ : ∃ r, (wakR S a).1 = r := ⟨_, rfl⟩
    rw [hr1] at cP cR
    go_enter Try.func12, Try.ntmps12
    go_wp2_with fail
    refine wp_region_held_drew (S := (fun w' => Blk w' xg 47 [.int .i64 kd, .int .i64 a, .int .i64 n, .int .u64 (x : Int)])) (by kernel_rfl) hx0.out (fun hHeld => ?_)
    refine wpAnyH_take (i := 0) (v := .pointer (some ⟨qb, 0, none⟩)) rfl (by kernel_rfl) (by kernel_rfl) (by kernel_rfl) (fun _ _ _ h => h) (Or.inl ⟨by rfl, fun w0 s1 => ?_⟩) hHeld ?_
    · go_simp
    try simp only [Act.put, List.setIfInBounds_toArray, List.set_cons_zero, List.set_cons_succ, List.getElem_toArray, List.getElem_cons_zero, List.getElem_cons_succ]
    refine wpAnyH_take (i := 1) (v := .pointer (some ⟨xg, 1, none⟩)) rfl (by kernel_rfl) (by kernel_rfl) (by kernel_rfl) (fun _ _ _ h => h) (Or.inl ⟨by rfl, fun w0 s1 => ?_⟩) hHeld ?_
    · go_simp
    try simp only [Act.put, List.setIfInBounds_toArray, List.set_cons_zero, List.set_cons_succ, List.getElem_toArray, List.getElem_cons_zero, List.getElem_cons_succ]
    refine wpAnyH_take (i := 2) (v := .int .i64 a) rfl (by kernel_rfl) (by kernel_rfl) (by kernel_rfl) (fun _ _ _ h => h) (Or.inl ⟨by rfl, fun w0 s1 => ?_⟩) hHeld ?_
    · (have q := Blk.cell (j := 1) s1 rfl; go_simp)
    try simp only [Act.put, List.setIfInBounds_toArray, List.set_cons_zero, List.set_cons_succ, List.getElem_toArray, List.getElem_cons_zero, List.getElem_cons_succ]
    refine wpAnyH_take (i := 4) (v := .pointer (some ⟨rb, 0, none⟩)) rfl (by kernel_rfl) (by kernel_rfl) (by kernel_rfl) (fun _ _ _ h => h) (Or.inl ⟨by rfl, fun w0 s1 => ?_⟩) hHeld ?_
    · go_simp
    try simp only [Act.put, List.setIfInBounds_toArray, List.set_cons_zero, List.set_cons_succ, List.getElem_toArray, List.getElem_cons_zero, List.getElem_cons_succ]
    refine wpAnyH_take (i := 5) (v := .pointer (some ⟨xg, 1, none⟩)) rfl (by kernel_rfl) (by kernel_rfl) (by kernel_rfl) (fun _ _ _ h => h) (Or.inl ⟨by rfl, fun w0 s1 => ?_⟩) hHeld ?_
    · go_simp
    try simp only [Act.put, List.setIfInBounds_toArray, List.set_cons_zero, List.set_cons_succ, List.getElem_toArray, List.getElem_cons_zero, List.getElem_cons_succ]
    refine wpAnyH_take (i := 6) (v := .int .i64 a) rfl (by kernel_rfl) (by kernel_rfl) (by kernel_rfl) (fun _ _ _ h => h) (Or.inl ⟨by rfl, fun w0 s1 => ?_⟩) hHeld ?_
    · (have q := Blk.cell (j := 1) s1 rfl; go_simp)
    try simp only [Act.put, List.setIfInBounds_toArray, List.set_cons_zero, List.set_cons_succ, List.getElem_toArray, List.getElem_cons_zero, List.getElem_cons_succ]
    refine wpAnyH_ready (rs := [3]) (by kernel_rfl) (by simp) ?_
    refine AllReadyH.cons rfl (fun K hK => ?_) AllReadyH.nil
    go_simp
    refine (cP.out _ (hJ0.out.keep (pdrew_keep 1)).1).mono ?_
    rintro e w1 ⟨rfl, hJ1, hz1⟩
    have hx1 : Blk w1 xg 47 [.int .i64 kd, .int .i64 a, .int .i64 n, .int .u64 (x : Int)] := (hz1 xg (.inr rfl)).trans hx0.out
    replace hJ1 := W_hid hJ1
    replace hz1 := W_hid hz1
    refine hK.out _ _ hx1 (fun hHeld1 => ?_)
    clear hK K
    try simp only [Act.put, List.setIfInBounds_toArray, List.set_cons_zero, List.set_cons_succ, List.getElem_toArray, List.getElem_cons_zero, List.getElem_cons_succ]
    refine wpAnyH_ready (rs := [7]) (by kernel_rfl) (by simp) ?_
    refine AllReadyH.cons rfl (fun K hK => ?_) AllReadyH.nil
    go_simp
    refine (cR.out _ hJ1.out).mono ?_
    rintro e w2 ⟨rfl, hJ2, hz2⟩
    have hx2 : Blk w2 xg 47 [.int .i64 kd, .int .i64 a, .int .i64 n, .int .u64 (x : Int)] := (hz2 xg (.inr rfl)).trans hx1
    replace hJ2 := W_hid hJ2
    replace hz2 := W_hid hz2
    refine hK.out _ _ hx2 (fun hHeld2 => ?_)
    clear hK K
    try simp only [Act.put, List.setIfInBounds_toArray, List.set_cons_zero, List.set_cons_succ, List.getElem_toArray, List.getElem_cons_zero, List.getElem_cons_succ]
    refine wpAnyH_take (i := 8) (v := .bool true) rfl (by kernel_rfl) (by kernel_rfl) (by kernel_rfl) (fun _ _ _ h => h) (Or.inl ⟨by rfl, fun w0 s1 => ?_⟩) hHeld2 ?_
    · go_simp
    try simp only [Act.put, List.setIfInBounds_toArray, List.set_cons_zero, List.set_cons_succ, List.getElem_toArray, List.getElem_cons_zero, List.getElem_cons_succ]
    refine wpAnyH_take (i := 9) (v := .bool true) rfl (by kernel_rfl) (by kernel_rfl) (by kernel_rfl) (fun _ _ _ h => h) (Or.inl ⟨by rfl, fun w0 s1 => ?_⟩) hHeld2 ?_
    · go_simp
    try simp only [Act.put, List.setIfInBounds_toArray, List.set_cons_zero, List.set_cons_succ, List.getElem_toArray, List.getElem_cons_zero, List.getElem_cons_succ]
    refine wpAnyH_done (by kernel_rfl) ?_ _
    go_wp2_with fail
    go_ret
    exact ⟨rfl, LL, hJ2.out.less fun k hk => hk.elim⟩
  · have cP := W_hid (fun w (h : J b w0 qb rb c S S (fun k => False ∨ k = xg) w) => J.callP (f := 33) (args := #[ptr qb, .int .i64 a, .int .i64 n]) (r := .returned (.int .i64 (niceR S a n).1)) (S' := (niceR S a n).2) (c' := c + 1) hcc (fun hG => (good_niceR hG a n).le hcc) (fun X hT hG => Nice_any hT hG (by omega) a n) h)
    have cR := W_hid (fun w (h : J b w0 qb rb (c + 1) (niceR S a n).2 S (fun k => False ∨ k = xg) w) => J.callE (f := 34) (args := #[ptr rb, .int .i64 a, .int .i64 n]) (r := .returned (.int .i64 (niceR S a n).1)) (fun Y hT hG => rNice_any hT hG (by omega) a n) h)
    obtain ⟨LL, hLL⟩ : ∃ LL, (niceR S a n).2 = LL := ⟨_, rfl⟩
    rw [hLL] at cP cR
    obtain ⟨r1, hr1⟩ : ∃ r, (niceR S a n).1 = r := ⟨_, rfl⟩
    rw [hr1] at cP cR
    go_enter Try.func12, Try.ntmps12
    go_wp2_with fail
    refine wp_region_held_drew (S := (fun w' => Blk w' xg 47 [.int .i64 kd, .int .i64 a, .int .i64 n, .int .u64 (x : Int)])) (by kernel_rfl) hx0.out (fun hHeld => ?_)
    refine wpAnyH_take (i := 0) (v := .pointer (some ⟨qb, 0, none⟩)) rfl (by kernel_rfl) (by kernel_rfl) (by kernel_rfl) (fun _ _ _ h => h) (Or.inl ⟨by rfl, fun w0 s1 => ?_⟩) hHeld ?_
    · go_simp
    try simp only [Act.put, List.setIfInBounds_toArray, List.set_cons_zero, List.set_cons_succ, List.getElem_toArray, List.getElem_cons_zero, List.getElem_cons_succ]
    refine wpAnyH_take (i := 1) (v := .pointer (some ⟨xg, 1, none⟩)) rfl (by kernel_rfl) (by kernel_rfl) (by kernel_rfl) (fun _ _ _ h => h) (Or.inl ⟨by rfl, fun w0 s1 => ?_⟩) hHeld ?_
    · go_simp
    try simp only [Act.put, List.setIfInBounds_toArray, List.set_cons_zero, List.set_cons_succ, List.getElem_toArray, List.getElem_cons_zero, List.getElem_cons_succ]
    refine wpAnyH_take (i := 2) (v := .int .i64 a) rfl (by kernel_rfl) (by kernel_rfl) (by kernel_rfl) (fun _ _ _ h => h) (Or.inl ⟨by rfl, fun w0 s1 => ?_⟩) hHeld ?_
    · (have q := Blk.cell (j := 1) s1 rfl; go_simp)
    try simp only [Act.put, List.setIfInBounds_toArray, List.set_cons_zero, List.set_cons_succ, List.getElem_toArray, List.getElem_cons_zero, List.getElem_cons_succ]
    refine wpAnyH_take (i := 3) (v := .pointer (some ⟨xg, 2, none⟩)) rfl (by kernel_rfl) (by kernel_rfl) (by kernel_rfl) (fun _ _ _ h => h) (Or.inl ⟨by rfl, fun w0 s1 => ?_⟩) hHeld ?_
    · go_simp
    try simp only [Act.put, List.setIfInBounds_toArray, List.set_cons_zero, List.set_cons_succ, List.getElem_toArray, List.getElem_cons_zero, List.getElem_cons_succ]
    refine wpAnyH_take (i := 4) (v := .int .i64 n) rfl (by kernel_rfl) (by kernel_rfl) (by kernel_rfl) (fun _ _ _ h => h) (Or.inl ⟨by rfl, fun w0 s1 => ?_⟩) hHeld ?_
    · (have q := Blk.cell (j := 2) s1 rfl; go_simp)
    try simp only [Act.put, List.setIfInBounds_toArray, List.set_cons_zero, List.set_cons_succ, List.getElem_toArray, List.getElem_cons_zero, List.getElem_cons_succ]
    refine wpAnyH_take (i := 6) (v := .pointer (some ⟨rb, 0, none⟩)) rfl (by kernel_rfl) (by kernel_rfl) (by kernel_rfl) (fun _ _ _ h => h) (Or.inl ⟨by rfl, fun w0 s1 => ?_⟩) hHeld ?_
    · go_simp
    try simp only [Act.put, List.setIfInBounds_toArray, List.set_cons_zero, List.set_cons_succ, List.getElem_toArray, List.getElem_cons_zero, List.getElem_cons_succ]
    refine wpAnyH_take (i := 7) (v := .pointer (some ⟨xg, 1, none⟩)) rfl (by kernel_rfl) (by kernel_rfl) (by kernel_rfl) (fun _ _ _ h => h) (Or.inl ⟨by rfl, fun w0 s1 => ?_⟩) hHeld ?_
    · go_simp
    try simp only [Act.put, List.setIfInBounds_toArray, List.set_cons_zero, List.set_cons_succ, List.getElem_toArray, List.getElem_cons_zero, List.getElem_cons_succ]
    refine wpAnyH_take (i := 8) (v := .int .i64 a) rfl (by kernel_rfl) (by kernel_rfl) (by kernel_rfl) (fun _ _ _ h => h) (Or.inl ⟨by rfl, fun w0 s1 => ?_⟩) hHeld ?_
    · (have q := Blk.cell (j := 1) s1 rfl; go_simp)
    try simp only [Act.put, List.setIfInBounds_toArray, List.set_cons_zero, List.set_cons_succ, List.getElem_toArray, List.getElem_cons_zero, List.getElem_cons_succ]
    refine wpAnyH_take (i := 9) (v := .pointer (some ⟨xg, 2, none⟩)) rfl (by kernel_rfl) (by kernel_rfl) (by kernel_rfl) (fun _ _ _ h => h) (Or.inl ⟨by rfl, fun w0 s1 => ?_⟩) hHeld ?_
    · go_simp
    try simp only [Act.put, List.setIfInBounds_toArray, List.set_cons_zero, List.set_cons_succ, List.getElem_toArray, List.getElem_cons_zero, List.getElem_cons_succ]
    refine wpAnyH_take (i := 10) (v := .int .i64 n) rfl (by kernel_rfl) (by kernel_rfl) (by kernel_rfl) (fun _ _ _ h => h) (Or.inl ⟨by rfl, fun w0 s1 => ?_⟩) hHeld ?_
    · (have q := Blk.cell (j := 2) s1 rfl; go_simp)
    try simp only [Act.put, List.setIfInBounds_toArray, List.set_cons_zero, List.set_cons_succ, List.getElem_toArray, List.getElem_cons_zero, List.getElem_cons_succ]
    refine wpAnyH_ready (rs := [5]) (by kernel_rfl) (by simp) ?_
    refine AllReadyH.cons rfl (fun K hK => ?_) AllReadyH.nil
    go_simp
    refine (cP.out _ (hJ0.out.keep (pdrew_keep 1)).1).mono ?_
    rintro e w1 ⟨rfl, hJ1, hz1⟩
    have hx1 : Blk w1 xg 47 [.int .i64 kd, .int .i64 a, .int .i64 n, .int .u64 (x : Int)] := (hz1 xg (.inr rfl)).trans hx0.out
    replace hJ1 := W_hid hJ1
    replace hz1 := W_hid hz1
    refine hK.out _ _ hx1 (fun hHeld1 => ?_)
    clear hK K
    try simp only [Act.put, List.setIfInBounds_toArray, List.set_cons_zero, List.set_cons_succ, List.getElem_toArray, List.getElem_cons_zero, List.getElem_cons_succ]
    refine wpAnyH_ready (rs := [11]) (by kernel_rfl) (by simp) ?_
    refine AllReadyH.cons rfl (fun K hK => ?_) AllReadyH.nil
    go_simp
    refine (cR.out _ hJ1.out).mono ?_
    rintro e w2 ⟨rfl, hJ2, hz2⟩
    have hx2 : Blk w2 xg 47 [.int .i64 kd, .int .i64 a, .int .i64 n, .int .u64 (x : Int)] := (hz2 xg (.inr rfl)).trans hx1
    replace hJ2 := W_hid hJ2
    replace hz2 := W_hid hz2
    refine hK.out _ _ hx2 (fun hHeld2 => ?_)
    clear hK K
    try simp only [Act.put, List.setIfInBounds_toArray, List.set_cons_zero, List.set_cons_succ, List.getElem_toArray, List.getElem_cons_zero, List.getElem_cons_succ]
    refine wpAnyH_take (i := 12) (v := .bool true) rfl (by kernel_rfl) (by kernel_rfl) (by kernel_rfl) (fun _ _ _ h => h) (Or.inl ⟨by rfl, fun w0 s1 => ?_⟩) hHeld2 ?_
    · go_simp
    try simp only [Act.put, List.setIfInBounds_toArray, List.set_cons_zero, List.set_cons_succ, List.getElem_toArray, List.getElem_cons_zero, List.getElem_cons_succ]
    refine wpAnyH_take (i := 13) (v := .bool true) rfl (by kernel_rfl) (by kernel_rfl) (by kernel_rfl) (fun _ _ _ h => h) (Or.inl ⟨by rfl, fun w0 s1 => ?_⟩) hHeld2 ?_
    · go_simp
    try simp only [Act.put, List.setIfInBounds_toArray, List.set_cons_zero, List.set_cons_succ, List.getElem_toArray, List.getElem_cons_zero, List.getElem_cons_succ]
    refine wpAnyH_done (by kernel_rfl) ?_ _
    go_wp2_with fail
    go_ret
    exact ⟨rfl, LL, hJ2.out.less fun k hk => hk.elim⟩
  · have cP := W_hid (fun w (h : J b w0 qb rb c S S (fun k => False ∨ k = xg) w) => J.callP (f := 11) (args := #[ptr qb]) (r := .returned (.tuple #[.int .i64 ((nextR S).1).1, .int .i64 ((nextR S).1).2])) (S' := (nextR S).2) (c' := c + 1) hcc (fun hG => (good_nextR hG).le hcc) (fun X hT hG => Next_any hT hG (by omega)) h)
    have cR := W_hid (fun w (h : J b w0 qb rb (c + 1) (nextR S).2 S (fun k => False ∨ k = xg) w) => J.callE (f := 35) (args := #[ptr rb]) (r := .returned (.tuple #[.int .i64 ((nextR S).1).1, .int .i64 ((nextR S).1).2])) (fun Y hT hG => rNext_any hT hG (by omega)) h)
    obtain ⟨LL, hLL⟩ : ∃ LL, (nextR S).2 = LL := ⟨_, rfl⟩
    rw [hLL] at cP cR
    obtain ⟨r1, hr1⟩ : ∃ r, ((nextR S).1).1 = r := ⟨_, rfl⟩
    obtain ⟨r2, hr2⟩ : ∃ r, ((nextR S).1).2 = r := ⟨_, rfl⟩
    rw [hr1, hr2] at cP cR
    go_enter Try.func12, Try.ntmps12
    go_wp2_with fail
    refine (cP.out _ hJ0.out).mono ?_
    rintro e w1 ⟨rfl, hJ1, hz1⟩
    have hx1 : Blk w1 xg 47 [.int .i64 kd, .int .i64 a, .int .i64 n, .int .u64 (x : Int)] := (hz1 xg (.inr rfl)).trans hx0.out
    have q1 := hx1.cell (j := 1) rfl
    have q2 := hx1.cell (j := 2) rfl
    have q3 := hx1.cell (j := 3) rfl
    replace hJ1 := W_hid hJ1
    replace hz1 := W_hid hz1
    replace hx1 := W_hid hx1
    go_wp2_with fail
    refine (cR.out _ hJ1.out).mono ?_
    rintro e w2 ⟨rfl, hJ2, hz2⟩
    replace hJ2 := W_hid hJ2
    replace hz2 := W_hid hz2
    go_wp2_with fail
    go_ret
    exact ⟨rfl, LL, hJ2.out.less fun k hk => hk.elim⟩
  · have cP := W_hid (fun w (h : J b w0 qb rb c S S (fun k => False ∨ k = xg) w) => J.callP (f := 37) (args := #[ptr qb, .float .f64 x]) (r := .returned (.tuple #[.int .i64 ((lotR S x).1).1, .int .i64 ((lotR S x).1).2])) (S' := (lotR S x).2) (c' := c + 1) hcc (fun hG => (good_lotR hG x).le hcc) (fun X hT hG => Lot_any hT hG (by omega) x hx) h)
    have cR := W_hid (fun w (h : J b w0 qb rb (c + 1) (lotR S x).2 S (fun k => False ∨ k = xg) w) => J.callE (f := 38) (args := #[ptr rb, .float .f64 x]) (r := .returned (.tuple #[.int .i64 ((lotR S x).1).1, .int .i64 ((lotR S x).1).2])) (fun Y hT hG => rLot_any hT hG (by omega) x hx) h)
    obtain ⟨LL, hLL⟩ : ∃ LL, (lotR S x).2 = LL := ⟨_, rfl⟩
    rw [hLL] at cP cR
    obtain ⟨r1, hr1⟩ : ∃ r, ((lotR S x).1).1 = r := ⟨_, rfl⟩
    obtain ⟨r2, hr2⟩ : ∃ r, ((lotR S x).1).2 = r := ⟨_, rfl⟩
    rw [hr1, hr2] at cP cR
    have f1 := run_frombits x
    unfold fl at f1
    go_enter Try.func12, Try.ntmps12
    go_wp2_with fail
    refine (cP.out _ hJ0.out).mono ?_
    rintro e w1 ⟨rfl, hJ1, hz1⟩
    have hx1 : Blk w1 xg 47 [.int .i64 kd, .int .i64 a, .int .i64 n, .int .u64 (x : Int)] := (hz1 xg (.inr rfl)).trans hx0.out
    have q1 := hx1.cell (j := 1) rfl
    have q2 := hx1.cell (j := 2) rfl
    have q3 := hx1.cell (j := 3) rfl
    replace hJ1 := W_hid hJ1
    replace hz1 := W_hid hz1
    replace hx1 := W_hid hx1
    go_wp2_with fail
    refine (cR.out _ hJ1.out).mono ?_
    rintro e w2 ⟨rfl, hJ2, hz2⟩
    replace hJ2 := W_hid hJ2
    replace hz2 := W_hid hz2
    go_wp2_with fail
    go_ret
    exact ⟨rfl, LL, hJ2.out.less fun k hk => hk.elim⟩
  · have cP := W_hid (fun w (h : J b w0 qb rb c S S (fun k => False ∨ k = xg) w) => J.callP (f := 6) (args := #[ptr qb, .int .i64 a]) (r := .returned (.tuple #[.float .f64 (loadR S a).1, .int .i64 (loadR S a).2])) (S' := S) (c' := c + 1) hcc (fun hG => hG.le hcc) (fun X hT hG => Load_any hT hG (by omega) a) h)
    have cR := W_hid (fun w (h : J b w0 qb rb (c + 1) S S (fun k => False ∨ k = xg) w) => J.callE (f := 39) (args := #[ptr rb, .int .i64 a]) (r := .returned (.tuple #[.float .f64 (loadR S a).1, .int .i64 (loadR S a).2])) (fun Y hT hG => rLoad_any hT hG (by omega) a) h)
    obtain ⟨LL, hLL⟩ : ∃ LL, S = LL := ⟨_, rfl⟩
    obtain rfl := hLL
    have hlt : (loadR S a).1 < 18446744073709551616 := hlo.out a
    obtain ⟨r1, hr1⟩ : ∃ r, (loadR S a).1 = r := ⟨_, rfl⟩
    obtain ⟨r2, hr2⟩ : ∃ r, (loadR S a).2 = r := ⟨_, rfl⟩
    rw [hr1, hr2] at cP cR
    rw [hr1] at hlt
    have cF := W_hid (fun w => same_any r1 r1 hlt hlt rfl w)
    clear hlt
    go_enter Try.func12, Try.ntmps12
    go_wp2_with fail
    refine (cP.out _ hJ0.out).mono ?_
    rintro e w1 ⟨rfl, hJ1, hz1⟩
    have hx1 : Blk w1 xg 47 [.int .i64 kd, .int .i64 a, .int .i64 n, .int .u64 (x : Int)] := (hz1 xg (.inr rfl)).trans hx0.out
    have q1 := hx1.cell (j := 1) rfl
    have q2 := hx1.cell (j := 2) rfl
    have q3 := hx1.cell (j := 3) rfl
    replace hJ1 := W_hid hJ1
    replace hz1 := W_hid hz1
    replace hx1 := W_hid hx1
    go_wp2_with fail
    refine (cR.out _ hJ1.out).mono ?_
    rintro e w2 ⟨rfl, hJ2, hz2⟩
    replace hJ2 := W_hid hJ2
    replace hz2 := W_hid hz2
    go_wp2_with (go_at_call 40; refine (cF.out _).mono ?_; rintro e w3 ⟨rfl, rfl⟩)
    go_ret
    exact ⟨rfl, _, hJ2.out.less fun k hk => hk.elim⟩
  · have cP := W_hid (fun w (h : J b w0 qb rb c S S (fun k => False ∨ k = xg) w) => J.callP (f := 8) (args := #[ptr qb, .int .i64 a]) (r := .returned (.tuple #[.float .f64 (shrR S a).1, .int .i64 (shrR S a).2])) (S' := S) (c' := c + 1) hcc (fun hG => hG.le hcc) (fun X hT hG => Share_any hT hG (by omega) a) h)
    have cR := W_hid (fun w (h : J b w0 qb rb (c + 1) S S (fun k => False ∨ k = xg) w) => J.callE (f := 41) (args := #[ptr rb, .int .i64 a]) (r := .returned (.tuple #[.float .f64 (shrR S a).1, .int .i64 (shrR S a).2])) (fun Y hT hG => rShare_any hT hG (by omega) a) h)
    obtain ⟨LL, hLL⟩ : ∃ LL, S = LL := ⟨_, rfl⟩
    obtain rfl := hLL
    have hlt : (shrR S a).1 < 18446744073709551616 := shrR_lt S a
    obtain ⟨r1, hr1⟩ : ∃ r, (shrR S a).1 = r := ⟨_, rfl⟩
    obtain ⟨r2, hr2⟩ : ∃ r, (shrR S a).2 = r := ⟨_, rfl⟩
    rw [hr1, hr2] at cP cR
    rw [hr1] at hlt
    have cF := W_hid (fun w => same_any r1 r1 hlt hlt rfl w)
    clear hlt
    go_enter Try.func12, Try.ntmps12
    go_wp2_with fail
    refine (cP.out _ hJ0.out).mono ?_
    rintro e w1 ⟨rfl, hJ1, hz1⟩
    have hx1 : Blk w1 xg 47 [.int .i64 kd, .int .i64 a, .int .i64 n, .int .u64 (x : Int)] := (hz1 xg (.inr rfl)).trans hx0.out
    have q1 := hx1.cell (j := 1) rfl
    have q2 := hx1.cell (j := 2) rfl
    have q3 := hx1.cell (j := 3) rfl
    replace hJ1 := W_hid hJ1
    replace hz1 := W_hid hz1
    replace hx1 := W_hid hx1
    go_wp2_with fail
    refine (cR.out _ hJ1.out).mono ?_
    rintro e w2 ⟨rfl, hJ2, hz2⟩
    replace hJ2 := W_hid hJ2
    replace hz2 := W_hid hz2
    go_wp2_with (go_at_call 40; refine (cF.out _).mono ?_; rintro e w3 ⟨rfl, rfl⟩)
    go_ret
    exact ⟨rfl, _, hJ2.out.less fun k hk => hk.elim⟩
end SD
end Go.Proofs.Ytmikgkelmdgckaa

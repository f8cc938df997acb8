/- Contract of package entry's read: which entry a word says at a level, for every word and level. -/
import Derived.Test.YthiojnbnhagcgaaDoorEntry
import Derived.Test.YthiojnbnhagcgaaDoorBlk
import Derived.Deep.RegionHeld3
namespace Go.Proofs.YthiojnbnhagcgaaDoor
open Go.ChangeShapes Go.WideShapes Go.ChangeAt Go.RowKit
set_option linter.unusedVariables false
set_option linter.unusedSimpArgs false

theorem res_ent {fn : Func} {r t : Tmp} (hres : fn.results = #[.cell r 57, .tmp t]) (tmps : Array Value) (w : World) {g : Nat} {v0 v1 v2 v3 : Value} (hr : tmps.getD r undef = .pointer (some ⟨g, 0, none⟩)) (hp : Blk w g 57 [v0, v1, v2, v3])
    (h0 : v0.oneCell' = true) (h1 : v1.oneCell' = true) (h2 : v2.oneCell' = true) (h3 : v3.oneCell' = true) :
    (results fn tmps).run Tryd.prog w = .ok (.tuple #[.agg #[v0, v1, v2, v3], tmps.getD t undef]) w := by
  have c0 : w.cell? ⟨g, 0, none⟩ = some v0 := hp.cell rfl
  have c1 : w.cell? ⟨g, 1, none⟩ = some v1 := hp.cell rfl
  have c2 : w.cell? ⟨g, 2, none⟩ = some v2 := hp.cell rfl
  have c3 : w.cell? ⟨g, 3, none⟩ = some v3 := hp.cell rfl
  rw [Array.getD_eq_getD_getElem?] at hr
  simp [results, hres, go_sem, hr, c0, c1, c2, c3]

def kind1 : Value := .agg #[.bool false, .bool false, .int .i64 1, .int .i64 1, .int .u64 9223090561878069245, .int .u64 5]
def kind2 : Value := .agg #[.bool false, .bool true, .int .i64 2, .int .i64 2, .int .u64 9223090561880162301, .int .u64 133]
def kind3 : Value := .agg #[.bool true, .bool false, .int .i64 2, .int .i64 4, .int .u64 18446462598732845055, .int .u64 7]
theorem at_kind1 (w : World) : (Instr.index 105 (.agg kcl.toArray) (.int .i64 0)).run Tryd.prog w = .ok (.agg #[.bool false, .bool false, .int .i64 1, .int .i64 1, .int .u64 9223090561878069245, .int .u64 5]) w := by kernel_rfl
theorem at_kind2 (w : World) : (Instr.index 105 (.agg kcl.toArray) (.int .i64 1)).run Tryd.prog w = .ok (.agg #[.bool false, .bool true, .int .i64 2, .int .i64 2, .int .u64 9223090561880162301, .int .u64 133]) w := by kernel_rfl
theorem at_kind3 (w : World) : (Instr.index 105 (.agg kcl.toArray) (.int .i64 2)).run Tryd.prog w = .ok (.agg #[.bool true, .bool false, .int .i64 2, .int .i64 4, .int .u64 18446462598732845055, .int .u64 7]) w := by kernel_rfl
theorem kinds_info : (Tryd.prog.info? 105).map (·.size) = some kcl.toArray.size := by kernel_rfl

set_option maxRecDepth 100000 in
set_option maxHeartbeats 2000000 in
theorem read_one (x : Nat) (L : Int) (hx : x < 18446744073709551616) (y1 : (1 : Int) ≤ L ∧ L ≤ 1 ∧ EN.page x = true) (w : World) (hk : KT w) :
    Calls Tryd.prog 47 #[.int .u64 x, .int .i64 L] w fun e w' => e = .returned (.tuple #[.agg #[.bool false, .bool false, .int .i64 (EN.perm x), .int .u64 ((EN.frame x : Nat) : Int)], .bool true]) ∧ Below w.heap.size w w' := by
  have hlt := hk.lt
  obtain ⟨e0, fr0, hk⟩ := hk
  have i1 := at_kind1
  have hf1 := W_hid (fun w => kfits_any false false true 1 1 L 9223090561878069245 5 x hx (by decide) ⟨fun _ => ⟨y1.1, y1.2.1, (EN.page_and x hx).2 y1.2.2⟩, fun _ => rfl⟩ w)
  have ht := W_hid (fun w => take_yes x 12 36 hx (by decide) w)
  rw [show WM.take x 12 36 = EN.frame x from rfl] at ht
  have hpm := W_hid (fun w => perm_any x hx w)
  clear y1
  go_enter Tryd.func47, Tryd.ntmps47
  go_wp2_with (refine wpList_load_row rfl 105 _ rfl 0 rfl e0 kcl.toArray fr0 _ ((Below.heap_alloc _ _ _ hlt).trans hk) Tryd.underlying105 rfl kinds_info ?_)
  refine wp_loop_rounds 1 ?_
  rw [rounds_succ]
  go_wp2_with fail
  refine (hf1.out _).mono ?_
  rintro e w1 ⟨rfl, bel1⟩
  have b0 : Blk w1 w.heap.size 57 [.bool false, .bool false, .int .i64 0, .int .u64 0] := Blk.keep (Blk.alloc (Blk.new w _ _ rfl) _) bel1
  have b1 : Blk w1 (w.heap.size + 1) 104 [.bool false, .bool false, .int .i64 1, .int .i64 1, .int .u64 9223090561878069245, .int .u64 5] := Blk.keep (Blk.new (w.alloc _) _ _ (by simp)) bel1
  have hg1 : w.heap.size + 1 < w1.heap.size := b1.lt
  have bel : Below w.heap.size w w1 := ((((Below.refl _ _).alloc (Nat.le_refl _) _).alloc (by simp) _).trans (bel1.mono (by simp; omega)))
  clear bel1
  obtain ⟨g1, hgg1⟩ : ∃ g1, w.heap.size + 1 = g1 := ⟨_, rfl⟩
  rw [hgg1] at b1 hg1
  subst hgg1
  go_wp2_with fail
  refine (ht.out _).mono ?_
  rintro e wt ⟨rfl, belt⟩
  replace b0 := b0.keep belt
  replace b1 := b1.keep belt
  replace bel := bel.trans (belt.mono bel.size)
  clear belt
  have c0 : wt.cell? ⟨w.heap.size + 1, 0, none⟩ = some (.bool false) := b1.cell rfl
  have c1 : wt.cell? ⟨w.heap.size + 1, 1, none⟩ = some (.bool false) := b1.cell rfl
  have z0 : wt.cell? ⟨w.heap.size, 0, none⟩ = some (.bool false) := b0.cell rfl
  have z1 : wt.cell? ⟨w.heap.size, 1, none⟩ = some (.bool false) := b0.cell rfl
  have z2 : wt.cell? ⟨w.heap.size, 2, none⟩ = some (.int .i64 0) := b0.cell rfl
  have z3 : wt.cell? ⟨w.heap.size, 3, none⟩ = some (.int .u64 0) := b0.cell rfl
  have zf : ∀ i, wt.frozen? ⟨w.heap.size, i, none⟩ = false := b0.fz
  go_wp2_with fail
  go_region_held3 (fun w' => w'.cell? ⟨w.heap.size + 1, 0, none⟩ = some (.bool false) ∧ w'.cell? ⟨w.heap.size + 1, 1, none⟩ = some (.bool false)) (first | assumption | go_keep)
    (first | (go_at_call 64; refine (hpm.out _).mono ?_; rintro e w3 ⟨rfl, rfl⟩))
  go_wp2
  have hB : Blk _ w.heap.size 57 [.bool false, .bool false, .int .i64 (EN.perm x), .int .u64 ((EN.frame x : Nat) : Int)] := ((((b0.set 0 (.bool false)).set 1 (.bool false)).set 2 (.int .i64 (EN.perm x))).set 3 (.int .u64 ((EN.frame x : Nat) : Int)))
  refine bodyPost_ret (res_ent rfl _ _ rfl hB rfl rfl rfl rfl) rfl ⟨rfl, Below.drew ((((bel.setCell (Nat.le_refl _) _).setCell (Nat.le_refl _) _).setCell (Nat.le_refl _) _).setCell (Nat.le_refl _) _)⟩

set_option maxRecDepth 100000 in
set_option maxHeartbeats 2000000 in
theorem read_two (x : Nat) (L : Int) (hx : x < 18446744073709551616) (n1 : ¬ ((1 : Int) ≤ L ∧ L ≤ 1 ∧ EN.page x = true)) (y2 : (2 : Int) ≤ L ∧ L ≤ 2 ∧ EN.huge x = true) (w : World) (hk : KT w) :
    Calls Tryd.prog 47 #[.int .u64 x, .int .i64 L] w fun e w' => e = .returned (.tuple #[.agg #[.bool false, .bool true, .int .i64 (EN.perm x), .int .u64 ((EN.frame x : Nat) : Int)], .bool true]) ∧ Below w.heap.size w w' := by
  have hlt := hk.lt
  obtain ⟨e0, fr0, hk⟩ := hk
  have i1 := at_kind1
  have i2 := at_kind2
  have hf1 := W_hid (fun w => kfits_any false false false 1 1 L 9223090561878069245 5 x hx (by decide) ⟨fun h => absurd h (by decide), fun h => absurd ⟨h.1, h.2.1, (EN.page_and x hx).1 h.2.2⟩ n1⟩ w)
  have hf2 := W_hid (fun w => kfits_any false true true 2 2 L 9223090561880162301 133 x hx (by decide) ⟨fun _ => ⟨y2.1, y2.2.1, (EN.huge_and x hx).2 y2.2.2⟩, fun _ => rfl⟩ w)
  have ht := W_hid (fun w => take_yes x 12 36 hx (by decide) w)
  rw [show WM.take x 12 36 = EN.frame x from rfl] at ht
  have hpm := W_hid (fun w => perm_any x hx w)
  clear n1 y2
  go_enter Tryd.func47, Tryd.ntmps47
  go_wp2_with (refine wpList_load_row rfl 105 _ rfl 0 rfl e0 kcl.toArray fr0 _ ((Below.heap_alloc _ _ _ hlt).trans hk) Tryd.underlying105 rfl kinds_info ?_)
  refine wp_loop_rounds 2 ?_
  rw [rounds_succ]
  go_wp2_with fail
  refine (hf1.out _).mono ?_
  rintro e w1 ⟨rfl, bel1⟩
  have b0 : Blk w1 w.heap.size 57 [.bool false, .bool false, .int .i64 0, .int .u64 0] := Blk.keep (Blk.alloc (Blk.new w _ _ rfl) _) bel1
  have b1 : Blk w1 (w.heap.size + 1) 104 [.bool false, .bool false, .int .i64 1, .int .i64 1, .int .u64 9223090561878069245, .int .u64 5] := Blk.keep (Blk.new (w.alloc _) _ _ (by simp)) bel1
  have hg1 : w.heap.size + 1 < w1.heap.size := b1.lt
  have bel : Below w.heap.size w w1 := ((((Below.refl _ _).alloc (Nat.le_refl _) _).alloc (by simp) _).trans (bel1.mono (by simp; omega)))
  clear bel1
  obtain ⟨g1, hgg1⟩ : ∃ g1, w.heap.size + 1 = g1 := ⟨_, rfl⟩
  rw [hgg1] at b1 hg1
  go_wp2_with fail
  rw [rounds_succ]
  go_wp2_with fail
  refine (hf2.out _).mono ?_
  rintro e w2 ⟨rfl, bel2⟩
  have b2 : Blk w2 w1.heap.size 104 [.bool false, .bool true, .int .i64 2, .int .i64 2, .int .u64 9223090561880162301, .int .u64 133] := Blk.keep (Blk.new w1 _ _ rfl) bel2
  replace b0 := Blk.keep (Blk.alloc b0 _) bel2
  have hh2 : w.heap.size < w1.heap.size := by omega
  replace bel := (bel.alloc bel.size _).trans (bel2.mono (Nat.le_trans bel.size (by simp)))
  have hg2 : w.heap.size < w2.heap.size := Nat.lt_of_lt_of_le (show w.heap.size < w1.heap.size by omega) (Nat.le_trans (by simp) bel2.size)
  clear bel2
  go_wp2_with fail
  refine (ht.out _).mono ?_
  rintro e wt ⟨rfl, belt⟩
  replace b0 := b0.keep belt
  replace b2 := b2.keep belt
  replace bel := bel.trans (belt.mono bel.size)
  clear belt
  have c0 : wt.cell? ⟨w1.heap.size, 0, none⟩ = some (.bool false) := b2.cell rfl
  have c1 : wt.cell? ⟨w1.heap.size, 1, none⟩ = some (.bool true) := b2.cell rfl
  have z0 : wt.cell? ⟨w.heap.size, 0, none⟩ = some (.bool false) := b0.cell rfl
  have z1 : wt.cell? ⟨w.heap.size, 1, none⟩ = some (.bool false) := b0.cell rfl
  have z2 : wt.cell? ⟨w.heap.size, 2, none⟩ = some (.int .i64 0) := b0.cell rfl
  have z3 : wt.cell? ⟨w.heap.size, 3, none⟩ = some (.int .u64 0) := b0.cell rfl
  have zf : ∀ i, wt.frozen? ⟨w.heap.size, i, none⟩ = false := b0.fz
  have ne1 : ¬ w1.heap.size = w.heap.size := by omega
  have ne2 : ¬ w.heap.size = w1.heap.size := by omega
  go_wp2_with fail
  go_region_held3 (fun w' => w'.cell? ⟨w1.heap.size, 0, none⟩ = some (.bool false) ∧ w'.cell? ⟨w1.heap.size, 1, none⟩ = some (.bool true)) (first | assumption | go_keep)
    (first | (go_at_call 64; refine (hpm.out _).mono ?_; rintro e w3 ⟨rfl, rfl⟩))
  go_wp2
  have hB : Blk _ w.heap.size 57 [.bool false, .bool true, .int .i64 (EN.perm x), .int .u64 ((EN.frame x : Nat) : Int)] := ((((b0.set 0 (.bool false)).set 1 (.bool true)).set 2 (.int .i64 (EN.perm x))).set 3 (.int .u64 ((EN.frame x : Nat) : Int)))
  refine bodyPost_ret (res_ent rfl _ _ rfl hB rfl rfl rfl rfl) rfl ⟨rfl, Below.drew ((((bel.setCell (Nat.le_refl _) _).setCell (Nat.le_refl _) _).setCell (Nat.le_refl _) _).setCell (Nat.le_refl _) _)⟩

set_option maxRecDepth 100000 in
set_option maxHeartbeats 2000000 in
theorem read_three (x : Nat) (L : Int) (hx : x < 18446744073709551616) (n1 : ¬ ((1 : Int) ≤ L ∧ L ≤ 1 ∧ EN.page x = true)) (n2 : ¬ ((2 : Int) ≤ L ∧ L ≤ 2 ∧ EN.huge x = true)) (y3 : (2 : Int) ≤ L ∧ L ≤ 4 ∧ EN.table x = true) (w : World) (hk : KT w) :
    Calls Tryd.prog 47 #[.int .u64 x, .int .i64 L] w fun e w' => e = .returned (.tuple #[.agg #[.bool true, .bool false, .int .i64 (EN.perm x), .int .u64 ((EN.frame x : Nat) : Int)], .bool true]) ∧ Below w.heap.size w w' := by
  have hlt := hk.lt
  obtain ⟨e0, fr0, hk⟩ := hk
  have i1 := at_kind1
  have i2 := at_kind2
  have i3 := at_kind3
  have hf1 := W_hid (fun w => kfits_any false false false 1 1 L 9223090561878069245 5 x hx (by decide) ⟨fun h => absurd h (by decide), fun h => absurd ⟨h.1, h.2.1, (EN.page_and x hx).1 h.2.2⟩ n1⟩ w)
  have hf2 := W_hid (fun w => kfits_any false true false 2 2 L 9223090561880162301 133 x hx (by decide) ⟨fun h => absurd h (by decide), fun h => absurd ⟨h.1, h.2.1, (EN.huge_and x hx).1 h.2.2⟩ n2⟩ w)
  have hf3 := W_hid (fun w => kfits_any true false true 2 4 L 18446462598732845055 7 x hx (by decide) ⟨fun _ => ⟨y3.1, y3.2.1, (EN.table_and x hx).2 y3.2.2⟩, fun _ => rfl⟩ w)
  have ht := W_hid (fun w => take_yes x 12 36 hx (by decide) w)
  rw [show WM.take x 12 36 = EN.frame x from rfl] at ht
  have hpm := W_hid (fun w => perm_any x hx w)
  clear n1 n2 y3
  go_enter Tryd.func47, Tryd.ntmps47
  go_wp2_with (refine wpList_load_row rfl 105 _ rfl 0 rfl e0 kcl.toArray fr0 _ ((Below.heap_alloc _ _ _ hlt).trans hk) Tryd.underlying105 rfl kinds_info ?_)
  refine wp_loop_rounds 3 ?_
  rw [rounds_succ]
  go_wp2_with fail
  refine (hf1.out _).mono ?_
  rintro e w1 ⟨rfl, bel1⟩
  have b0 : Blk w1 w.heap.size 57 [.bool false, .bool false, .int .i64 0, .int .u64 0] := Blk.keep (Blk.alloc (Blk.new w _ _ rfl) _) bel1
  have b1 : Blk w1 (w.heap.size + 1) 104 [.bool false, .bool false, .int .i64 1, .int .i64 1, .int .u64 9223090561878069245, .int .u64 5] := Blk.keep (Blk.new (w.alloc _) _ _ (by simp)) bel1
  have hg1 : w.heap.size + 1 < w1.heap.size := b1.lt
  have bel : Below w.heap.size w w1 := ((((Below.refl _ _).alloc (Nat.le_refl _) _).alloc (by simp) _).trans (bel1.mono (by simp; omega)))
  clear bel1
  obtain ⟨g1, hgg1⟩ : ∃ g1, w.heap.size + 1 = g1 := ⟨_, rfl⟩
  rw [hgg1] at b1 hg1
  go_wp2_with fail
  rw [rounds_succ]
  go_wp2_with fail
  refine (hf2.out _).mono ?_
  rintro e w2 ⟨rfl, bel2⟩
  have b2 : Blk w2 w1.heap.size 104 [.bool false, .bool true, .int .i64 2, .int .i64 2, .int .u64 9223090561880162301, .int .u64 133] := Blk.keep (Blk.new w1 _ _ rfl) bel2
  replace b0 := Blk.keep (Blk.alloc b0 _) bel2
  have hh2 : w.heap.size < w1.heap.size := by omega
  replace bel := (bel.alloc bel.size _).trans (bel2.mono (Nat.le_trans bel.size (by simp)))
  have hg2 : w.heap.size < w2.heap.size := Nat.lt_of_lt_of_le (show w.heap.size < w1.heap.size by omega) (Nat.le_trans (by simp) bel2.size)
  clear bel2
  go_wp2_with fail
  rw [rounds_succ]
  go_wp2_with fail
  refine (hf3.out _).mono ?_
  rintro e w3 ⟨rfl, bel3⟩
  have b3 : Blk w3 w2.heap.size 104 [.bool true, .bool false, .int .i64 2, .int .i64 4, .int .u64 18446462598732845055, .int .u64 7] := Blk.keep (Blk.new w2 _ _ rfl) bel3
  replace b0 := Blk.keep (Blk.alloc b0 _) bel3
  have hh3 : w.heap.size < w2.heap.size := by omega
  replace bel := (bel.alloc bel.size _).trans (bel3.mono (Nat.le_trans bel.size (by simp)))
  have hg3 : w.heap.size < w3.heap.size := Nat.lt_of_lt_of_le hg2 (Nat.le_trans (by simp) bel3.size)
  clear bel3
  go_wp2_with fail
  refine (ht.out _).mono ?_
  rintro e wt ⟨rfl, belt⟩
  replace b0 := b0.keep belt
  replace b3 := b3.keep belt
  replace bel := bel.trans (belt.mono bel.size)
  clear belt
  have c0 : wt.cell? ⟨w2.heap.size, 0, none⟩ = some (.bool true) := b3.cell rfl
  have c1 : wt.cell? ⟨w2.heap.size, 1, none⟩ = some (.bool false) := b3.cell rfl
  have z0 : wt.cell? ⟨w.heap.size, 0, none⟩ = some (.bool false) := b0.cell rfl
  have z1 : wt.cell? ⟨w.heap.size, 1, none⟩ = some (.bool false) := b0.cell rfl
  have z2 : wt.cell? ⟨w.heap.size, 2, none⟩ = some (.int .i64 0) := b0.cell rfl
  have z3 : wt.cell? ⟨w.heap.size, 3, none⟩ = some (.int .u64 0) := b0.cell rfl
  have zf : ∀ i, wt.frozen? ⟨w.heap.size, i, none⟩ = false := b0.fz
  have ne1 : ¬ w2.heap.size = w.heap.size := by omega
  have ne2 : ¬ w.heap.size = w2.heap.size := by omega
  go_wp2_with fail
  go_region_held3 (fun w' => w'.cell? ⟨w2.heap.size, 0, none⟩ = some (.bool true) ∧ w'.cell? ⟨w2.heap.size, 1, none⟩ = some (.bool false)) (first | assumption | go_keep)
    (first | (go_at_call 64; refine (hpm.out _).mono ?_; rintro e w3 ⟨rfl, rfl⟩))
  go_wp2
  have hB : Blk _ w.heap.size 57 [.bool true, .bool false, .int .i64 (EN.perm x), .int .u64 ((EN.frame x : Nat) : Int)] := ((((b0.set 0 (.bool true)).set 1 (.bool false)).set 2 (.int .i64 (EN.perm x))).set 3 (.int .u64 ((EN.frame x : Nat) : Int)))
  refine bodyPost_ret (res_ent rfl _ _ rfl hB rfl rfl rfl rfl) rfl ⟨rfl, Below.drew ((((bel.setCell (Nat.le_refl _) _).setCell (Nat.le_refl _) _).setCell (Nat.le_refl _) _).setCell (Nat.le_refl _) _)⟩

set_option maxRecDepth 100000 in
set_option maxHeartbeats 2000000 in
theorem read_none (x : Nat) (L : Int) (hx : x < 18446744073709551616) (n1 : ¬ ((1 : Int) ≤ L ∧ L ≤ 1 ∧ EN.page x = true)) (n2 : ¬ ((2 : Int) ≤ L ∧ L ≤ 2 ∧ EN.huge x = true)) (n3 : ¬ ((2 : Int) ≤ L ∧ L ≤ 4 ∧ EN.table x = true)) (w : World) (hk : KT w) :
    Calls Tryd.prog 47 #[.int .u64 x, .int .i64 L] w fun e w' => e = .returned (.tuple #[.agg #[.bool false, .bool false, .int .i64 0, .int .u64 0], .bool false]) ∧ Below w.heap.size w w' := by
  have hlt := hk.lt
  obtain ⟨e0, fr0, hk⟩ := hk
  have i1 := at_kind1
  have i2 := at_kind2
  have i3 := at_kind3
  have hf1 := W_hid (fun w => kfits_any false false false 1 1 L 9223090561878069245 5 x hx (by decide) ⟨fun h => absurd h (by decide), fun h => absurd ⟨h.1, h.2.1, (EN.page_and x hx).1 h.2.2⟩ n1⟩ w)
  have hf2 := W_hid (fun w => kfits_any false true false 2 2 L 9223090561880162301 133 x hx (by decide) ⟨fun h => absurd h (by decide), fun h => absurd ⟨h.1, h.2.1, (EN.huge_and x hx).1 h.2.2⟩ n2⟩ w)
  have hf3 := W_hid (fun w => kfits_any true false false 2 4 L 18446462598732845055 7 x hx (by decide) ⟨fun h => absurd h (by decide), fun h => absurd ⟨h.1, h.2.1, (EN.table_and x hx).1 h.2.2⟩ n3⟩ w)
  clear n1 n2 n3
  go_enter Tryd.func47, Tryd.ntmps47
  go_wp2_with (refine wpList_load_row rfl 105 _ rfl 0 rfl e0 kcl.toArray fr0 _ ((Below.heap_alloc _ _ _ hlt).trans hk) Tryd.underlying105 rfl kinds_info ?_)
  refine wp_loop_rounds 4 ?_
  rw [rounds_succ]
  go_wp2_with fail
  refine (hf1.out _).mono ?_
  rintro e w1 ⟨rfl, bel1⟩
  have b0 : Blk w1 w.heap.size 57 [.bool false, .bool false, .int .i64 0, .int .u64 0] := Blk.keep (Blk.alloc (Blk.new w _ _ rfl) _) bel1
  have b1 : Blk w1 (w.heap.size + 1) 104 [.bool false, .bool false, .int .i64 1, .int .i64 1, .int .u64 9223090561878069245, .int .u64 5] := Blk.keep (Blk.new (w.alloc _) _ _ (by simp)) bel1
  have hg1 : w.heap.size + 1 < w1.heap.size := b1.lt
  have bel : Below w.heap.size w w1 := ((((Below.refl _ _).alloc (Nat.le_refl _) _).alloc (by simp) _).trans (bel1.mono (by simp; omega)))
  clear bel1
  obtain ⟨g1, hgg1⟩ : ∃ g1, w.heap.size + 1 = g1 := ⟨_, rfl⟩
  rw [hgg1] at b1 hg1
  go_wp2_with fail
  rw [rounds_succ]
  go_wp2_with fail
  refine (hf2.out _).mono ?_
  rintro e w2 ⟨rfl, bel2⟩
  have b2 : Blk w2 w1.heap.size 104 [.bool false, .bool true, .int .i64 2, .int .i64 2, .int .u64 9223090561880162301, .int .u64 133] := Blk.keep (Blk.new w1 _ _ rfl) bel2
  replace b0 := Blk.keep (Blk.alloc b0 _) bel2
  have hh2 : w.heap.size < w1.heap.size := by omega
  replace bel := (bel.alloc bel.size _).trans (bel2.mono (Nat.le_trans bel.size (by simp)))
  have hg2 : w.heap.size < w2.heap.size := Nat.lt_of_lt_of_le (show w.heap.size < w1.heap.size by omega) (Nat.le_trans (by simp) bel2.size)
  clear bel2
  go_wp2_with fail
  rw [rounds_succ]
  go_wp2_with fail
  refine (hf3.out _).mono ?_
  rintro e w3 ⟨rfl, bel3⟩
  have b3 : Blk w3 w2.heap.size 104 [.bool true, .bool false, .int .i64 2, .int .i64 4, .int .u64 18446462598732845055, .int .u64 7] := Blk.keep (Blk.new w2 _ _ rfl) bel3
  replace b0 := Blk.keep (Blk.alloc b0 _) bel3
  have hh3 : w.heap.size < w2.heap.size := by omega
  replace bel := (bel.alloc bel.size _).trans (bel3.mono (Nat.le_trans bel.size (by simp)))
  have hg3 : w.heap.size < w3.heap.size := Nat.lt_of_lt_of_le hg2 (Nat.le_trans (by simp) bel3.size)
  clear bel3
  go_wp2_with fail
  rw [rounds_succ]
  have z0 : w3.cell? ⟨w.heap.size, 0, none⟩ = some (.bool false) := b0.cell rfl
  have z1 : w3.cell? ⟨w.heap.size, 1, none⟩ = some (.bool false) := b0.cell rfl
  have z2 : w3.cell? ⟨w.heap.size, 2, none⟩ = some (.int .i64 0) := b0.cell rfl
  have z3 : w3.cell? ⟨w.heap.size, 3, none⟩ = some (.int .u64 0) := b0.cell rfl
  have zf : ∀ i, w3.frozen? ⟨w.heap.size, i, none⟩ = false := b0.fz
  go_wp2
  have hB : Blk _ w.heap.size 57 [.bool false, .bool false, .int .i64 0, .int .u64 0] := ((((b0.set 0 (.bool false)).set 1 (.bool false)).set 2 (.int .i64 0)).set 3 (.int .u64 0))
  refine bodyPost_ret (res_ent rfl _ _ rfl hB rfl rfl rfl rfl) rfl ⟨rfl, ((((bel.setCell (Nat.le_refl _) _).setCell (Nat.le_refl _) _).setCell (Nat.le_refl _) _).setCell (Nat.le_refl _) _)⟩

/-- What a word says at a level, whatever they are. -/
theorem read_any (x : Nat) (L : Int) (hx : x < 18446744073709551616) (w : World) (hk : KT w) :
    Calls Tryd.prog 47 #[.int .u64 x, .int .i64 L] w fun e w' => e = .returned (said (EN.rd x L)) ∧ Below w.heap.size w w' := by
  by_cases c1 : L = 1 ∧ EN.page x = true
  · have e1 : EN.rd x L = some (false, false, EN.perm x, EN.frame x) := by unfold EN.rd; rw [if_pos c1]
    rw [e1]
    exact read_one x L hx ⟨by omega, by omega, c1.2⟩ w hk
  · have n1 : ¬ ((1 : Int) ≤ L ∧ L ≤ 1 ∧ EN.page x = true) := fun h => c1 ⟨by omega, h.2.2⟩
    by_cases c2 : L = 2 ∧ EN.huge x = true
    · have e1 : EN.rd x L = some (false, true, EN.perm x, EN.frame x) := by unfold EN.rd; rw [if_neg c1, if_pos c2]
      rw [e1]
      exact read_two x L hx n1 ⟨by omega, by omega, c2.2⟩ w hk
    · have n2 : ¬ ((2 : Int) ≤ L ∧ L ≤ 2 ∧ EN.huge x = true) := fun h => c2 ⟨by omega, h.2.2⟩
      by_cases c3 : (2 ≤ L ∧ L ≤ 4) ∧ EN.table x = true
      · have e1 : EN.rd x L = some (true, false, EN.perm x, EN.frame x) := by unfold EN.rd; rw [if_neg c1, if_neg c2, if_pos c3]
        rw [e1]
        exact read_three x L hx n1 n2 ⟨c3.1.1, c3.1.2, c3.2⟩ w hk
      · have n3 : ¬ ((2 : Int) ≤ L ∧ L ≤ 4 ∧ EN.table x = true) := fun h => c3 ⟨⟨h.1, h.2.1⟩, h.2.2⟩
        have e1 : EN.rd x L = none := by unfold EN.rd; rw [if_neg c1, if_neg c2, if_neg c3]
        rw [e1]
        exact read_none x L hx n1 n2 n3 w hk

end Go.Proofs.YthiojnbnhagcgaaDoor

/- How a pool lies in memory: the program's own, and the document's. -/
import Derived.Test.YthdohimjcjkneaaGreatDoorZL01
import Derived.Deep.RegionHeld3
import Derived.Laws.StructEq
import Derived.Deep.MidRow
import Derived.WalkLawsBesides
import Derived.BigQuiet
import Derived.StillTailTactics

/- Contract of package entry's read: which entry a word says at a level, for every word and level. -/
namespace Go.Proofs.YthdohimjcjkneaaGreatDoor
open Go.ChangeShapes Go.WideShapes Go.ChangeAt Go.RowKit
set_option linter.unusedVariables false
set_option linter.unusedSimpArgs false

theorem res_ent {fn : Func} {r t : Tmp} (hres : fn.results = #[.cell r 131, .tmp t]) (tmps : Array Value) (w : World) {g : Nat} {v0 v1 v2 v3 : Value} (hr : tmps.getD r undef = .pointer (some ⟨g, 0, none⟩)) (hp : Blk w g 131 [v0, v1, v2, v3])
    (h0 : v0.oneCell' = true) (h1 : v1.oneCell' = true) (h2 : v2.oneCell' = true) (h3 : v3.oneCell' = true) :
    (results fn tmps).run Tryz.prog w = .ok (.tuple #[.agg #[v0, v1, v2, v3], tmps.getD t undef]) w := by
  have c0 : w.cell? ⟨g, 0, none⟩ = some v0 := hp.cell rfl
  have c1 : w.cell? ⟨g, 1, none⟩ = some v1 := hp.cell rfl
  have c2 : w.cell? ⟨g, 2, none⟩ = some v2 := hp.cell rfl
  have c3 : w.cell? ⟨g, 3, none⟩ = some v3 := hp.cell rfl
  rw [Array.getD_eq_getD_getElem?] at hr
  simp [results, hres, go_sem, hr, c0, c1, c2, c3]

def kind1 : Value := .agg #[.bool false, .bool false, .int .i64 1, .int .i64 1, .int .u64 9223090561878069245, .int .u64 5]
def kind2 : Value := .agg #[.bool false, .bool true, .int .i64 2, .int .i64 2, .int .u64 9223090561880162301, .int .u64 133]
def kind3 : Value := .agg #[.bool true, .bool false, .int .i64 2, .int .i64 4, .int .u64 18446462598732845055, .int .u64 7]
theorem at_kind1 (w : World) : (Instr.index 212 (.agg kcl.toArray) (.int .i64 0)).run Tryz.prog w = .ok (.agg #[.bool false, .bool false, .int .i64 1, .int .i64 1, .int .u64 9223090561878069245, .int .u64 5]) w := by kernel_rfl
theorem at_kind2 (w : World) : (Instr.index 212 (.agg kcl.toArray) (.int .i64 1)).run Tryz.prog w = .ok (.agg #[.bool false, .bool true, .int .i64 2, .int .i64 2, .int .u64 9223090561880162301, .int .u64 133]) w := by kernel_rfl
theorem at_kind3 (w : World) : (Instr.index 212 (.agg kcl.toArray) (.int .i64 2)).run Tryz.prog w = .ok (.agg #[.bool true, .bool false, .int .i64 2, .int .i64 4, .int .u64 18446462598732845055, .int .u64 7]) w := by kernel_rfl
theorem kinds_info : (Tryz.prog.info? 212).map (·.size) = some kcl.toArray.size := by kernel_rfl

set_option maxRecDepth 100000 in
set_option maxHeartbeats 2000000 in
theorem read_one (x : Nat) (L : Int) (hx : x < 18446744073709551616) (y1 : (1 : Int) ≤ L ∧ L ≤ 1 ∧ EN.page x = true) (w : World) (hk : KT w) :
    Calls Tryz.prog 132 #[.int .u64 x, .int .i64 L] w fun e w' => e = .returned (.tuple #[.agg #[.bool false, .bool false, .int .i64 (EN.perm x), .int .u64 ((EN.frame x : Nat) : Int)], .bool true]) ∧ Below w.heap.size w w' := by
  have hlt := hk.lt
  obtain ⟨e0, fr0, hk⟩ := hk
  have i1 := at_kind1
  have hf1 := W_hid (fun w => kfits_any false false true 1 1 L 9223090561878069245 5 x hx (by decide) ⟨fun _ => ⟨y1.1, y1.2.1, (EN.page_and x hx).2 y1.2.2⟩, fun _ => rfl⟩ w)
  have ht := W_hid (fun w => take_yes x 12 36 hx (by decide) w)
  rw [show WM.take x 12 36 = EN.frame x from rfl] at ht
  have hpm := W_hid (fun w => perm_any x hx w)
  clear y1
  go_enter Tryz.func132, Tryz.ntmps132
  go_wp2_with (refine wpList_load_row rfl 212 _ rfl 0 rfl e0 kcl.toArray fr0 _ ((Below.heap_alloc _ _ _ hlt).trans hk) Tryz.underlying212 rfl kinds_info ?_)
  refine wp_loop_rounds 1 ?_
  rw [rounds_succ]
  go_wp2_with fail
  refine (hf1.out _).mono ?_
  rintro e w1 ⟨rfl, bel1⟩
  have b0 : Blk w1 w.heap.size 131 [.bool false, .bool false, .int .i64 0, .int .u64 0] := Blk.keep (Blk.alloc (Blk.new w _ _ rfl) _) bel1
  have b1 : Blk w1 (w.heap.size + 1) 211 [.bool false, .bool false, .int .i64 1, .int .i64 1, .int .u64 9223090561878069245, .int .u64 5] := Blk.keep (Blk.new (w.alloc _) _ _ (by simp)) bel1
  have hg1 : w.heap.size + 1 < w1.heap.size := b1.lt
  have bel : Below w.heap.size w w1 := ((((Below.refl _ _).alloc (Nat.le_refl _) _).alloc (by simp) _).trans (bel1.mono (by simp; omega)))
  clear bel1
  obtain ⟨g1, hgg1⟩ : ∃ g1, w.heap.size + 1 = g1 := ⟨_, rfl⟩
  rw [hgg1] at b1 hg1
  subst hgg1
  go_wp2_with fail
  refine (ht.out _).mono ?_
  rintro e wt ⟨rfl, belt⟩
  replace b0 := b0.keep belt
  replace b1 := b1.keep belt
  replace bel := bel.trans (belt.mono bel.size)
  clear belt
  have c0 : wt.cell? ⟨w.heap.size + 1, 0, none⟩ = some (.bool false) := b1.cell rfl
  have c1 : wt.cell? ⟨w.heap.size + 1, 1, none⟩ = some (.bool false) := b1.cell rfl
  have z0 : wt.cell? ⟨w.heap.size, 0, none⟩ = some (.bool false) := b0.cell rfl
  have z1 : wt.cell? ⟨w.heap.size, 1, none⟩ = some (.bool false) := b0.cell rfl
  have z2 : wt.cell? ⟨w.heap.size, 2, none⟩ = some (.int .i64 0) := b0.cell rfl
  have z3 : wt.cell? ⟨w.heap.size, 3, none⟩ = some (.int .u64 0) := b0.cell rfl
  have zf : ∀ i, wt.frozen? ⟨w.heap.size, i, none⟩ = false := b0.fz
  go_wp2_with fail
  go_region_held3 (fun w' => w'.cell? ⟨w.heap.size + 1, 0, none⟩ = some (.bool false) ∧ w'.cell? ⟨w.heap.size + 1, 1, none⟩ = some (.bool false)) (first | assumption | go_keep)
    (first | (go_at_call 178; refine (hpm.out _).mono ?_; rintro e w3 ⟨rfl, rfl⟩))
  go_wp2
  have hB : Blk _ w.heap.size 131 [.bool false, .bool false, .int .i64 (EN.perm x), .int .u64 ((EN.frame x : Nat) : Int)] := ((((b0.set 0 (.bool false)).set 1 (.bool false)).set 2 (.int .i64 (EN.perm x))).set 3 (.int .u64 ((EN.frame x : Nat) : Int)))
  refine bodyPost_ret (res_ent rfl _ _ rfl hB rfl rfl rfl rfl) rfl ⟨rfl, Below.drew ((((bel.setCell (Nat.le_refl _) _).setCell (Nat.le_refl _) _).setCell (Nat.le_refl _) _).setCell (Nat.le_refl _) _)⟩

set_option maxRecDepth 100000 in
set_option maxHeartbeats 2000000 in
theorem read_two (x : Nat) (L : Int) (hx : x < 18446744073709551616) (n1 : ¬ ((1 : Int) ≤ L ∧ L ≤ 1 ∧ EN.page x = true)) (y2 : (2 : Int) ≤ L ∧ L ≤ 2 ∧ EN.huge x = true) (w : World) (hk : KT w) :
    Calls Tryz.prog 132 #[.int .u64 x, .int .i64 L] w fun e w' => e = .returned (.tuple #[.agg #[.bool false, .bool true, .int .i64 (EN.perm x), .int .u64 ((EN.frame x : Nat) : Int)], .bool true]) ∧ Below w.heap.size w w' := by
  have hlt := hk.lt
  obtain ⟨e0, fr0, hk⟩ := hk
  have i1 := at_kind1
  have i2 := at_kind2
  have hf1 := W_hid (fun w => kfits_any false false false 1 1 L 9223090561878069245 5 x hx (by decide) ⟨fun h => absurd h (by decide), fun h => absurd ⟨h.1, h.2.1, (EN.page_and x hx).1 h.2.2⟩ n1⟩ w)
  have hf2 := W_hid (fun w => kfits_any false true true 2 2 L 9223090561880162301 133 x hx (by decide) ⟨fun _ => ⟨y2.1, y2.2.1, (EN.huge_and x hx).2 y2.2.2⟩, fun _ => rfl⟩ w)
  have ht := W_hid (fun w => take_yes x 12 36 hx (by decide) w)
  rw [show WM.take x 12 36 = EN.frame x from rfl] at ht
  have hpm := W_hid (fun w => perm_any x hx w)
  clear n1 y2
  go_enter Tryz.func132, Tryz.ntmps132
  go_wp2_with (refine wpList_load_row rfl 212 _ rfl 0 rfl e0 kcl.toArray fr0 _ ((Below.heap_alloc _ _ _ hlt).trans hk) Tryz.underlying212 rfl kinds_info ?_)
  refine wp_loop_rounds 2 ?_
  rw [rounds_succ]
  go_wp2_with fail
  refine (hf1.out _).mono ?_
  rintro e w1 ⟨rfl, bel1⟩
  have b0 : Blk w1 w.heap.size 131 [.bool false, .bool false, .int .i64 0, .int .u64 0] := Blk.keep (Blk.alloc (Blk.new w _ _ rfl) _) bel1
  have b1 : Blk w1 (w.heap.size + 1) 211 [.bool false, .bool false, .int .i64 1, .int .i64 1, .int .u64 9223090561878069245, .int .u64 5] := Blk.keep (Blk.new (w.alloc _) _ _ (by simp)) bel1
  have hg1 : w.heap.size + 1 < w1.heap.size := b1.lt
  have bel : Below w.heap.size w w1 := ((((Below.refl _ _).alloc (Nat.le_refl _) _).alloc (by simp) _).trans (bel1.mono (by simp; omega)))
  clear bel1
  obtain ⟨g1, hgg1⟩ : ∃ g1, w.heap.size + 1 = g1 := ⟨_, rfl⟩
  rw [hgg1] at b1 hg1
  go_wp2_with fail
  rw [rounds_succ]
  go_wp2_with fail
  refine (hf2.out _).mono ?_
  rintro e w2 ⟨rfl, bel2⟩
  have b2 : Blk w2 w1.heap.size 211 [.bool false, .bool true, .int .i64 2, .int .i64 2, .int .u64 9223090561880162301, .int .u64 133] := Blk.keep (Blk.new w1 _ _ rfl) bel2
  replace b0 := Blk.keep (Blk.alloc b0 _) bel2
  have hh2 : w.heap.size < w1.heap.size := by omega
  replace bel := (bel.alloc bel.size _).trans (bel2.mono (Nat.le_trans bel.size (by simp)))
  have hg2 : w.heap.size < w2.heap.size := Nat.lt_of_lt_of_le (show w.heap.size < w1.heap.size by omega) (Nat.le_trans (by simp) bel2.size)
  clear bel2
  go_wp2_with fail
  refine (ht.out _).mono ?_
  rintro e wt ⟨rfl, belt⟩
  replace b0 := b0.keep belt
  replace b2 := b2.keep belt
  replace bel := bel.trans (belt.mono bel.size)
  clear belt
  have c0 : wt.cell? ⟨w1.heap.size, 0, none⟩ = some (.bool false) := b2.cell rfl
  have c1 : wt.cell? ⟨w1.heap.size, 1, none⟩ = some (.bool true) := b2.cell rfl
  have z0 : wt.cell? ⟨w.heap.size, 0, none⟩ = some (.bool false) := b0.cell rfl
  have z1 : wt.cell? ⟨w.heap.size, 1, none⟩ = some (.bool false) := b0.cell rfl
  have z2 : wt.cell? ⟨w.heap.size, 2, none⟩ = some (.int .i64 0) := b0.cell rfl
  have z3 : wt.cell? ⟨w.heap.size, 3, none⟩ = some (.int .u64 0) := b0.cell rfl
  have zf : ∀ i, wt.frozen? ⟨w.heap.size, i, none⟩ = false := b0.fz
  have ne1 : ¬ w1.heap.size = w.heap.size := by omega
  have ne2 : ¬ w.heap.size = w1.heap.size := by omega
  go_wp2_with fail
  go_region_held3 (fun w' => w'.cell? ⟨w1.heap.size, 0, none⟩ = some (.bool false) ∧ w'.cell? ⟨w1.heap.size, 1, none⟩ = some (.bool true)) (first | assumption | go_keep)
    (first | (go_at_call 178; refine (hpm.out _).mono ?_; rintro e w3 ⟨rfl, rfl⟩))
  go_wp2
  have hB : Blk _ w.heap.size 131 [.bool false, .bool true, .int .i64 (EN.perm x), .int .u64 ((EN.frame x : Nat) : Int)] := ((((b0.set 0 (.bool false)).set 1 (.bool true)).set 2 (.int .i64 (EN.perm x))).set 3 (.int .u64 ((EN.frame x : Nat) : Int)))
  refine bodyPost_ret (res_ent rfl _ _ rfl hB rfl rfl rfl rfl) rfl ⟨rfl, Below.drew ((((bel.setCell (Nat.le_refl _) _).setCell (Nat.le_refl _) _).setCell (Nat.le_refl _) _).setCell (Nat.le_refl _) _)⟩

set_option maxRecDepth 100000 in
set_option maxHeartbeats 2000000 in
theorem read_three (x : Nat) (L : Int) (hx : x < 18446744073709551616) (n1 : ¬ ((1 : Int) ≤ L ∧ L ≤ 1 ∧ EN.page x = true)) (n2 : ¬ ((2 : Int) ≤ L ∧ L ≤ 2 ∧ EN.huge x = true)) (y3 : (2 : Int) ≤ L ∧ L ≤ 4 ∧ EN.table x = true) (w : World) (hk : KT w) :
    Calls Tryz.prog 132 #[.int .u64 x, .int .i64 L] w fun e w' => e = .returned (.tuple #[.agg #[.bool true, .bool false, .int .i64 (EN.perm x), .int .u64 ((EN.frame x : Nat) : Int)], .bool true]) ∧ Below w.heap.size w w' := by
  have hlt := hk.lt
  obtain ⟨e0, fr0, hk⟩ := hk
  have i1 := at_kind1
  have i2 := at_kind2
  have i3 := at_kind3
  have hf1 := W_hid (fun w => kfits_any false false false 1 1 L 9223090561878069245 5 x hx (by decide) ⟨fun h => absurd h (by decide), fun h => absurd ⟨h.1, h.2.1, (EN.page_and x hx).1 h.2.2⟩ n1⟩ w)
  have hf2 := W_hid (fun w => kfits_any false true false 2 2 L 9223090561880162301 133 x hx (by decide) ⟨fun h => absurd h (by decide), fun h => absurd ⟨h.1, h.2.1, (EN.huge_and x hx).1 h.2.2⟩ n2⟩ w)
  have hf3 := W_hid (fun w => kfits_any true false true 2 4 L 18446462598732845055 7 x hx (by decide) ⟨fun _ => ⟨y3.1, y3.2.1, (EN.table_and x hx).2 y3.2.2⟩, fun _ => rfl⟩ w)
  have ht := W_hid (fun w => take_yes x 12 36 hx (by decide) w)
  rw [show WM.take x 12 36 = EN.frame x from rfl] at ht
  have hpm := W_hid (fun w => perm_any x hx w)
  clear n1 n2 y3
  go_enter Tryz.func132, Tryz.ntmps132
  go_wp2_with (refine wpList_load_row rfl 212 _ rfl 0 rfl e0 kcl.toArray fr0 _ ((Below.heap_alloc _ _ _ hlt).trans hk) Tryz.underlying212 rfl kinds_info ?_)
  refine wp_loop_rounds 3 ?_
  rw [rounds_succ]
  go_wp2_with fail
  refine (hf1.out _).mono ?_
  rintro e w1 ⟨rfl, bel1⟩
  have b0 : Blk w1 w.heap.size 131 [.bool false, .bool false, .int .i64 0, .int .u64 0] := Blk.keep (Blk.alloc (Blk.new w _ _ rfl) _) bel1
  have b1 : Blk w1 (w.heap.size + 1) 211 [.bool false, .bool false, .int .i64 1, .int .i64 1, .int .u64 9223090561878069245, .int .u64 5] := Blk.keep (Blk.new (w.alloc _) _ _ (by simp)) bel1
  have hg1 : w.heap.size + 1 < w1.heap.size := b1.lt
  have bel : Below w.heap.size w w1 := ((((Below.refl _ _).alloc (Nat.le_refl _) _).alloc (by simp) _).trans (bel1.mono (by simp; omega)))
  clear bel1
  obtain ⟨g1, hgg1⟩ : ∃ g1, w.heap.size + 1 = g1 := ⟨_, rfl⟩
  rw [hgg1] at b1 hg1
  go_wp2_with fail
  rw [rounds_succ]
  go_wp2_with fail
  refine (hf2.out _).mono ?_
  rintro e w2 ⟨rfl, bel2⟩
  have b2 : Blk w2 w1.heap.size 211 [.bool false, .bool true, .int .i64 2, .int .i64 2, .int .u64 9223090561880162301, .int .u64 133] := Blk.keep (Blk.new w1 _ _ rfl) bel2
  replace b0 := Blk.keep (Blk.alloc b0 _) bel2
  have hh2 : w.heap.size < w1.heap.size := by omega
  replace bel := (bel.alloc bel.size _).trans (bel2.mono (Nat.le_trans bel.size (by simp)))
  have hg2 : w.heap.size < w2.heap.size := Nat.lt_of_lt_of_le (show w.heap.size < w1.heap.size by omega) (Nat.le_trans (by simp) bel2.size)
  clear bel2
  go_wp2_with fail
  rw [rounds_succ]
  go_wp2_with fail
  refine (hf3.out _).mono ?_
  rintro e w3 ⟨rfl, bel3⟩
  have b3 : Blk w3 w2.heap.size 211 [.bool true, .bool false, .int .i64 2, .int .i64 4, .int .u64 18446462598732845055, .int .u64 7] := Blk.keep (Blk.new w2 _ _ rfl) bel3
  replace b0 := Blk.keep (Blk.alloc b0 _) bel3
  have hh3 : w.heap.size < w2.heap.size := by omega
  replace bel := (bel.alloc bel.size _).trans (bel3.mono (Nat.le_trans bel.size (by simp)))
  have hg3 : w.heap.size < w3.heap.size := Nat.lt_of_lt_of_le hg2 (Nat.le_trans (by simp) bel3.size)
  clear bel3
  go_wp2_with fail
  refine (ht.out _).mono ?_
  rintro e wt ⟨rfl, belt⟩
  replace b0 := b0.keep belt
  replace b3 := b3.keep belt
  replace bel := bel.trans (belt.mono bel.size)
  clear belt
  have c0 : wt.cell? ⟨w2.heap.size, 0, none⟩ = some (.bool true) := b3.cell rfl
  have c1 : wt.cell? ⟨w2.heap.size, 1, none⟩ = some (.bool false) := b3.cell rfl
  have z0 : wt.cell? ⟨w.heap.size, 0, none⟩ = some (.bool false) := b0.cell rfl
  have z1 : wt.cell? ⟨w.heap.size, 1, none⟩ = some (.bool false) := b0.cell rfl
  have z2 : wt.cell? ⟨w.heap.size, 2, none⟩ = some (.int .i64 0) := b0.cell rfl
  have z3 : wt.cell? ⟨w.heap.size, 3, none⟩ = some (.int .u64 0) := b0.cell rfl
  have zf : ∀ i, wt.frozen? ⟨w.heap.size, i, none⟩ = false := b0.fz
  have ne1 : ¬ w2.heap.size = w.heap.size := by omega
  have ne2 : ¬ w.heap.size = w2.heap.size := by omega
  go_wp2_with fail
  go_region_held3 (fun w' => w'.cell? ⟨w2.heap.size, 0, none⟩ = some (.bool true) ∧ w'.cell? ⟨w2.heap.size, 1, none⟩ = some (.bool false)) (first | assumption | go_keep)
    (first | (go_at_call 178; refine (hpm.out _).mono ?_; rintro e w3 ⟨rfl, rfl⟩))
  go_wp2
  have hB : Blk _ w.heap.size 131 [.bool true, .bool false, .int .i64 (EN.perm x), .int .u64 ((EN.frame x : Nat) : Int)] := ((((b0.set 0 (.bool true)).set 1 (.bool false)).set 2 (.int .i64 (EN.perm x))).set 3 (.int .u64 ((EN.frame x : Nat) : Int)))
  refine bodyPost_ret (res_ent rfl _ _ rfl hB rfl rfl rfl rfl) rfl ⟨rfl, Below.drew ((((bel.setCell (Nat.le_refl _) _).setCell (Nat.le_refl _) _).setCell (Nat.le_refl _) _).setCell (Nat.le_refl _) _)⟩

set_option maxRecDepth 100000 in
set_option maxHeartbeats 2000000 in
theorem read_none (x : Nat) (L : Int) (hx : x < 18446744073709551616) (n1 : ¬ ((1 : Int) ≤ L ∧ L ≤ 1 ∧ EN.page x = true)) (n2 : ¬ ((2 : Int) ≤ L ∧ L ≤ 2 ∧ EN.huge x = true)) (n3 : ¬ ((2 : Int) ≤ L ∧ L ≤ 4 ∧ EN.table x = true)) (w : World) (hk : KT w) :
    Calls Tryz.prog 132 #[.int .u64 x, .int .i64 L] w fun e w' => e = .returned (.tuple #[.agg #[.bool false, .bool false, .int .i64 0, .int .u64 0], .bool false]) ∧ Below w.heap.size w w' := by
  have hlt := hk.lt
  obtain ⟨e0, fr0, hk⟩ := hk
  have i1 := at_kind1
  have i2 := at_kind2
  have i3 := at_kind3
  have hf1 := W_hid (fun w => kfits_any false false false 1 1 L 9223090561878069245 5 x hx (by decide) ⟨fun h => absurd h (by decide), fun h => absurd ⟨h.1, h.2.1, (EN.page_and x hx).1 h.2.2⟩ n1⟩ w)
  have hf2 := W_hid (fun w => kfits_any false true false 2 2 L 9223090561880162301 133 x hx (by decide) ⟨fun h => absurd h (by decide), fun h => absurd ⟨h.1, h.2.1, (EN.huge_and x hx).1 h.2.2⟩ n2⟩ w)
  have hf3 := W_hid (fun w => kfits_any true false false 2 4 L 18446462598732845055 7 x hx (by decide) ⟨fun h => absurd h (by decide), fun h => absurd ⟨h.1, h.2.1, (EN.table_and x hx).1 h.2.2⟩ n3⟩ w)
  clear n1 n2 n3
  go_enter Tryz.func132, Tryz.ntmps132
  go_wp2_with (refine wpList_load_row rfl 212 _ rfl 0 rfl e0 kcl.toArray fr0 _ ((Below.heap_alloc _ _ _ hlt).trans hk) Tryz.underlying212 rfl kinds_info ?_)
  refine wp_loop_rounds 4 ?_
  rw [rounds_succ]
  go_wp2_with fail
  refine (hf1.out _).mono ?_
  rintro e w1 ⟨rfl, bel1⟩
  have b0 : Blk w1 w.heap.size 131 [.bool false, .bool false, .int .i64 0, .int .u64 0] := Blk.keep (Blk.alloc (Blk.new w _ _ rfl) _) bel1
  have b1 : Blk w1 (w.heap.size + 1) 211 [.bool false, .bool false, .int .i64 1, .int .i64 1, .int .u64 9223090561878069245, .int .u64 5] := Blk.keep (Blk.new (w.alloc _) _ _ (by simp)) bel1
  have hg1 : w.heap.size + 1 < w1.heap.size := b1.lt
  have bel : Below w.heap.size w w1 := ((((Below.refl _ _).alloc (Nat.le_refl _) _).alloc (by simp) _).trans (bel1.mono (by simp; omega)))
  clear bel1
  obtain ⟨g1, hgg1⟩ : ∃ g1, w.heap.size + 1 = g1 := ⟨_, rfl⟩
  rw [hgg1] at b1 hg1
  go_wp2_with fail
  rw [rounds_succ]
  go_wp2_with fail
  refine (hf2.out _).mono ?_
  rintro e w2 ⟨rfl, bel2⟩
  have b2 : Blk w2 w1.heap.size 211 [.bool false, .bool true, .int .i64 2, .int .i64 2, .int .u64 9223090561880162301, .int .u64 133] := Blk.keep (Blk.new w1 _ _ rfl) bel2
  replace b0 := Blk.keep (Blk.alloc b0 _) bel2
  have hh2 : w.heap.size < w1.heap.size := by omega
  replace bel := (bel.alloc bel.size _).trans (bel2.mono (Nat.le_trans bel.size (by simp)))
  have hg2 : w.heap.size < w2.heap.size := Nat.lt_of_lt_of_le (show w.heap.size < w1.heap.size by omega) (Nat.le_trans (by simp) bel2.size)
  clear bel2
  go_wp2_with fail
  rw [rounds_succ]
  go_wp2_with fail
  refine (hf3.out _).mono ?_
  rintro e w3 ⟨rfl, bel3⟩
  have b3 : Blk w3 w2.heap.size 211 [.bool true, .bool false, .int .i64 2, .int .i64 4, .int .u64 18446462598732845055, .int .u64 7] := Blk.keep (Blk.new w2 _ _ rfl) bel3
  replace b0 := Blk.keep (Blk.alloc b0 _) bel3
  have hh3 : w.heap.size < w2.heap.size := by omega
  replace bel := (bel.alloc bel.size _).trans (bel3.mono (Nat.le_trans bel.size (by simp)))
  have hg3 : w.heap.size < w3.heap.size := Nat.lt_of_lt_of_le hg2 (Nat.le_trans (by simp) bel3.size)
  clear bel3
  go_wp2_with fail
  rw [rounds_succ]
  have z0 : w3.cell? ⟨w.heap.size, 0, none⟩ = some (.bool false) := b0.cell rfl
  have z1 : w3.cell? ⟨w.heap.size, 1, none⟩ = some (.bool false) := b0.cell rfl
  have z2 : w3.cell? ⟨w.heap.size, 2, none⟩ = some (.int .i64 0) := b0.cell rfl
  have z3 : w3.cell? ⟨w.heap.size, 3, none⟩ = some (.int .u64 0) := b0.cell rfl
  have zf : ∀ i, w3.frozen? ⟨w.heap.size, i, none⟩ = false := b0.fz
  go_wp2
  have hB : Blk _ w.heap.size 131 [.bool false, .bool false, .int .i64 0, .int .u64 0] := ((((b0.set 0 (.bool false)).set 1 (.bool false)).set 2 (.int .i64 0)).set 3 (.int .u64 0))
  refine bodyPost_ret (res_ent rfl _ _ rfl hB rfl rfl rfl rfl) rfl ⟨rfl, ((((bel.setCell (Nat.le_refl _) _).setCell (Nat.le_refl _) _).setCell (Nat.le_refl _) _).setCell (Nat.le_refl _) _)⟩

/-- What a word says at a level, whatever they are. -/
theorem read_any (x : Nat) (L : Int) (hx : x < 18446744073709551616) (w : World) (hk : KT w) :
    Calls Tryz.prog 132 #[.int .u64 x, .int .i64 L] w fun e w' => e = .returned (said (EN.rd x L)) ∧ Below w.heap.size w w' := by
  by_cases c1 : L = 1 ∧ EN.page x = true
  · have e1 : EN.rd x L = some (false, false, EN.perm x, EN.frame x) := by unfold EN.rd; rw [if_pos c1]
    rw [e1]
    exact read_one x L hx ⟨by omega, by omega, c1.2⟩ w hk
  · have n1 : ¬ ((1 : Int) ≤ L ∧ L ≤ 1 ∧ EN.page x = true) := fun h => c1 ⟨by omega, h.2.2⟩
    by_cases c2 : L = 2 ∧ EN.huge x = true
    · have e1 : EN.rd x L = some (false, true, EN.perm x, EN.frame x) := by unfold EN.rd; rw [if_neg c1, if_pos c2]
      rw [e1]
      exact read_two x L hx n1 ⟨by omega, by omega, c2.2⟩ w hk
    · have n2 : ¬ ((2 : Int) ≤ L ∧ L ≤ 2 ∧ EN.huge x = true) := fun h => c2 ⟨by omega, h.2.2⟩
      by_cases c3 : (2 ≤ L ∧ L ≤ 4) ∧ EN.table x = true
      · have e1 : EN.rd x L = some (true, false, EN.perm x, EN.frame x) := by unfold EN.rd; rw [if_neg c1, if_neg c2, if_pos c3]
        rw [e1]
        exact read_three x L hx n1 n2 ⟨c3.1.1, c3.1.2, c3.2⟩ w hk
      · have n3 : ¬ ((2 : Int) ≤ L ∧ L ≤ 4 ∧ EN.table x = true) := fun h => c3 ⟨⟨h.1, h.2.1⟩, h.2.2⟩
        have e1 : EN.rd x L = none := by unfold EN.rd; rw [if_neg c1, if_neg c2, if_neg c3]
        rw [e1]
        exact read_none x L hx n1 n2 n3 w hk

end Go.Proofs.YthdohimjcjkneaaGreatDoor

/- Contracts of package entry's write, Encode, isLevel, Decode: for every entry, word and level. -/
namespace Go.Proofs.YthdohimjcjkneaaGreatDoor
open Go.ChangeShapes Go.WideShapes Go.ChangeAt Go.RowKit
set_option linter.unusedVariables false
set_option linter.unusedSimpArgs false

/-- The bits of an entry's word beside its frame. -/
def base (b1 H b2 : Bool) : Nat := (5 + (if b1 = true then 2 else 0) + (if H = true then 128 else 0)) + 9223372036854775808 * (if b2 = true then 1 else 0)
theorem base_lt (b1 H b2 : Bool) : base b1 H b2 < 18446744073709551616 := by cases b1 <;> cases H <;> cases b2 <;> decide
theorem base_wd (H : Bool) (P : Int) (F : Nat) (hP : EN.perms P) (hF : F < 68719476736) (b1 b2 : Bool) (h1 : b1 = true ↔ P = 3 ∨ P = 7) (h2 : b2 = true ↔ P < 4) : WM.put (base b1 H b2) 12 36 F = EN.wd H P F := by
  unfold base EN.wd
  rw [EN.put_frame _ _ _ (by split <;> split <;> decide) (by split <;> decide) hF]
  by_cases c1 : P = 3 ∨ P = 7
  · rw [if_pos (h1.2 c1), if_pos c1]
    by_cases c2 : P < 4
    · rw [if_pos (h2.2 c2), if_pos c2]; omega
    · rw [if_neg (fun h => c2 (h2.1 h)), if_neg c2]; omega
  · rw [if_neg (fun h => c1 (h1.1 h)), if_neg c1]
    by_cases c2 : P < 4
    · rw [if_pos (h2.2 c2), if_pos c2]; omega
    · rw [if_neg (fun h => c2 (h2.1 h)), if_neg c2]; omega
theorem perm_bits (P : Int) (hP : EN.perms P) : ((bits BinOp.and IntKind.i64 P 2 != 0) = true ↔ P = 3 ∨ P = 7) ∧ ((bits BinOp.and IntKind.i64 P 4 == 0) = true ↔ P < 4) := by
  rcases hP with rfl | rfl | rfl | rfl <;> decide

set_option maxRecDepth 100000 in
set_option maxHeartbeats 1000000 in
theorem write_walk (T H b1 b2 : Bool) (P : Int) (F : Nat) (hb1 : (bits BinOp.and IntKind.i64 P 2 != 0) = b1) (hb2 : (bits BinOp.and IntKind.i64 P 4 == 0) = b2) (v E : Int)
    (hput : Hid (∀ (r : Int), r = (base b1 H b2 : Int) → ∀ w, Calls Tryz.prog 176 #[.int .u64 r, .int .i64 12, .int .i64 36, .int .u64 F] w fun e w' => e = .returned (.tuple #[.int .u64 v, .int .i64 E]) ∧ Below w.heap.size w w')) (w : World) :
    Calls Tryz.prog 131 #[.agg #[.bool T, .bool H, .int .i64 P, .int .u64 F]] w fun e w' => e = .returned (.tuple #[.int .u64 v, .int .i64 E]) ∧ Below w.heap.size w w' := by
  cases b1 <;> cases b2 <;> cases H
  all_goals
    go_enter Tryz.func131, Tryz.ntmps131
    go_wp2_with fail
    refine (hput.out _ (by decide) _).mono ?_
    rintro e w1 ⟨rfl, bel⟩
    go_wp2
    go_ret2
    exact ⟨rfl, ((Below.refl _ _).alloc (Nat.le_refl _) _).trans (bel.mono (by simp))⟩

theorem write_high (T H : Bool) (P : Int) (F : Nat) (hF : ¬ F < 68719476736) (w : World) :
    Calls Tryz.prog 131 #[.agg #[.bool T, .bool H, .int .i64 P, .int .u64 F]] w fun e w' => e = .returned (.tuple #[.int .u64 0, .int .i64 2]) ∧ Below w.heap.size w w' := by
  refine write_walk T H _ _ P F rfl rfl 0 2 ?_ w
  intro r hr w
  exact put_high r 12 36 F (by decide) (by omega) w

theorem write_low (T H : Bool) (P : Int) (F : Nat) (hF : F < 68719476736) : ∃ x : Nat, x < 18446744073709551616 ∧ (EN.perms P → x = EN.wd H P F) ∧ ∀ w : World,
    Calls Tryz.prog 131 #[.agg #[.bool T, .bool H, .int .i64 P, .int .u64 F]] w fun e w' => e = .returned (.tuple #[.int .u64 (x : Int), .int .i64 0]) ∧ Below w.heap.size w w' := by
  refine ⟨WM.put (base (bits BinOp.and IntKind.i64 P 2 != 0) H (bits BinOp.and IntKind.i64 P 4 == 0)) 12 36 F, WM.put_lt _ _ _ _ (base_lt _ _ _) (by decide) (by omega), fun hP => ?_, fun w => ?_⟩
  · exact base_wd H P F hP hF _ _ (perm_bits P hP).1 (perm_bits P hP).2
  · refine write_walk T H _ _ P F rfl rfl _ 0 ?_ w
    intro r hr w
    subst hr
    exact put_yes _ 12 36 F (base_lt _ _ _) (by decide) (by omega) w

end Go.Proofs.YthdohimjcjkneaaGreatDoor

/- Contracts of package entry's isLevel and Index, and of the document's own Index: for all arguments. -/
namespace Go.Proofs.YthdohimjcjkneaaGreatDoor
open Go.ChangeShapes Go.WideShapes Go.ChangeAt Go.RowKit
set_option linter.unusedVariables false
set_option linter.unusedSimpArgs false

set_option maxRecDepth 100000 in
set_option maxHeartbeats 400000 in
theorem isLevel_yes (L : Int) (h1 : 1 ≤ L) (h4 : L ≤ 4) (w : World) :
    Calls Tryz.prog 168 #[.int .i64 L] w fun e w' => e = .returned (.bool true) ∧ w = w' := by
  have d1 : decide (1 ≤ L) = true := by simp; omega
  have d2 : decide (L ≤ 4) = true := by simp; omega
  clear h1 h4
  go_enter Tryz.func168, Tryz.ntmps168
  go_wp2
  go_ret
  exact ⟨rfl, rfl⟩

set_option maxRecDepth 100000 in
set_option maxHeartbeats 400000 in
theorem isLevel_no (L : Int) (h : ¬ (1 ≤ L ∧ L ≤ 4)) (w : World) :
    Calls Tryz.prog 168 #[.int .i64 L] w fun e w' => e = .returned (.bool false) ∧ w = w' := by
  by_cases c1 : 1 ≤ L
  · have d2 : decide (L ≤ 4) = false := by simp; omega
    clear h
    go_enter Tryz.func168, Tryz.ntmps168
    go_wp2
    go_ret
    exact ⟨rfl, rfl⟩
  · have d1 : decide (1 ≤ L) = false := by simp; omega
    clear h c1
    go_enter Tryz.func168, Tryz.ntmps168
    go_wp2
    go_ret
    exact ⟨rfl, rfl⟩

set_option maxRecDepth 100000 in
set_option maxHeartbeats 1000000 in
theorem Index_yes (va l : Nat) (hva : va < 140737488355328) (h1 : 1 ≤ l) (h4 : l ≤ 4) (w : World) :
    Calls Tryz.prog 135 #[.int .u64 va, .int .i64 l] w fun e w' => e = .returned (.tuple #[.int .i64 ((EN.idx va l : Nat) : Int), .int .i64 0]) ∧ Below w.heap.size w w' := by
  have hT : Hid (∀ (lo : Int), lo = ((12 + 9 * (l - 1) : Nat) : Int) → ∀ w : World, Calls Tryz.prog 129 #[.int .u64 va, .int .i64 lo, .int .i64 9] w fun e w' => e = .returned (.tuple #[.int .u64 ((EN.idx va l : Nat) : Int), .int .i64 0]) ∧ Below w.heap.size w w') := by
    intro lo h w
    subst h
    rw [← EN.idx_take va l h1 h4]
    exact take_yes va (12 + 9 * (l - 1)) 9 (by omega) (by omega) w
  have hL := W_hid (fun w => isLevel_yes l (by omega) (by omega) w)
  have d : decide (140737488355328 ≤ (va : Int)) = false := by simp; omega
  have hi := EN.idx_lt va l
  go_enter Tryz.func135, Tryz.ntmps135
  go_wp2_with fail
  refine (hL.out _).mono ?_
  rintro e w1 ⟨rfl, rfl⟩
  go_wp2_with fail
  refine (hT.out _ (by omega) _).mono ?_
  rintro e w2 ⟨rfl, bel⟩
  go_wp2
  go_ret2
  exact ⟨rfl, bel⟩

set_option maxRecDepth 100000 in
set_option maxHeartbeats 1000000 in
theorem Index_no (va : Nat) (L : Int) (h : ¬ (1 ≤ L ∧ L ≤ 4 ∧ va < 140737488355328)) (w : World) :
    Calls Tryz.prog 135 #[.int .u64 va, .int .i64 L] w fun e w' => e = .returned (.tuple #[.int .i64 0, .int .i64 2]) ∧ w = w' := by
  by_cases c : 1 ≤ L ∧ L ≤ 4
  · have hL := W_hid (fun w => isLevel_yes L c.1 c.2 w)
    have d : decide (140737488355328 ≤ (va : Int)) = true := by simp; omega
    clear h c
    go_enter Tryz.func135, Tryz.ntmps135
    go_wp2_with fail
    refine (hL.out _).mono ?_
    rintro e w1 ⟨rfl, rfl⟩
    go_wp2
    go_ret2
    exact ⟨rfl, rfl⟩
  · have hL := W_hid (fun w => isLevel_no L c w)
    clear h c
    go_enter Tryz.func135, Tryz.ntmps135
    go_wp2_with fail
    refine (hL.out _).mono ?_
    rintro e w1 ⟨rfl, rfl⟩
    go_wp2
    go_ret2
    exact ⟨rfl, rfl⟩

set_option maxRecDepth 100000 in
set_option maxHeartbeats 1000000 in
theorem rIndex_yes (va l : Nat) (hva : va < 140737488355328) (h1 : 1 ≤ l) (h4 : l ≤ 4) (w : World) :
    Calls Tryz.prog 72 #[.int .u64 va, .int .i64 l] w fun e w' => e = .returned (.tuple #[.int .i64 ((EN.idx va l : Nat) : Int), .int .i64 0]) ∧ w = w' := by
  have d : decide (140737488355328 ≤ (va : Int)) = false := by simp; omega
  have d1 : decide ((l : Int) < 1) = false := by simp; omega
  have d4 : decide (4 < (l : Int)) = false := by simp; omega
  go_enter Tryz.func72, Tryz.ntmps72
  go_wp2
  go_loop [0, 6] (fun o i => ∃ k : Nat, k + 1 ≤ l ∧ i = .int .i64 ((k + 1 : Nat) : Int) ∧ o = .int .u64 ((va / 512 ^ k : Nat) : Int)) (fun _ i => (l - intOf i).toNat)
  case atStart => exact ⟨0, by omega, rfl, by simp⟩
  case round =>
    obtain ⟨k, hk, rfl, rfl⟩ := hrel
    have hq : va / 512 ^ k ≤ va := Nat.div_le_self _ _
    have hs := W_hid (EN.div_succ va k)
    have he := W_hid (EN.div_sz va k)
    generalize hQ : va / 512 ^ k = q at *
    clear hQ
    by_cases hlt : k + 1 < l
    · have dd : decide (((k + 1 : Nat) : Int) < (l : Int)) = true := by simp; omega
      go_wp2
      go_round
      case rel => exact ⟨k + 1, by omega, by go_num, by rw [← hs.out]; simp⟩
      case measure => simp [intOf]; omega
    · have dd : decide (((k + 1 : Nat) : Int) < (l : Int)) = false := by simp; omega
      have hi : Hid (((q : Int) / 4096 % 512) = ((EN.idx va l : Nat) : Int)) := by
        show _ = _
        unfold EN.idx
        rw [show l - 1 = k by omega, ← he.out]; simp
      go_wp2
      go_ret2
      exact ⟨by rw [← hi.out]; rfl, rfl⟩

set_option maxRecDepth 100000 in
set_option maxHeartbeats 1000000 in
theorem rIndex_no (va : Nat) (L : Int) (h : ¬ (1 ≤ L ∧ L ≤ 4 ∧ va < 140737488355328)) (w : World) :
    Calls Tryz.prog 72 #[.int .u64 va, .int .i64 L] w fun e w' => e = .returned (.tuple #[.int .i64 0, .int .i64 2]) ∧ w = w' := by
  by_cases c1 : 1 ≤ L
  · have d1 : decide (L < 1) = false := by simp; omega
    by_cases c4 : L ≤ 4
    · have d4 : decide (4 < L) = false := by simp; omega
      have d : decide (140737488355328 ≤ (va : Int)) = true := by simp; omega
      clear h c1 c4
      go_enter Tryz.func72, Tryz.ntmps72
      go_wp2
      go_ret2
      exact ⟨rfl, rfl⟩
    · have d4 : decide (4 < L) = true := by simp; omega
      clear h c1 c4
      go_enter Tryz.func72, Tryz.ntmps72
      go_wp2
      go_ret2
      exact ⟨rfl, rfl⟩
  · have d1 : decide (L < 1) = true := by simp; omega
    clear h c1
    go_enter Tryz.func72, Tryz.ntmps72
    go_wp2
    go_ret2
    exact ⟨rfl, rfl⟩

end Go.Proofs.YthdohimjcjkneaaGreatDoor

/- Contracts of package entry's Encode and Decode: for every entry, word and level. -/
namespace Go.Proofs.YthdohimjcjkneaaGreatDoor
open Go.ChangeShapes Go.WideShapes Go.ChangeAt Go.RowKit
set_option linter.unusedVariables false
set_option linter.unusedSimpArgs false

/-- Entries are compared field by field. -/
theorem ent_neq (t h t' h' : Bool) (p p' f f' : Int) (b : Bool) (hb : b = true ↔ ¬ (t = t' ∧ h = h' ∧ p = p' ∧ f = f')) (w : World) :
    (binOp .neq 131 (.agg #[.bool t, .bool h, .int .i64 p, .int .u64 f]) (.agg #[.bool t', .bool h', .int .i64 p', .int .u64 f'])).run Tryz.prog w = .ok (.bool b) w := by
  have e : b = !(decide (t = t' ∧ h = h' ∧ p = p' ∧ f = f')) := by
    rw [Bool.eq_iff_iff, hb, Bool.not_eq_true', decide_eq_false_iff_not]
  rw [e]
  by_cases c0 : t = t'
  · by_cases c1 : h = h'
    · by_cases c2 : p = p'
      · by_cases c3 : f = f' <;> simp [go_sem, c0, c1, c2, c3]
      · simp [go_sem, c0, c1, c2]
    · simp [go_sem, c0, c1]
  · simp [go_sem, c0]

theorem res_ent3 {fn : Func} {r t u : Tmp} (hres : fn.results = #[.cell r 131, .tmp t, .tmp u]) (tmps : Array Value) (w : World) {g : Nat} {v0 v1 v2 v3 : Value} (hr : tmps.getD r undef = .pointer (some ⟨g, 0, none⟩)) (hp : Blk w g 131 [v0, v1, v2, v3]) :
    (results fn tmps).run Tryz.prog w = .ok (.tuple #[.agg #[v0, v1, v2, v3], tmps.getD t undef, tmps.getD u undef]) w := by
  have c0 : w.cell? ⟨g, 0, none⟩ = some v0 := hp.cell rfl
  have c1 : w.cell? ⟨g, 1, none⟩ = some v1 := hp.cell rfl
  have c2 : w.cell? ⟨g, 2, none⟩ = some v2 := hp.cell rfl
  have c3 : w.cell? ⟨g, 3, none⟩ = some v3 := hp.cell rfl
  rw [Array.getD_eq_getD_getElem?] at hr
  simp [results, hres, go_sem, hr, c0, c1, c2, c3]

/-- Where the word that is laid says an entry, and which. -/
theorem read_some {x : Nat} {L : Int} {t h : Bool} {p : Int} {f : Nat} (hx : x < 18446744073709551616) (hr : EN.rd x L = some (t, h, p, f)) (w : World) (hk : KT w) :
    Calls Tryz.prog 132 #[.int .u64 x, .int .i64 L] w fun e w' => e = .returned (.tuple #[.agg #[.bool t, .bool h, .int .i64 p, .int .u64 (f : Int)], .bool true]) ∧ Below w.heap.size w w' := by
  have := read_any x L hx w hk
  rw [hr] at this
  exact this
theorem read_not {x : Nat} {L : Int} (hx : x < 18446744073709551616) (hr : EN.rd x L = none) (w : World) (hk : KT w) :
    Calls Tryz.prog 132 #[.int .u64 x, .int .i64 L] w fun e w' => e = .returned (.tuple #[.agg #[.bool false, .bool false, .int .i64 0, .int .u64 0], .bool false]) ∧ Below w.heap.size w w' := by
  have := read_any x L hx w hk
  rw [hr] at this
  exact this

set_option maxRecDepth 100000 in
set_option maxHeartbeats 1000000 in
theorem Encode_fit (T H t h : Bool) (P p : Int) (F f x : Nat) (L : Int) (b : Bool) (v E : Int) (hb : b = true ↔ ¬ (t = T ∧ h = H ∧ p = P ∧ f = F)) (hv : v = if b = true then 0 else (x : Int)) (hE : E = if b = true then 2 else 0)
    (hwr : Hid (∀ w : World, Calls Tryz.prog 131 #[.agg #[.bool T, .bool H, .int .i64 P, .int .u64 F]] w fun e w' => e = .returned (.tuple #[.int .u64 (x : Int), .int .i64 0]) ∧ Below w.heap.size w w'))
    (hrd : Hid (∀ w : World, KT w → Calls Tryz.prog 132 #[.int .u64 x, .int .i64 L] w fun e w' => e = .returned (.tuple #[.agg #[.bool t, .bool h, .int .i64 p, .int .u64 (f : Int)], .bool true]) ∧ Below w.heap.size w w')) (w : World) (hk : KT w) :
    Calls Tryz.prog 81 #[.agg #[.bool T, .bool H, .int .i64 P, .int .u64 F], .int .i64 L] w fun e w' => e = .returned (.tuple #[.int .u64 v, .int .i64 E]) ∧ Below w.heap.size w w' := by
  have hn := ent_neq t h T H p P f F b (by rw [hb, Int.natCast_inj])
  replace hk := W_hid hk
  clear hb
  cases b
  all_goals
    go_enter Tryz.func81, Tryz.ntmps81
    go_wp2_with fail
    refine (hwr.out _).mono ?_
    rintro e w1 ⟨rfl, bel1⟩
    have b0 : Blk w1 w.heap.size 131 [.bool T, .bool H, .int .i64 P, .int .u64 F] := Blk.keep (Blk.new w _ _ rfl) bel1
    replace bel1 : Below w.heap.size w w1 := ((Below.refl _ _).alloc (Nat.le_refl _) _).trans (bel1.mono (by simp))
    go_wp2_with fail
    refine (hrd.out _ (hk.out.keep bel1)).mono ?_
    rintro e w2 ⟨rfl, bel2⟩
    replace b0 := b0.keep bel2
    have bel := bel1.trans (bel2.mono bel1.size)
    clear bel1 bel2
    have c0 : w2.cell? ⟨w.heap.size, 0, none⟩ = some (.bool T) := b0.cell rfl
    have c1 : w2.cell? ⟨w.heap.size, 1, none⟩ = some (.bool H) := b0.cell rfl
    have c2 : w2.cell? ⟨w.heap.size, 2, none⟩ = some (.int .i64 P) := b0.cell rfl
    have c3 : w2.cell? ⟨w.heap.size, 3, none⟩ = some (.int .u64 F) := b0.cell rfl
    have hlt : w.heap.size < w2.heap.size := b0.lt
    go_wp2
    go_ret2
    exact ⟨by rw [hv, hE]; rfl, bel.alloc bel.size _⟩

set_option maxRecDepth 100000 in
set_option maxHeartbeats 1000000 in
theorem Encode_none (T H : Bool) (P : Int) (F x : Nat) (L : Int)
    (hwr : Hid (∀ w : World, Calls Tryz.prog 131 #[.agg #[.bool T, .bool H, .int .i64 P, .int .u64 F]] w fun e w' => e = .returned (.tuple #[.int .u64 (x : Int), .int .i64 0]) ∧ Below w.heap.size w w'))
    (hrd : Hid (∀ w : World, KT w → Calls Tryz.prog 132 #[.int .u64 x, .int .i64 L] w fun e w' => e = .returned (.tuple #[.agg #[.bool false, .bool false, .int .i64 0, .int .u64 0], .bool false]) ∧ Below w.heap.size w w')) (w : World) (hk : KT w) :
    Calls Tryz.prog 81 #[.agg #[.bool T, .bool H, .int .i64 P, .int .u64 F], .int .i64 L] w fun e w' => e = .returned (.tuple #[.int .u64 0, .int .i64 2]) ∧ Below w.heap.size w w' := by
  replace hk := W_hid hk
  go_enter Tryz.func81, Tryz.ntmps81
  go_wp2_with fail
  refine (hwr.out _).mono ?_
  rintro e w1 ⟨rfl, bel1⟩
  replace bel1 : Below w.heap.size w w1 := ((Below.refl _ _).alloc (Nat.le_refl _) _).trans (bel1.mono (by simp))
  go_wp2_with fail
  refine (hrd.out _ (hk.out.keep bel1)).mono ?_
  rintro e w2 ⟨rfl, bel2⟩
  have bel := bel1.trans (bel2.mono bel1.size)
  clear bel1 bel2
  go_wp2
  go_ret2
  exact ⟨rfl, bel.alloc bel.size _⟩

set_option maxRecDepth 100000 in
set_option maxHeartbeats 1000000 in
theorem Encode_high (T H : Bool) (P : Int) (F : Nat) (L : Int) (hF : ¬ F < 68719476736) (w : World) :
    Calls Tryz.prog 81 #[.agg #[.bool T, .bool H, .int .i64 P, .int .u64 F], .int .i64 L] w fun e w' => e = .returned (.tuple #[.int .u64 0, .int .i64 2]) ∧ Below w.heap.size w w' := by
  have hwr := W_hid (fun w => write_high T H P F hF w)
  clear hF
  go_enter Tryz.func81, Tryz.ntmps81
  go_wp2_with fail
  refine (hwr.out _).mono ?_
  rintro e w1 ⟨rfl, bel1⟩
  replace bel1 : Below w.heap.size w w1 := ((Below.refl _ _).alloc (Nat.le_refl _) _).trans (bel1.mono (by simp))
  go_wp2
  go_ret2
  exact ⟨rfl, bel1⟩

/-- A valid entry has its word. -/
theorem Encode_yes (T H : Bool) (P : Int) (F : Nat) (L : Int) (h : EN.right T H P F L) (w : World) (hk : KT w) :
    Calls Tryz.prog 81 #[.agg #[.bool T, .bool H, .int .i64 P, .int .u64 F], .int .i64 L] w fun e w' => e = .returned (.tuple #[.int .u64 ((EN.wd H P F : Nat) : Int), .int .i64 0]) ∧ Below w.heap.size w w' := by
  have hF : F < 68719476736 := h.2.2.1
  have hP : EN.perms P := by rcases h.2.2.2 with ⟨-, -, -, e⟩ | ⟨-, e, -⟩; exact .inr (.inr (.inr e)); exact e
  obtain ⟨x, hx, hxw, hwr⟩ := write_low T H P F hF
  obtain rfl := hxw hP
  exact Encode_fit T H T H P P F F _ L false _ _ (by simp) (by simp) (by simp) (W_hid hwr) (W_hid (fun w hk => read_some hx (EN.right_rd h) w hk)) w hk

/-- What is none has none. -/
theorem Encode_no (T H : Bool) (P : Int) (F : Nat) (L : Int) (h : ¬ EN.right T H P F L) (w : World) (hk : KT w) :
    Calls Tryz.prog 81 #[.agg #[.bool T, .bool H, .int .i64 P, .int .u64 F], .int .i64 L] w fun e w' => e = .returned (.tuple #[.int .u64 0, .int .i64 2]) ∧ Below w.heap.size w w' := by
  by_cases hF : F < 68719476736
  · obtain ⟨x, hx, -, hwr⟩ := write_low T H P F hF
    rcases hr : EN.rd x L with _ | ⟨t, g, p, f⟩
    · exact Encode_none T H P F x L (W_hid hwr) (W_hid (fun w hk => read_not hx hr w hk)) w hk
    · refine Encode_fit T H t g P p F f x L true _ _ ?_ (by simp) (by simp) (W_hid hwr) (W_hid (fun w hk => read_some hx hr w hk)) w hk
      refine ⟨fun _ => ?_, fun _ => rfl⟩
      rintro ⟨rfl, rfl, rfl, rfl⟩
      exact h (EN.rd_right hx hr).1
  · exact Encode_high T H P F L hF w

/-! ### Decode -/
theorem below_four {w w2 : World} (h : Below w.heap.size w w2) (u0 u1 u2 u3 : Value) (o : Obj) :
    Below w.heap.size w (((((w2.setCell ⟨w.heap.size, 0, none⟩ u0).setCell ⟨w.heap.size, 1, none⟩ u1).setCell ⟨w.heap.size, 2, none⟩ u2).setCell ⟨w.heap.size, 3, none⟩ u3).alloc o) := by
  have h4 := ((((h.setCell (p := ⟨w.heap.size, 0, none⟩) (Nat.le_refl _) u0).setCell (p := ⟨w.heap.size, 1, none⟩) (Nat.le_refl _) u1).setCell (p := ⟨w.heap.size, 2, none⟩) (Nat.le_refl _) u2).setCell (p := ⟨w.heap.size, 3, none⟩) (Nat.le_refl _) u3)
  exact h4.alloc h4.size o

set_option maxRecDepth 100000 in
set_option maxHeartbeats 1000000 in
theorem Decode_level (x L : Int) (h : ¬ (1 ≤ L ∧ L ≤ 4)) (w : World) :
    Calls Tryz.prog 119 #[.int .u64 x, .int .i64 L] w fun e w' => e = .returned (.tuple #[.agg #[.bool false, .bool false, .int .i64 0, .int .u64 0], .bool false, .int .i64 2]) ∧ Below w.heap.size w w' := by
  have hL := W_hid (fun w => isLevel_no L h w)
  clear h
  go_enter Tryz.func119, Tryz.ntmps119
  go_wp2_with fail
  refine (hL.out _).mono ?_
  rintro e w1 ⟨rfl, rfl⟩
  go_wp2
  refine bodyPost_ret (res_ent3 rfl _ _ rfl (Blk.new w _ _ rfl)) rfl ⟨rfl, (Below.refl _ _).alloc (Nat.le_refl _) _⟩

set_option maxRecDepth 100000 in
set_option maxHeartbeats 1000000 in
theorem Decode_zero (L : Int) (h : 1 ≤ L ∧ L ≤ 4) (w : World) :
    Calls Tryz.prog 119 #[.int .u64 0, .int .i64 L] w fun e w' => e = .returned (.tuple #[.agg #[.bool false, .bool false, .int .i64 0, .int .u64 0], .bool false, .int .i64 0]) ∧ Below w.heap.size w w' := by
  have hL := W_hid (fun w => isLevel_yes L h.1 h.2 w)
  clear h
  go_enter Tryz.func119, Tryz.ntmps119
  go_wp2_with fail
  refine (hL.out _).mono ?_
  rintro e w1 ⟨rfl, rfl⟩
  go_wp2
  refine bodyPost_ret (res_ent3 rfl _ _ rfl (Blk.new w _ _ rfl)) rfl ⟨rfl, (Below.refl _ _).alloc (Nat.le_refl _) _⟩

set_option maxRecDepth 100000 in
set_option maxHeartbeats 1000000 in
theorem Decode_none (x : Nat) (L : Int) (hx : x < 18446744073709551616) (h : 1 ≤ L ∧ L ≤ 4) (h0 : x ≠ 0) (hr : EN.rd x L = none) (w : World) (hk : KT w) :
    Calls Tryz.prog 119 #[.int .u64 x, .int .i64 L] w fun e w' => e = .returned (.tuple #[.agg #[.bool false, .bool false, .int .i64 0, .int .u64 0], .bool false, .int .i64 106]) ∧ Below w.heap.size w w' := by
  have hL := W_hid (fun w => isLevel_yes L h.1 h.2 w)
  have hR := W_hid (fun w hk => read_not hx hr w hk)
  have e0 : ((x : Int) == 0) = false := by simp; omega
  replace hk := W_hid hk
  clear h hr h0
  go_enter Tryz.func119, Tryz.ntmps119
  go_wp2_with fail
  refine (hL.out _).mono ?_
  rintro e w1 ⟨rfl, rfl⟩
  go_wp2_with fail
  refine (hR.out _ (hk.out.alloc _)).mono ?_
  rintro e w2 ⟨rfl, bel2⟩
  have b0 : Blk w2 w.heap.size 131 [.bool false, .bool false, .int .i64 0, .int .u64 0] := Blk.keep (Blk.new w _ _ rfl) bel2
  replace bel2 : Below w.heap.size w w2 := ((Below.refl _ _).alloc (Nat.le_refl _) _).trans (bel2.mono (by simp))
  have hlt : w.heap.size < w2.heap.size := b0.lt
  have ne1 : ¬ w2.heap.size = w.heap.size := by omega
  have ne2 : ¬ w.heap.size = w2.heap.size := by omega
  have z0 : w2.cell? ⟨w.heap.size, 0, none⟩ = some (.bool false) := b0.cell rfl
  have z1 : w2.cell? ⟨w.heap.size, 1, none⟩ = some (.bool false) := b0.cell rfl
  have z2 : w2.cell? ⟨w.heap.size, 2, none⟩ = some (.int .i64 0) := b0.cell rfl
  have z3 : w2.cell? ⟨w.heap.size, 3, none⟩ = some (.int .u64 0) := b0.cell rfl
  have zf : ∀ i, w2.frozen? ⟨w.heap.size, i, none⟩ = false := b0.fz
  go_wp2
  have hB : Blk _ w.heap.size 131 [.bool false, .bool false, .int .i64 0, .int .u64 0] := (((((b0.set 0 (.bool false)).set 1 (.bool false)).set 2 (.int .i64 0)).set 3 (.int .u64 0)).alloc (.cells #[.bool false, .bool false, .int .i64 0, .int .u64 0] 131))
  refine bodyPost_ret (res_ent3 rfl _ _ rfl hB) rfl ⟨rfl, below_four bel2 _ _ _ _ _⟩

set_option maxRecDepth 100000 in
set_option maxHeartbeats 1000000 in
theorem Decode_some (x : Nat) (L : Int) (hx : x < 18446744073709551616) (t h : Bool) (p : Int) (f : Nat) (hr : EN.rd x L = some (t, h, p, f)) (w : World) (hk : KT w) :
    Calls Tryz.prog 119 #[.int .u64 x, .int .i64 L] w fun e w' => e = .returned (.tuple #[.agg #[.bool t, .bool h, .int .i64 p, .int .u64 (f : Int)], .bool true, .int .i64 0]) ∧ Below w.heap.size w w' := by
  have hrr := EN.rd_right hx hr
  have hL := W_hid (fun w => isLevel_yes L hrr.1.1 hrr.1.2.1 w)
  have hR := W_hid (fun w hk => read_some hx hr w hk)
  have e0 : ((x : Int) == 0) = false := by have := EN.wd_pos h p f; rw [hrr.2] at this; simp; omega
  replace hk := W_hid hk
  clear hrr hr
  go_enter Tryz.func119, Tryz.ntmps119
  go_wp2_with fail
  refine (hL.out _).mono ?_
  rintro e w1 ⟨rfl, rfl⟩
  go_wp2_with fail
  refine (hR.out _ (hk.out.alloc _)).mono ?_
  rintro e w2 ⟨rfl, bel2⟩
  have b0 : Blk w2 w.heap.size 131 [.bool false, .bool false, .int .i64 0, .int .u64 0] := Blk.keep (Blk.new w _ _ rfl) bel2
  replace bel2 : Below w.heap.size w w2 := ((Below.refl _ _).alloc (Nat.le_refl _) _).trans (bel2.mono (by simp))
  have hlt : w.heap.size < w2.heap.size := b0.lt
  have ne1 : ¬ w2.heap.size = w.heap.size := by omega
  have ne2 : ¬ w.heap.size = w2.heap.size := by omega
  have z0 : w2.cell? ⟨w.heap.size, 0, none⟩ = some (.bool false) := b0.cell rfl
  have z1 : w2.cell? ⟨w.heap.size, 1, none⟩ = some (.bool false) := b0.cell rfl
  have z2 : w2.cell? ⟨w.heap.size, 2, none⟩ = some (.int .i64 0) := b0.cell rfl
  have z3 : w2.cell? ⟨w.heap.size, 3, none⟩ = some (.int .u64 0) := b0.cell rfl
  have zf : ∀ i, w2.frozen? ⟨w.heap.size, i, none⟩ = false := b0.fz
  go_wp2
  have hB : Blk _ w.heap.size 131 [.bool t, .bool h, .int .i64 p, .int .u64 (f : Int)] := (((((b0.set 0 (.bool t)).set 1 (.bool h)).set 2 (.int .i64 p)).set 3 (.int .u64 (f : Int))).alloc (.cells #[.bool t, .bool h, .int .i64 p, .int .u64 (f : Int)] 131))
  refine bodyPost_ret (res_ent3 rfl _ _ rfl hB) rfl ⟨rfl, below_four bel2 _ _ _ _ _⟩

end Go.Proofs.YthdohimjcjkneaaGreatDoor

/- Contracts of package radix: span, mapping, none, and the search that goes down from the root. -/
namespace Go.Proofs.YthdohimjcjkneaaGreatDoor
open Go.ChangeShapes Go.WideShapes Go.ChangeAt Go.RowKit
set_option linter.unusedVariables false
set_option linter.unusedSimpArgs false

/-- A tree's own memory. -/
structure TM (w : World) (g pg r b : Nat) (M : Nat → Option (Nat → Nat)) : Prop where
  box : Blk w g 119 [.pointer (some ⟨pg, 0, none⟩), .int .u64 (r : Int), .map (some b)]
  mb : MB w b M
  kt : KT w
theorem TM.keep {w w' : World} {g pg r b : Nat} {M : Nat → Option (Nat → Nat)} (h : TM w g pg r b M) (hb : Below w.heap.size w w') : TM w' g pg r b M := ⟨h.box.keep hb, h.mb.keep hb, h.kt.keep hb⟩

/-- A way, as cells. -/
def wl (va : Nat) (fr : Nat → Nat) (L : Nat) (e : Bool × Bool × Int × Nat) (p : Bool) : List Value :=
  [.int .u64 (va : Int), .int .u64 (fr 0 : Int), .int .u64 (fr 1 : Int), .int .u64 (fr 2 : Int), .int .u64 (fr 3 : Int), .int .u64 (fr 4 : Int), .int .i64 (L : Int), .bool e.1, .bool e.2.1, .int .i64 e.2.2.1, .int .u64 (e.2.2.2 : Int), .bool p]

set_option maxRecDepth 100000 in
set_option maxHeartbeats 400000 in
theorem span_any (l : Nat) (h1 : 1 ≤ l) (h4 : l ≤ 4) (w : World) :
    Calls Tryz.prog 83 #[.int .i64 (l : Int)] w fun e w' => e = .returned (.int .u64 ((EN.sz (l - 1) : Nat) : Int)) ∧ w = w' := by
  have hl : l = 1 ∨ l = 2 ∨ l = 3 ∨ l = 4 := by omega
  rcases hl with rfl | rfl | rfl | rfl <;>
  · go_enter Tryz.func83, Tryz.ntmps83
    go_wp2
    go_ret
    exact ⟨rfl, rfl⟩

theorem none_nilT (w : World) : Calls Tryz.prog 64 #[.pointer none] w fun e w' => e = .returned (.bool true) ∧ w = w' := by
  go_enter Tryz.func64, Tryz.ntmps64
  go_wp2
  go_ret
  exact ⟨rfl, rfl⟩
set_option maxRecDepth 100000 in
theorem none_tree (g pg r b : Nat) (M : Nat → Option (Nat → Nat)) (w : World) (h : TM w g pg r b M) : Calls Tryz.prog 64 #[.pointer (some ⟨g, 0, none⟩)] w fun e w' => e = .returned (.bool false) ∧ w = w' := by
  have c2 := h.box.cell (j := 2) rfl
  have H := W_hid h
  have hb : ∀ w, (binOp .eql 117 (.map (some b)) (.map none)).run Tryz.prog w = .ok (.bool false) w := fun w => by kernel_rfl
  clear h
  go_enter Tryz.func64, Tryz.ntmps64
  go_wp2
  go_ret
  exact ⟨rfl, rfl⟩

theorem res_way {fn : Func} {r : Tmp} (hres : fn.results = #[.cell r 139]) (tmps : Array Value) (w : World) {g : Nat} {l : List Value} (hr : tmps.getD r undef = .pointer (some ⟨g, 0, none⟩)) (hp : Blk w g 139 l) (hl : l.length = 12) :
    (results fn tmps).run Tryz.prog w = .ok (.agg l.toArray) w :=
  results_cell_row hres tmps w g _ _ _ _ hr hp Tryz.underlying139 rfl (by simp only [List.size_toArray, hl]; kernel_rfl)
theorem res_map {fn : Func} {r : Tmp} (hres : fn.results = #[.cell r 38]) (tmps : Array Value) (w : World) {g : Nat} {l : List Value} (hr : tmps.getD r undef = .pointer (some ⟨g, 0, none⟩)) (hp : Blk w g 38 l) (hl : l.length = 4) :
    (results fn tmps).run Tryz.prog w = .ok (.agg l.toArray) w :=
  results_cell_row hres tmps w g _ _ _ _ hr hp Tryz.underlying38 rfl (by simp only [List.size_toArray, hl]; kernel_rfl)

set_option maxRecDepth 100000 in
set_option maxHeartbeats 400000 in
theorem mapping_any (va p f : Int) (t h : Bool) (w : World) :
    Calls Tryz.prog 120 #[.int .u64 va, .agg #[.bool t, .bool h, .int .i64 p, .int .u64 f]] w fun e w' => e = .returned (.agg #[.int .u64 va, .int .u64 f, .int .i64 p, .bool h]) ∧ Below w.heap.size w w' := by
  go_enter Tryz.func120, Tryz.ntmps120
  go_wp2
  refine bodyPost_ret (res_map rfl _ _ rfl (Blk.new (w.alloc _) _ [.int .u64 va, .int .u64 f, .int .i64 p, .bool h] (by simp)) rfl) rfl ⟨rfl, ((Below.refl _ _).alloc (Nat.le_refl _) _).alloc (by simp) _⟩

/-- What an entry says of a word of ours. -/
theorem decode_word {F : RX.Tabs} {G : RX.Pags} {r n l c f0 : Nat} (I : RX.Inv F G r n) (h0 : F l (c / 512) = some f0) (w : World) (hk : KT w) :
    Calls Tryz.prog 119 #[.int .u64 ((RX.word F G l c : Nat) : Int), .int .i64 (l : Int)] w fun e w' =>
      e = .returned (.tuple #[.agg #[.bool (RX.ent F G l c).1, .bool (RX.ent F G l c).2.1, .int .i64 (RX.ent F G l c).2.2.1, .int .u64 ((RX.ent F G l c).2.2.2 : Int)], .bool (RX.pres F G l c), .int .i64 0]) ∧ Below w.heap.size w w' := by
  obtain ⟨h1, h2, h3⟩ := RX.word_rd I h0
  have hl := I.lev h0
  cases hp : RX.pres F G l c with
  | true => exact Decode_some _ _ h3 _ _ _ _ (h1 hp) w hk
  | false =>
    obtain ⟨e1, e2⟩ := h2 hp
    rw [e1, e2]
    exact Decode_zero _ (by omega) w

/-- A number in a cell. -/
def cn (w : World) (g i : Nat) : Nat := match w.cell? ⟨g, i, none⟩ with
  | some (.int _ x) => x.toNat
  | _ => 0
def cut (fr : Nat → Nat) (k : Nat) : Nat → Nat := fun i => if k ≤ i then fr i else 0

/-- The tree's block and its map are as they were, and so are the first seven cells of block x. -/
structure PS (g b x : Nat) (w w' : World) : Prop where
  hg : w'.heap[g]? = w.heap[g]?
  hb : w'.heap[b]? = w.heap[b]?
  hx : ∀ j, j ≤ 6 → w'.cell? ⟨x, j, none⟩ = w.cell? ⟨x, j, none⟩
theorem PS.below {g b x : Nat} {w w' : World} (h1 : g < w.heap.size) (h2 : b < w.heap.size) (h3 : x < w.heap.size) (h : Below w.heap.size w w') : PS g b x w w' :=
  ⟨h.block g h1, h.block b h2, fun j _ => by simp only [World.cell?]; rw [h.block x h3]⟩
theorem PS.set {g b x : Nat} {w w' : World} (h : PS g b x w w') (j : Nat) (v : Value) (hj : 7 ≤ j) (h1 : g ≠ x) (h2 : b ≠ x) : PS g b x w (w'.setCell ⟨x, j, none⟩ v) :=
  ⟨(Below.heap_setCell w' ⟨x, j, none⟩ v g h1).trans h.hg, (Below.heap_setCell w' ⟨x, j, none⟩ v b h2).trans h.hb, fun i hi => by
    have e : (⟨x, j, none⟩ : Addr) ≠ ⟨x, i, none⟩ := by intro e; simp only [Addr.mk.injEq, true_and, and_true] at e; omega
    exact (World.cell?_setCell_other _ _ _ _ e).trans (h.hx i hi)⟩
theorem PS.row {g b x y : Nat} {w w' : World} (h : PS g b x w w') (cs : Array Value) (h1 : g ≠ y) (h2 : b ≠ y) (h3 : x ≠ y) : PS g b x w (w'.setRow y cs) :=
  ⟨(setRow_other w' y g cs h1).trans h.hg, (setRow_other w' y b cs h2).trans h.hb, fun j hj => (cell_setRow_other w' y cs _ h3).trans (h.hx j hj)⟩
theorem Blk.cells {g : Nat} {t : TypeId} : ∀ (vs : List Value) {w : World} (pre old : List Value) (o : Nat), Blk w g t (pre ++ old) → pre.length = o → old.length = vs.length → Blk (w.setCells g o vs) g t (pre ++ vs)
  | [], w, pre, old, o, h, _, hl => by
    have : old = [] := List.length_eq_zero_iff.1 hl
    subst this; exact h
  | v :: vs, w, pre, [], o, h, _, hl => by simp at hl
  | v :: vs, w, pre, x :: old, o, h, hp, hl => by
    have h1 := h.set o v
    have e1 : (pre ++ x :: old).set o v = (pre ++ [v]) ++ old := by subst hp; simp
    rw [e1] at h1
    have := Blk.cells vs (pre ++ [v]) old (o + 1) h1 (by simp; omega) (by simpa using hl)
    rw [List.append_assoc] at this
    exact this
theorem Blk.cells0 {w : World} {g : Nat} {t : TypeId} {old : List Value} (h : Blk w g t old) (vs : List Value) (hl : old.length = vs.length) : Blk (w.setCells g 0 vs) g t vs := Blk.cells vs [] old 0 h rfl hl
theorem setCells_far {g k : Nat} (hk : k ≠ g) : ∀ (vs : List Value) (o : Nat) (w : World), (w.setCells g o vs).heap[k]? = w.heap[k]?
  | [], _, _ => rfl
  | v :: vs, o, w => (setCells_far hk vs (o + 1) _).trans (Below.heap_setCell w ⟨g, o, none⟩ v k hk)
theorem below_cells {B g : Nat} (hg : B ≤ g) : ∀ (vs : List Value) (o : Nat) {w w' : World}, Below B w w' → Below B w (w'.setCells g o vs)
  | [], _, _, _, h => h
  | v :: vs, o, w, w', h => below_cells hg vs (o + 1) (h.setCell (p := ⟨g, o, none⟩) hg v)
theorem Blk.there {w : World} {g : Nat} {t : TypeId} {l : List Value} (h : Blk w g t l) (n : Nat) (hn : n = l.length) : w.there g 0 n := fun j hj => by
  refine ⟨?_, h.fz _⟩
  rw [Nat.zero_add]
  have : l[j]? = some l[j] := List.getElem?_eq_getElem (by omega)
  rw [h.cell this]; rfl
theorem cell_heap {w w' : World} {g : Nat} (h : w'.heap[g]? = w.heap[g]?) (j : Nat) : w'.cell? ⟨g, j, none⟩ = w.cell? ⟨g, j, none⟩ := by simp only [World.cell?]; rw [h]
/-- The world at hand is given a letter, and what is known of it. -/
theorem then_world {K : Act → World → Prop} {Q : Exit → Act → World → Prop} {a : Act} {W : World} (R : World → Prop) (h : R W) (k : ∀ W, R W → Exit.then K Q Exit.normal a W) : Exit.then K Q Exit.normal a W := k W h
theorem Blk.row {w : World} {g : Nat} {e : TypeId} {l : List Value} (h : Blk w g e l) (cs : List Value) : Blk (w.setRow g cs.toArray) g e cs := setRow_heap w g _ _ _ _ h
theorem Blk.rowFar {w : World} {g k : Nat} {e : TypeId} {l : List Value} (h : Blk w k e l) (hk : k ≠ g) (cs : Array Value) : Blk (w.setRow g cs) k e l := (setRow_other w g k cs hk).trans h
theorem below_row {B : Nat} {w w' : World} (h : Below B w w') {g : Nat} (hg : B ≤ g) (cs : Array Value) : Below B w (w'.setRow g cs) :=
  ⟨h.os, h.tape, h.output, by rw [setRow_size]; exact h.size, fun k hk => (setRow_other w' g k cs (by omega)).trans (h.block k hk)⟩
/-- A whole block is written: the world is a letter behind it. -/
theorem wpList_store_b {P : Program} {ops : Array Oper} {rest : List Oper} {o : Oper} {a : Act} {w : World} {Q : Exit → Act → World → Prop} (hgd : o.guard = none) (ty : TypeId) (x y : Operand) (ho : o.op = .store ty x y)
    (g : Nat) (cells : List Value) (hx : a.eval x = .pointer (some ⟨g, 0, none⟩)) (hy : a.eval y = .agg cells.toArray) (t : TypeId) (old : List Value) (hg : Blk w g t old) (hi : (P.info? ty).map (·.size) = some cells.toArray.size)
    (hold : old.toArray.size = cells.toArray.size) (h1 : cells.toArray.all (·.oneCell') = true)
    (h : ∀ w', Blk w' g t cells → (∀ B w0, B ≤ g → Below B w0 w → Below B w0 w') → Hid (w' = w.setRow g cells.toArray) → wpList P ops Q rest (a.put o.dst undef) w') : wpList P ops Q (o :: rest) a w :=
  wpList_store_row hgd ty x y ho g cells.toArray hx hy t _ hg hi hold h1 (h _ (hg.row _) (fun B w0 hB hb => below_row hb hB _) (W_hid rfl))
theorem step_store_b {P : Program} {ops : Array Oper} {o : Oper} {a : Act} {w : World} {K : Act → World → Prop} {Q : Exit → Act → World → Prop} {E : Prop} (hgd : o.guard = none) (ty : TypeId) (x y : Operand) (ho : o.op = .store ty x y)
    (g : Nat) (cells : List Value) (hx : a.eval x = .pointer (some ⟨g, 0, none⟩)) (hy : a.eval y = .agg cells.toArray) (t : TypeId) (old : List Value) (hg : Blk w g t old) (hi : (P.info? ty).map (·.size) = some cells.toArray.size)
    (hold : old.toArray.size = cells.toArray.size) (h1 : cells.toArray.all (·.oneCell') = true)
    (hK : ∀ w', Blk w' g t cells → (∀ B w0, B ≤ g → Below B w0 w → Below B w0 w') → Hid (w' = w.setRow g cells.toArray) → K (a.put o.dst undef) w') :
    if Region.wanted o (yielded ops a.tmps) = true then Oper.wp P o a w K Q else E := by
  have hw : Region.wanted o (yielded ops a.tmps) = true := by simp [Region.wanted, hgd]
  rw [if_pos hw]
  exact wp_store_row ty x y ho g cells.toArray hx hy t _ hg hi hold h1 (hK _ (hg.row _) (fun B w0 hB hb => below_row hb hB _) (W_hid rfl))
theorem step_alloc_b {P : Program} {ops : Array Oper} {o : Oper} {a : Act} {w : World} {K : Act → World → Prop} {Q : Exit → Act → World → Prop} {E : Prop} (hgd : o.guard = none) (ty : TypeId) (ho : o.op = .alloc ty) (cells : List Value)
    (hrun : ∀ w : World, (Instr.alloc ty true (.tuple #[])).run P w = .ok (.pointer (some ⟨w.heap.size, 0, none⟩)) (w.alloc (.cells cells.toArray ty))) (x : Nat) (hx : w.heap.size = x)
    (hK : ∀ w', Blk w' x ty cells → Hid (w' = w.alloc (.cells cells.toArray ty)) → K (a.put o.dst (.pointer (some ⟨x, 0, none⟩))) w') :
    if Region.wanted o (yielded ops a.tmps) = true then Oper.wp P o a w K Q else E := by
  have hw : Region.wanted o (yielded ops a.tmps) = true := by simp [Region.wanted, hgd]
  rw [if_pos hw]
  unfold Oper.wp
  simp [execOp, ho, hrun, hx, Result.andThen]
  exact hK _ (Blk.new w _ _ hx.symm) (W_hid rfl)
theorem still_load_row {P : Program} {ops : Array Oper} {o : Oper} {a : Act} {w : World} {K : Act → Prop} (hgd : o.guard = none) (ty : TypeId) (x : Operand) (ho : o.op = .load ty x)
    (g : Nat) (hx : a.eval x = .pointer (some ⟨g, 0, none⟩)) (t : TypeId) (cs : List Value) (d : TypeDesc) (hg : Blk w g t cs)
    (hu : P.underlying ty = some d) (hd : (match d with | .struct _ | .array _ _ => true | _ => false) = true) (hi : (P.info? ty).map (·.size) = some cs.toArray.size)
    (h : K (a.put o.dst (.agg cs.toArray))) : if Region.wanted o (yielded ops a.tmps) then o.still P a w K else K (a.put o.dst undef) := by
  have hw : Region.wanted o (yielded ops a.tmps) = true := by simp [Region.wanted, hgd]
  rw [if_pos hw]
  unfold Oper.still execOp
  simp only [ho, hx, Instr.loadAt, Instr.sureAddr, Sem.run_bind, Sem.run_pure, Result.andThen_ok, run_loadVar_row w g t ty cs.toArray (0, 0) d hg hu hd hi]
  exact ⟨rfl, h⟩
/-- A store into the map of tables, at the operation. -/
theorem wpList_put_b {ops : Array Oper} {rest : List Oper} {o : Oper} {a : Act} {w : World} {Q : Exit → Act → World → Prop} (hg : o.guard = none) (m x v : Operand) (hop : o.op = Op.mapUpdate 117 m x v)
    (b f : Nat) (ws : Nat → Nat) (M : Nat → Option (Nat → Nat)) (hm : a.eval m = .map (some b)) (hx : a.eval x = .int .u64 (f : Int)) (hv : a.eval v = .agg (tw ws).toArray) (h : MB w b M) (hf : f < 65536)
    (hK : ∀ w', MB w' b (upd M f (some ws)) → w.grownBy w' (some b) → w'.heap.size = w.heap.size → wpList Tryz.prog ops Q rest (a.put o.dst undef) w') : wpList Tryz.prog ops Q (o :: rest) a w := by
  refine wpList_plain hg fun K' hK' => ?_
  obtain ⟨w', hrun, r1, r2, r3⟩ := h.put f ws hf
  unfold Oper.wp
  simp [execOp, hop, hm, hx, hv, hrun, Result.andThen]
  exact hK' _ _ (hK w' r1 r2 r3)
theorem two_grown {b : Nat} {w w1 w2 : World} (h : Below w.heap.size w w1) (hg : w1.grownBy w2 (some b)) : Two b b w w2 :=
  ⟨hg.os.trans h.os, hg.tape.trans h.tape, hg.output.trans h.output, Nat.le_trans h.size hg.size, fun k hk h1 _ => (hg.block k (Nat.lt_of_lt_of_le hk h.size) (fun e => h1 (Option.some.inj e))).trans (h.block k hk)⟩
theorem store_far {w w' : World} {g k : Nat} {e : TypeId} {l : List Value} {cs : Array Value} (he : w' = w.setRow g cs) (h : Blk w k e l) (hk : k ≠ g) : Blk w' k e l := by rw [he]; exact h.rowFar hk cs
theorem wl_info (va : Nat) (fr : Nat → Nat) (L : Nat) (e : Bool × Bool × Int × Nat) (p : Bool) : (Tryz.prog.info? 139).map (·.size) = some (wl va fr L e p).toArray.size := by
  show _ = some 12
  kernel_rfl
theorem wl_one (va : Nat) (fr : Nat → Nat) (L : Nat) (e : Bool × Bool × Int × Nat) (p : Bool) : (wl va fr L e p).toArray.all (·.oneCell') = true := by simp [wl, Value.oneCell']
theorem wl_get {va L m : Nat} {fr : Nat → Nat} {e : Bool × Bool × Int × Nat} {p : Bool} (hm : m ≤ 4) : (wl va fr L e p)[1 + m]? = some (.int .u64 (fr m : Int)) := by
  have : m = 0 ∨ m = 1 ∨ m = 2 ∨ m = 3 ∨ m = 4 := by omega
  rcases this with rfl | rfl | rfl | rfl | rfl <;> rfl
theorem wl_step {va m : Nat} {fr : Nat → Nat} {e : Bool × Bool × Int × Nat} {p : Bool} (hm : m ≤ 3) :
    ((wl va (cut fr (m + 1)) (m + 1) e p).set 6 (.int .i64 (m : Int))).set (1 + m) (.int .u64 (fr m : Int)) = wl va (cut fr m) m e p := by
  have : m = 0 ∨ m = 1 ∨ m = 2 ∨ m = 3 := by omega
  rcases this with rfl | rfl | rfl | rfl <;> simp [wl, cut]
theorem cn_of {w : World} {g i : Nat} {k : IntKind} {x : Int} {n : Nat} (h : w.cell? ⟨g, i, none⟩ = some (.int k x)) (hx : x = n) : cn w g i = n := by
  unfold cn; rw [h, hx]; rfl
theorem wl_set (va : Nat) (fr : Nat → Nat) (L : Nat) (e e' : Bool × Bool × Int × Nat) (p p' : Bool) :
    (((((wl va fr L e p).set 7 (.bool e'.1)).set 8 (.bool e'.2.1)).set 9 (.int .i64 e'.2.2.1)).set 10 (.int .u64 (e'.2.2.2 : Int))).set 11 (.bool p') = wl va fr L e' p' := rfl
theorem cut_cell {va k L : Nat} {fr : Nat → Nat} {e : Bool × Bool × Int × Nat} {p : Bool} (hk : k ≤ 4) (hL : L ≤ k) : (wl va (cut fr L) k e p)[1 + k]? = some (.int .u64 (fr k : Int)) := by
  have : k = 0 ∨ k = 1 ∨ k = 2 ∨ k = 3 ∨ k = 4 := by omega
  rcases this with rfl | rfl | rfl | rfl | rfl <;> simp [wl, cut, hL]
theorem tw_index (ws : Nat → Nat) (i : Nat) (hi : i < 512) (w : World) : (Instr.index 125 (.agg (tw ws).toArray) (.int .i64 (i : Int))).run Tryz.prog w = .ok (.int .u64 ((ws i : Nat) : Int)) w := by
  have h := tw_get ws i hi
  simp [Instr.index, go_sem, hi, h]
end Go.Proofs.YthdohimjcjkneaaGreatDoor

/- Contract of package radix's descend: a search goes down from the root to the level where it ends. -/
namespace Go.Proofs.YthdohimjcjkneaaGreatDoor
open Go.ChangeShapes Go.WideShapes Go.ChangeAt Go.RowKit
set_option linter.unusedVariables false
set_option linter.unusedSimpArgs false

set_option maxRecDepth 100000 in
set_option maxHeartbeats 2000000 in
theorem descend_any (g pg r b n va lo L : Nat) (fr : Nat → Nat) (M : Nat → Option (Nat → Nat)) (F : RX.Tabs) (G : RX.Pags) (I : RX.Inv F G r n) (R : RX.Rep M F G) (hva : va < 140737488355328) (hd : RX.Desc F va lo L fr) (w : World) (h : TM w g pg r b M) :
    Calls Tryz.prog 127 #[.pointer (some ⟨g, 0, none⟩), .int .u64 (va : Int), .int .i64 (lo : Int)] w fun e w' =>
      e = .returned (.agg (wl va fr L (RX.ent F G L (va / EN.sz (L - 1))) (RX.pres F G L (va / EN.sz (L - 1)))).toArray) ∧ Below w.heap.size w w' := by
  have c1 := h.box.cell (j := 1) rfl
  have fz := h.box.fz
  have H := W_hid h
  have hlt := h.box.lt
  have ne1 : ¬ g = w.heap.size := by omega
  have ne2 : ¬ w.heap.size = g := by omega
  have ne3 : ¬ g = w.heap.size + 1 := by omega
  have ne4 : ¬ w.heap.size + 1 = g := by omega
  have neb : ¬ b = w.heap.size + 1 := by have := h.mb.lt; omega
  clear h
  go_enter Tryz.func127, Tryz.ntmps127
  go_wp2_with fail
  go_loopw [8] (fun x wr => ∃ k : Nat, L ≤ k ∧ k ≤ 4 ∧ cn wr (w.heap.size + 1) 6 = k ∧ Below w.heap.size w wr ∧ (∃ e p, Blk wr (w.heap.size + 1) 139 (wl va (cut fr k) k e p)) ∧ ∃ l, l.length = 12 ∧ Blk wr w.heap.size 139 l) (fun _ wr => cn wr (w.heap.size + 1) 6)
  case atStart =>
    have hr4 : fr 4 = r := by
      have h1 := hd.on 4 hd.l4 (Nat.le_refl _)
      rw [RX.top_zero va hva, I.root] at h1
      exact (Option.some.inj h1).symm
    have e0 : [Value.int .u64 (va : Int), .int .u64 0, .int .u64 0, .int .u64 0, .int .u64 0, .int .u64 (r : Int), .int .i64 4, .bool false, .bool false, .int .i64 0, .int .u64 0, .bool false] = wl va (cut fr 4) 4 (false, false, 0, 0) false := by simp [wl, cut, hr4]
    have hB : ∀ o : Obj, Blk ((w.alloc o).alloc (.cells (wl va (cut fr 4) 4 (false, false, 0, 0) false).toArray 139)) (w.heap.size + 1) 139 (wl va (cut fr 4) 4 (false, false, 0, 0) false) := fun o => Blk.new (w.alloc o) _ _ (by simp)
    rw [← e0] at hB
    refine ⟨4, hd.l4, Nat.le_refl _, cn_of ((hB _).cell (j := 6) rfl) rfl, ((Below.refl _ _).alloc (Nat.le_refl _) _).alloc (by simp) _, ⟨(false, false, 0, 0), false, e0 ▸ hB _⟩, _, ?_, Blk.alloc (Blk.new w _ [.int .u64 0, .int .u64 0, .int .u64 0, .int .u64 0, .int .u64 0, .int .u64 0, .int .i64 0, .bool false, .bool false, .int .i64 0, .int .u64 0, .bool false] rfl) _⟩
    rfl
  case round =>
    obtain ⟨k, hk1, hk4, hcn, bel, ⟨e, p, hW⟩, l, hl, hZ⟩ := hrel
    have H2 := W_hid (H.out.keep bel)
    have d1 := H2.out.box.cell (j := 1) rfl
    have d2 := H2.out.box.cell (j := 2) rfl
    have k6 : wr.cell? ⟨w.heap.size + 1, 6, none⟩ = some (.int .i64 (k : Int)) := hW.cell rfl
    have hX := W_hid (fun w => Index_yes va k hva (by have := hd.l1; omega) hk4 w)
    go_wp2_with fail
    refine (hX.out _).mono ?_
    rintro e1 w2 ⟨rfl, bel2⟩
    have hW2 : Blk w2 (w.heap.size + 1) 139 (wl va (cut fr k) k e p) := hW.keep bel2
    have hZ2 := hZ.keep bel2
    replace bel2 := bel.trans (bel2.mono bel.size)
    have H3 := W_hid (H.out.keep bel2)
    obtain ⟨ws, hM, hwi⟩ := hd.toWay.word R k hk1 hk4
    have hfl := RX.Way.lt I hd.toWay k
    have hlk : ∀ w', w'.heap[b]? = w2.heap[b]? → (Instr.lookup 117 (.map (some b)) (.int .u64 (fr k : Int)) false).run Tryz.prog w' = .ok (.agg (tw ws).toArray) w' := by
      intro w' hw
      have := (H3.out.mb.heap hw).look (fr k) (by omega)
      rw [hM] at this; exact this
    have hix : ∀ w, (Instr.index 125 (.agg (tw ws).toArray) (.int .i64 ((EN.idx va k : Nat) : Int))).run Tryz.prog w = .ok (.int .u64 ((RX.word F G k (va / EN.sz (k - 1)) : Nat) : Int)) w := by
      intro w
      rw [← hwi]
      exact tw_index ws _ (EN.idx_lt va k) w
    have d2 := H3.out.box.cell (j := 2) rfl
    have k6 : w2.cell? ⟨w.heap.size + 1, 6, none⟩ = some (.int .i64 (k : Int)) := hW2.cell rfl
    have kf : w2.cell? ⟨w.heap.size + 1, 1 + k, none⟩ = some (.int .u64 (fr k : Int)) := hW2.cell (cut_cell hk4 (Nat.le_refl k))
    have hD := W_hid (fun w hk => decode_word (l := k) (c := va / EN.sz (k - 1)) (f0 := fr k) I (by rw [RX.sz_down va k (by have := hd.l1; omega)]; exact hd.on k hk1 hk4) w hk)
    generalize RX.word F G k (va / EN.sz (k - 1)) = V at *
    obtain ⟨T0, hT0⟩ : ∃ T0, T0 = (tw ws).toArray := ⟨_, rfl⟩
    rw [← hT0] at hlk hix
    replace hT0 := W_hid hT0
    have hKd : KT w2.drew := (H3.out.kt : KT w2)
    have k5 : (k : Int) < 5 := by omega
    have hS : ∀ w', PS g b (w.heap.size + 1) w2 w' → w'.cell? ⟨g, 2, none⟩ = some (.map (some b)) ∧ w'.cell? ⟨w.heap.size + 1, 6, none⟩ = some (.int .i64 (k : Int)) ∧ w'.cell? ⟨w.heap.size + 1, 1 + k, none⟩ = some (.int .u64 (fr k : Int)) ∧ (Instr.lookup 117 (.map (some b)) (.int .u64 (fr k : Int)) false).run Tryz.prog w' = .ok (.agg T0) w' := by
      intro w' hb
      exact ⟨(cell_heap hb.hg 2).trans d2, (hb.hx 6 (by omega)).trans k6, (hb.hx (1 + k) (by omega)).trans kf, hlk _ hb.hb⟩
    have hPB : ∀ w', Below w2.heap.size w2 w' → PS g b (w.heap.size + 1) w2 w' := fun w' h => PS.below H3.out.box.lt H3.out.mb.lt hW2.lt h
    replace hS := W_hid hS
    have hP0 : PS g b (w.heap.size + 1) w2 w2.drew := hPB _ ⟨rfl, rfl, rfl, Nat.le_refl _, fun _ _ => rfl⟩
    replace hPB := W_hid hPB
    go_wp2_with fail
    go_region_held3 (fun w' => w'.cell? ⟨g, 2, none⟩ = some (.map (some b)) ∧ w'.cell? ⟨w.heap.size + 1, 6, none⟩ = some (.int .i64 (k : Int)) ∧ w'.cell? ⟨w.heap.size + 1, 1 + k, none⟩ = some (.int .u64 (fr k : Int)) ∧ (Instr.lookup 117 (.map (some b)) (.int .u64 (fr k : Int)) false).run Tryz.prog w' = .ok (.agg T0) w')
      (first | (with_reducible exact hS.out _ hP0) | (with_reducible exact hS.out _ hP3) | (with_reducible exact hS.out _ (hP4 _ _ _ _)) | (with_reducible exact hS.out _ (hP5 _ _ _ _ _)))
      (first | (go_at_call 119; refine (hD.out _ hKd).mono ?_; rintro e w3 ⟨rfl, bel3⟩; have hW3 := hW2.keep (bundrew bel3); have hP3 := hPB.out _ (bundrew bel3); have hP4 := fun v0 v1 v2 v3 => (((hP3.set 7 v0 (by decide) ne3 neb).set 8 v1 (by decide) ne3 neb).set 9 v2 (by decide) ne3 neb).set 10 v3 (by decide) ne3 neb; have hP5 := fun v0 v1 v2 v3 v4 => (hP4 v0 v1 v2 v3).set 11 v4 (by decide) ne3 neb; have f3 := hW3.fz; have z7 := hW3.cell (j := 7) rfl; have z8 := hW3.cell (j := 8) rfl; have z9 := hW3.cell (j := 9) rfl; have z10 := hW3.cell (j := 10) rfl; have z11 := hW3.cell (j := 11) rfl))
    rename_i hh
    clear hh
    have bel4 : Below w.heap.size w w3 := bel2.trans ((bundrew bel3).mono bel2.size)
    refine then_world (fun W => Blk W (w.heap.size + 1) 139 (wl va (cut fr k) k (RX.ent F G k (va / EN.sz (k - 1))) (RX.pres F G k (va / EN.sz (k - 1)))) ∧ Below w.heap.size w W ∧ Blk W w.heap.size 139 l) ⟨((((hW3.set 7 _).set 8 _).set 9 _).set 10 _).set 11 _,
      ((((bel4.setCell (p := ⟨w.heap.size + 1, 7, none⟩) (by simp) _).setCell (p := ⟨w.heap.size + 1, 8, none⟩) (by simp) _).setCell (p := ⟨w.heap.size + 1, 9, none⟩) (by simp) _).setCell (p := ⟨w.heap.size + 1, 10, none⟩) (by simp) _).setCell (p := ⟨w.heap.size + 1, 11, none⟩) (by simp) _,
      (((((hZ2.keep (bundrew bel3)).far (by simp) _).far (by simp) _).far (by simp) _).far (by simp) _).far (by simp) _⟩ ?_
    rintro W4 ⟨hW4, bel4, hZ4⟩
    clear hP0 hPB hP3 hP4 hP5 bel3 hW3 f3 z7 z8 z9 z10 z11 hS hD hT0 hlk hix d2 k6 kf hKd
    have hEy : L < k → RX.ent F G k (va / EN.sz (k - 1)) = (true, false, 7, fr (k - 1)) := fun hlt => by
      have := hd.on (k - 1) (by omega) (by omega)
      unfold RX.ent; rw [this]
    have hEn : k = L → L ≠ lo → (RX.ent F G k (va / EN.sz (k - 1))).1 = false := fun e1 e2 => by
      have := hd.stop.resolve_left e2
      subst e1
      unfold RX.ent; rw [this]
      cases hG : G k (va / EN.sz (k - 1)) with
      | none => rfl
      | some x => rfl
    generalize hEe : RX.ent F G k (va / EN.sz (k - 1)) = E at *
    generalize hPe : RX.pres F G k (va / EN.sz (k - 1)) = PP at *
    have c6 : W4.cell? ⟨w.heap.size + 1, 6, none⟩ = some (.int .i64 (k : Int)) := hW4.cell rfl
    have c7 : W4.cell? ⟨w.heap.size + 1, 7, none⟩ = some (.bool E.1) := hW4.cell rfl
    have c10 : W4.cell? ⟨w.heap.size + 1, 10, none⟩ = some (.int .u64 (E.2.2.2 : Int)) := hW4.cell rfl
    have f4 := hW4.fz
    by_cases hkL : k = L
    · subst hkL
      have hcut : cut fr k = fr := by
        funext i
        unfold cut
        split
        · rfl
        · rw [hd.off i (by omega)]
      rw [hcut] at hW4
      have hW5 := W_hid hW4
      have hZ5 := W_hid hZ4
      have hb5 := W_hid bel4
      have hEe' := W_hid hEe
      have hPe' := W_hid hPe
      have hl5 : l.toArray.size = (wl va fr k E PP).toArray.size := by simp [wl, hl]
      clear hEy hcut hW4 hZ4 bel4 hwi hEe hPe hl hk1
      by_cases hlo : k = lo
      · have t1 : ((k : Int) == (lo : Int)) = true := by simp; omega
        clear hEn hd hlo
        go_wp2_with (first
          | (refine wpList_load_row rfl 139 _ rfl (w.heap.size + 1) rfl _ _ _ _ hW5.out Tryz.underlying139 rfl (wl_info _ _ _ _ _) ?_)
          | (refine wpList_store_row rfl 139 _ _ rfl w.heap.size _ rfl rfl _ _ hZ5.out (wl_info _ _ _ _ _) hl5 (wl_one _ _ _ _ _) ?_))
        refine bodyPost_ret (res_way rfl _ _ rfl (Blk.row hZ5.out _) rfl) rfl ⟨?_, below_row hb5.out (Nat.le_refl _) _⟩
        rw [hEe'.out, hPe'.out]
      · have t1 : ((k : Int) == (lo : Int)) = false := by simp; omega
        have t2 := hEn rfl hlo
        rw [t2] at c7
        replace t2 := W_hid t2
        clear hEn hd hlo
        go_wp2_with (first
          | (refine wpList_load_row rfl 139 _ rfl (w.heap.size + 1) rfl _ _ _ _ hW5.out Tryz.underlying139 rfl (wl_info _ _ _ _ _) ?_)
          | (refine wpList_store_row rfl 139 _ _ rfl w.heap.size _ rfl rfl _ _ hZ5.out (wl_info _ _ _ _ _) hl5 (wl_one _ _ _ _ _) ?_))
        refine bodyPost_ret (res_way rfl _ _ rfl (Blk.row hZ5.out _) rfl) rfl ⟨?_, below_row hb5.out (Nat.le_refl _) _⟩
        rw [hEe'.out, hPe'.out]
    · have hlt2 : L < k := by omega
      obtain rfl := hEy hlt2
      have t1 : ((k : Int) == (lo : Int)) = false := by have := hd.ge; simp; omega
      have hl1 := hd.l1
      obtain ⟨m, hm⟩ : ∃ m, m = k - 1 := ⟨k - 1, rfl⟩
      rw [← hm] at hW4 c10
      have eqm : (k : Int) - 1 = (m : Int) := by omega
      have m5 : (m : Int) < 5 := by omega
      have hkm : Hid (k = m + 1) := W_hid (by omega)
      replace hcn := W_hid hcn
      have cm : W4.cell? ⟨w.heap.size + 1, 1 + m, none⟩ = some (.int .u64 ((cut fr k m : Nat) : Int)) := hW4.cell (wl_get (by omega))
      have hm3 : Hid (m ≤ 3 ∧ L ≤ m) := W_hid (by omega)
      have hW5 := W_hid hW4
      have hZ5 := W_hid hZ4
      have hb5 := W_hid bel4
      have hl5 := W_hid hl
      clear hEy hEn hW4 hZ4 bel4 hwi hEe hPe hl hd hk1 hlt2 hkL hm hfl hM
      go_wp2
      go_roundw
      case rel =>
        have hk := hkm.out
        subst hk
        have hB := (hW5.out.set 6 (.int .i64 (m : Int))).set (1 + m) (.int .u64 (fr m : Int))
        rw [wl_step hm3.out.1] at hB
        exact ⟨m, hm3.out.2, by have := hm3.out.1; omega, cn_of (hB.cell (j := 6) rfl) rfl, (hb5.out.setCell (p := ⟨w.heap.size + 1, 6, none⟩) (by simp) _).setCell (p := ⟨w.heap.size + 1, 1 + m, none⟩) (by simp) _, ⟨_, _, hB⟩, l, hl5.out, (hZ5.out.far (by simp) _).far (by simp) _⟩
      case measure =>
        have hk := hkm.out
        subst hk
        have hB := (hW5.out.set 6 (.int .i64 (m : Int))).set (1 + m) (.int .u64 (fr m : Int))
        rw [wl_step hm3.out.1] at hB
        rw [cn_of (hB.cell (j := 6) rfl) rfl, hcn.out]
        omega
end Go.Proofs.YthdohimjcjkneaaGreatDoor

/- Contracts of package radix: find and vacant. -/
namespace Go.Proofs.YthdohimjcjkneaaGreatDoor
open Go.ChangeShapes Go.WideShapes Go.ChangeAt Go.RowKit
set_option linter.unusedVariables false
set_option linter.unusedSimpArgs false

def fault (c : Int) : List PanicEntry := [{ v := .iface 29 (.int .i64 c), recovered := false }]
def wzero : List Value := [.int .u64 0, .int .u64 0, .int .u64 0, .int .u64 0, .int .u64 0, .int .u64 0, .int .i64 0, .bool false, .bool false, .int .i64 0, .int .u64 0, .bool false]

set_option maxRecDepth 100000 in
set_option maxHeartbeats 2000000 in
theorem find_yes (g pg r b n va L : Nat) (c : Int) (fr : Nat → Nat) (M : Nat → Option (Nat → Nat)) (F : RX.Tabs) (G : RX.Pags) (I : RX.Inv F G r n) (R : RX.Rep M F G) (hva : va < 140737488355328) (hd : RX.Desc F va 1 L fr)
    (hp : RX.pres F G L (va / EN.sz (L - 1)) = true) (w : World) (h : TM w g pg r b M) :
    Calls Tryz.prog 76 #[.pointer (some ⟨g, 0, none⟩), .int .u64 (va : Int), .int .i64 c] w fun e w' =>
      e = .returned (.agg (wl va fr L (RX.ent F G L (va / EN.sz (L - 1))) true).toArray) ∧ Below w.heap.size w w' := by
  have hD := W_hid (fun w h => descend_any g pg r b n va 1 L fr M F G I R hva hd w h)
  rw [hp] at hD
  generalize RX.ent F G L (va / EN.sz (L - 1)) = E at *
  have H := W_hid h
  clear h hp hd
  go_enter Tryz.func76, Tryz.ntmps76
  go_wp2_with fail
  refine (hD.out _ (H.out.keep ((Below.refl _ _).alloc (Nat.le_refl _) _))).mono ?_
  rintro e w1 ⟨rfl, bel⟩
  have hZ : Blk w1 w.heap.size 139 wzero := Blk.keep (Blk.new w _ _ rfl) bel
  have bel1 : Below w.heap.size w (w1.alloc (.cells wzero.toArray 139)) := (((Below.refl w.heap.size w).alloc (Nat.le_refl _) (.cells wzero.toArray 139)).trans (bel.mono (by simp))).alloc (by have := hZ.lt; omega) _
  replace bel1 := W_hid bel1
  have hX : Hid (Blk (w1.alloc (.cells wzero.toArray 139)) w1.heap.size 139 wzero) := W_hid (Blk.new w1 _ _ rfl)
  have hZ1 := W_hid (hZ.alloc (.cells wzero.toArray 139))
  have hne : Hid (w.heap.size < w1.heap.size) := W_hid hZ.lt
  clear bel hZ
  go_wp2_with (first
    | (refine wpList_store_b rfl 139 _ _ rfl w1.heap.size (wl va fr L E true) rfl rfl _ _ hX.out (wl_info _ _ _ _ _) rfl (wl_one _ _ _ _ _) ?_; intro w2 hX2 hb2 he2; have hZ2 := W_hid (store_far he2.out hZ1.out (Nat.ne_of_lt hne.out)); have bel2 := W_hid (hb2 _ _ (Nat.le_of_lt hne.out) bel1.out); have c11 := hX2.cell (j := 11) rfl; replace hX2 := W_hid hX2; clear hb2 he2)
    | (refine wpList_load_row rfl 139 _ rfl w1.heap.size rfl _ _ _ _ hX2.out Tryz.underlying139 rfl (wl_info _ _ _ _ _) ?_)
    | (refine wpList_store_b rfl 139 _ _ rfl w.heap.size (wl va fr L E true) rfl rfl _ _ hZ2.out (wl_info _ _ _ _ _) rfl (wl_one _ _ _ _ _) ?_; intro w3 hZ3 hb3 he3; have bel3 := W_hid (hb3 _ _ (Nat.le_refl _) bel2.out); replace hZ3 := W_hid hZ3; clear hb3 he3))
  exact bodyPost_ret (res_way rfl _ _ rfl hZ3.out rfl) rfl ⟨rfl, bel3.out⟩

set_option maxRecDepth 100000 in
set_option maxHeartbeats 2000000 in
theorem find_no (g pg r b n va L : Nat) (c : Int) (fr : Nat → Nat) (M : Nat → Option (Nat → Nat)) (F : RX.Tabs) (G : RX.Pags) (I : RX.Inv F G r n) (R : RX.Rep M F G) (hva : va < 140737488355328) (hd : RX.Desc F va 1 L fr)
    (hp : RX.pres F G L (va / EN.sz (L - 1)) = false) (w : World) (h : TM w g pg r b M) :
    Calls Tryz.prog 76 #[.pointer (some ⟨g, 0, none⟩), .int .u64 (va : Int), .int .i64 c] w fun e w' =>
      e = .panicked (fault c) ∧ Below w.heap.size w w' := by
  have hD := W_hid (fun w h => descend_any g pg r b n va 1 L fr M F G I R hva hd w h)
  rw [hp] at hD
  generalize RX.ent F G L (va / EN.sz (L - 1)) = E at *
  have H := W_hid h
  clear h hp hd
  go_enter Tryz.func76, Tryz.ntmps76
  go_wp2_with fail
  refine (hD.out _ (H.out.keep ((Below.refl _ _).alloc (Nat.le_refl _) _))).mono ?_
  rintro e w1 ⟨rfl, bel⟩
  have hZ : Blk w1 w.heap.size 139 wzero := Blk.keep (Blk.new w _ _ rfl) bel
  have bel1 : Below w.heap.size w (w1.alloc (.cells wzero.toArray 139)) := (((Below.refl w.heap.size w).alloc (Nat.le_refl _) (.cells wzero.toArray 139)).trans (bel.mono (by simp))).alloc (by have := hZ.lt; omega) _
  replace bel1 := W_hid bel1
  have hX : Hid (Blk (w1.alloc (.cells wzero.toArray 139)) w1.heap.size 139 wzero) := W_hid (Blk.new w1 _ _ rfl)
  have hZ1 := W_hid (hZ.alloc (.cells wzero.toArray 139))
  have hne : Hid (w.heap.size < w1.heap.size) := W_hid hZ.lt
  clear bel hZ
  go_wp2_with (first
    | (refine wpList_store_b rfl 139 _ _ rfl w1.heap.size (wl va fr L E false) rfl rfl _ _ hX.out (wl_info _ _ _ _ _) rfl (wl_one _ _ _ _ _) ?_; intro w2 hX2 hb2 he2; have hZ2 := W_hid (store_far he2.out hZ1.out (Nat.ne_of_lt hne.out)); have bel2 := W_hid (hb2 _ _ (Nat.le_of_lt hne.out) bel1.out); have c11 := hX2.cell (j := 11) rfl; replace hX2 := W_hid hX2; clear hb2 he2)
    | (refine wpList_load_row rfl 139 _ rfl w1.heap.size rfl _ _ _ _ hX2.out Tryz.underlying139 rfl (wl_info _ _ _ _ _) ?_)
    | (refine wpList_store_b rfl 139 _ _ rfl w.heap.size (wl va fr L E false) rfl rfl _ _ hZ2.out (wl_info _ _ _ _ _) rfl (wl_one _ _ _ _ _) ?_; intro w3 hZ3 hb3 he3; have bel3 := W_hid (hb3 _ _ (Nat.le_refl _) bel2.out); replace hZ3 := W_hid hZ3; clear hb3 he3))
  exact ⟨rfl, rfl, bel2.out⟩

set_option maxRecDepth 100000 in
set_option maxHeartbeats 2000000 in
theorem vacant_yes (g pg r b n va L : Nat) (lo : Nat) (fr : Nat → Nat) (M : Nat → Option (Nat → Nat)) (F : RX.Tabs) (G : RX.Pags) (I : RX.Inv F G r n) (R : RX.Rep M F G) (hva : va < 140737488355328) (hd : RX.Desc F va lo L fr)
    (hp : RX.pres F G L (va / EN.sz (L - 1)) = false) (w : World) (h : TM w g pg r b M) :
    Calls Tryz.prog 87 #[.pointer (some ⟨g, 0, none⟩), .int .u64 (va : Int), .int .i64 (lo : Int)] w fun e w' =>
      e = .returned (.agg (wl va fr L (RX.ent F G L (va / EN.sz (L - 1))) false).toArray) ∧ Below w.heap.size w w' := by
  have hD := W_hid (fun w h => descend_any g pg r b n va lo L fr M F G I R hva hd w h)
  rw [hp] at hD
  generalize RX.ent F G L (va / EN.sz (L - 1)) = E at *
  have H := W_hid h
  clear h hp hd
  go_enter Tryz.func87, Tryz.ntmps87
  go_wp2_with fail
  refine (hD.out _ (H.out.keep ((Below.refl _ _).alloc (Nat.le_refl _) _))).mono ?_
  rintro e w1 ⟨rfl, bel⟩
  have hZ : Blk w1 w.heap.size 139 wzero := Blk.keep (Blk.new w _ _ rfl) bel
  have bel1 : Below w.heap.size w (w1.alloc (.cells wzero.toArray 139)) := (((Below.refl w.heap.size w).alloc (Nat.le_refl _) (.cells wzero.toArray 139)).trans (bel.mono (by simp))).alloc (by have := hZ.lt; omega) _
  replace bel1 := W_hid bel1
  have hX : Hid (Blk (w1.alloc (.cells wzero.toArray 139)) w1.heap.size 139 wzero) := W_hid (Blk.new w1 _ _ rfl)
  have hZ1 := W_hid (hZ.alloc (.cells wzero.toArray 139))
  have hne : Hid (w.heap.size < w1.heap.size) := W_hid hZ.lt
  clear bel hZ
  go_wp2_with (first
    | (refine wpList_store_b rfl 139 _ _ rfl w1.heap.size (wl va fr L E false) rfl rfl _ _ hX.out (wl_info _ _ _ _ _) rfl (wl_one _ _ _ _ _) ?_; intro w2 hX2 hb2 he2; have hZ2 := W_hid (store_far he2.out hZ1.out (Nat.ne_of_lt hne.out)); have bel2 := W_hid (hb2 _ _ (Nat.le_of_lt hne.out) bel1.out); have c11 := hX2.cell (j := 11) rfl; replace hX2 := W_hid hX2; clear hb2 he2)
    | (refine wpList_load_row rfl 139 _ rfl w1.heap.size rfl _ _ _ _ hX2.out Tryz.underlying139 rfl (wl_info _ _ _ _ _) ?_)
    | (refine wpList_store_b rfl 139 _ _ rfl w.heap.size (wl va fr L E false) rfl rfl _ _ hZ2.out (wl_info _ _ _ _ _) rfl (wl_one _ _ _ _ _) ?_; intro w3 hZ3 hb3 he3; have bel3 := W_hid (hb3 _ _ (Nat.le_refl _) bel2.out); replace hZ3 := W_hid hZ3; clear hb3 he3))
  exact bodyPost_ret (res_way rfl _ _ rfl hZ3.out rfl) rfl ⟨rfl, bel3.out⟩

set_option maxRecDepth 100000 in
set_option maxHeartbeats 2000000 in
theorem vacant_no (g pg r b n va L : Nat) (lo : Nat) (fr : Nat → Nat) (M : Nat → Option (Nat → Nat)) (F : RX.Tabs) (G : RX.Pags) (I : RX.Inv F G r n) (R : RX.Rep M F G) (hva : va < 140737488355328) (hd : RX.Desc F va lo L fr)
    (hp : RX.pres F G L (va / EN.sz (L - 1)) = true) (w : World) (h : TM w g pg r b M) :
    Calls Tryz.prog 87 #[.pointer (some ⟨g, 0, none⟩), .int .u64 (va : Int), .int .i64 (lo : Int)] w fun e w' =>
      e = .panicked (fault 102) ∧ Below w.heap.size w w' := by
  have hD := W_hid (fun w h => descend_any g pg r b n va lo L fr M F G I R hva hd w h)
  rw [hp] at hD
  generalize RX.ent F G L (va / EN.sz (L - 1)) = E at *
  have H := W_hid h
  clear h hp hd
  go_enter Tryz.func87, Tryz.ntmps87
  go_wp2_with fail
  refine (hD.out _ (H.out.keep ((Below.refl _ _).alloc (Nat.le_refl _) _))).mono ?_
  rintro e w1 ⟨rfl, bel⟩
  have hZ : Blk w1 w.heap.size 139 wzero := Blk.keep (Blk.new w _ _ rfl) bel
  have bel1 : Below w.heap.size w (w1.alloc (.cells wzero.toArray 139)) := (((Below.refl w.heap.size w).alloc (Nat.le_refl _) (.cells wzero.toArray 139)).trans (bel.mono (by simp))).alloc (by have := hZ.lt; omega) _
  replace bel1 := W_hid bel1
  have hX : Hid (Blk (w1.alloc (.cells wzero.toArray 139)) w1.heap.size 139 wzero) := W_hid (Blk.new w1 _ _ rfl)
  have hZ1 := W_hid (hZ.alloc (.cells wzero.toArray 139))
  have hne : Hid (w.heap.size < w1.heap.size) := W_hid hZ.lt
  clear bel hZ
  go_wp2_with (first
    | (refine wpList_store_b rfl 139 _ _ rfl w1.heap.size (wl va fr L E true) rfl rfl _ _ hX.out (wl_info _ _ _ _ _) rfl (wl_one _ _ _ _ _) ?_; intro w2 hX2 hb2 he2; have hZ2 := W_hid (store_far he2.out hZ1.out (Nat.ne_of_lt hne.out)); have bel2 := W_hid (hb2 _ _ (Nat.le_of_lt hne.out) bel1.out); have c11 := hX2.cell (j := 11) rfl; replace hX2 := W_hid hX2; clear hb2 he2)
    | (refine wpList_load_row rfl 139 _ rfl w1.heap.size rfl _ _ _ _ hX2.out Tryz.underlying139 rfl (wl_info _ _ _ _ _) ?_)
    | (refine wpList_store_b rfl 139 _ _ rfl w.heap.size (wl va fr L E true) rfl rfl _ _ hZ2.out (wl_info _ _ _ _ _) rfl (wl_one _ _ _ _ _) ?_; intro w3 hZ3 hb3 he3; have bel3 := W_hid (hb3 _ _ (Nat.le_refl _) bel2.out); replace hZ3 := W_hid hZ3; clear hb3 he3))
  exact ⟨rfl, rfl, bel2.out⟩
end Go.Proofs.YthdohimjcjkneaaGreatDoor

/- Contracts of package radix: a way's page; a word is set. -/
namespace Go.Proofs.YthdohimjcjkneaaGreatDoor
open Go.ChangeShapes Go.WideShapes Go.ChangeAt Go.RowKit
set_option linter.unusedVariables false
set_option linter.unusedSimpArgs false

/-- The world ahead of a piece of code is given a letter, and what is known of it. -/
theorem wp_world {P : Program} {c : Code} {Q : Exit → Act → World → Prop} {a : Act} {W : World} (R : World → Prop) (h : R W) (k : ∀ W, R W → Code.wp P c Q a W) : Code.wp P c Q a W := k W h
theorem sz_ones (k : Nat) (h : k ≤ 3) : WM.ones (EN.sz k) 64 = 1 := by
  have : k = 0 ∨ k = 1 ∨ k = 2 ∨ k = 3 := by omega
  rcases this with rfl | rfl | rfl | rfl <;> decide +kernel
theorem sz_lt (k : Nat) (h : k ≤ 3) : EN.sz k < 18446744073709551616 := by have := EN.sz_le k (by omega); omega

set_option maxRecDepth 100000 in
set_option maxHeartbeats 2000000 in
theorem page_any (va L : Nat) (fr : Nat → Nat) (E : Bool × Bool × Int × Nat) (p : Bool) (hva : va < 140737488355328) (h1 : 1 ≤ L) (h4 : L ≤ 4) (w : World) :
    Calls Tryz.prog 77 #[.agg (wl va fr L E p).toArray] w fun e w' =>
      e = .returned (.agg #[.int .u64 ((va - va % EN.sz (L - 1) : Nat) : Int), .int .u64 (E.2.2.2 : Int), .int .i64 E.2.2.1, .bool E.2.1]) ∧ Below w.heap.size w w' := by
  have hSp := W_hid (fun (w : World) (t : Nat) => Calls.quiet_of_same ((span_any L h1 h4 (w.drewN t)).mono fun e w' ⟨he, hw⟩ => ⟨he, hw.symm⟩))
  have hDn := W_hid (fun (w : World) (t : Nat) => Calls.quiet_of_same ((down_yes va (EN.sz (L - 1)) (by omega) (sz_lt _ (by omega)) (sz_ones _ (by omega)) (w.drewN t)).mono fun e w' ⟨he, hw⟩ => ⟨he, hw.symm⟩))
  have hMp := W_hid (fun v p f t h w => mapping_any v p f t h w)
  go_enter Tryz.func77, Tryz.ntmps77
  go_wp2_with fail
  refine wp_world (fun W => Blk W w.heap.size 139 (wl va fr L E p) ∧ Blk W (w.heap.size + 1) 38 [.int .u64 0, .int .u64 0, .int .i64 0, .bool false] ∧ Below w.heap.size w W)
    ⟨Blk.alloc (Blk.new w _ _ rfl) _, Blk.new (w.alloc _) _ _ (by simp), ((Below.refl _ _).alloc (Nat.le_refl _) _).alloc (by simp) _⟩ ?_
  rintro W ⟨hX, hZ, bel⟩
  have c0 : W.cell? ⟨w.heap.size, 0, none⟩ = some (.int .u64 (va : Int)) := hX.cell rfl
  have c6 : W.cell? ⟨w.heap.size, 6, none⟩ = some (.int .i64 (L : Int)) := hX.cell rfl
  replace hX := W_hid hX
  replace hZ := W_hid hZ
  replace bel := W_hid bel
  go_quiet (first | (go_at_call 83; exact hSp.out _ _) | (go_at_call 82; exact hDn.out _ _))
  refine then_world (fun W' => Blk W' w.heap.size 139 (wl va fr L E p) ∧ Blk W' (w.heap.size + 1) 38 [.int .u64 0, .int .u64 0, .int .i64 0, .bool false] ∧ Below w.heap.size w W') ⟨hX.out, hZ.out, below_drewN bel.out nq⟩ ?_
  clear hX hZ bel c0 c6
  rintro W2 ⟨hX, hZ, bel⟩
  have c7 : W2.cell? ⟨w.heap.size, 7, none⟩ = some (.bool E.1) := hX.cell rfl
  have c8 : W2.cell? ⟨w.heap.size, 7 + 1, none⟩ = some (.bool E.2.1) := hX.cell rfl
  have c9 : W2.cell? ⟨w.heap.size, 7 + 2, none⟩ = some (.int .i64 E.2.2.1) := hX.cell rfl
  have c10 : W2.cell? ⟨w.heap.size, 7 + 3, none⟩ = some (.int .u64 (E.2.2.2 : Int)) := hX.cell rfl
  replace hX := W_hid hX
  replace hZ := W_hid hZ
  replace bel := W_hid bel
  go_wp2_with fail
  refine (hMp.out _ _ _ _ _ _).mono ?_
  rintro e W3 ⟨rfl, bel3⟩
  have hZ3 := W_hid (hZ.out.keep bel3)
  have bel4 := W_hid (bel.out.trans (bel3.mono bel.out.size))
  clear bel3
  go_wp2_with (refine wpList_store_b rfl 38 _ _ rfl (w.heap.size + 1) [.int .u64 ((WM.down va (EN.sz (L - 1)) : Nat) : Int), .int .u64 (E.2.2.2 : Int), .int .i64 E.2.2.1, .bool E.2.1] rfl rfl _ _ hZ3.out (by kernel_rfl) rfl (by simp [Value.oneCell']) ?_; intro w4 hZ4 hb4 he4; have bel5 := W_hid (hb4 _ _ (Nat.le_succ _) bel4.out); replace hZ4 := W_hid hZ4; clear hb4 he4)
  exact bodyPost_ret (res_map rfl _ _ rfl hZ4.out rfl) rfl ⟨rfl, bel5.out⟩

theorem table_info (ws : Nat → Nat) : (Tryz.prog.info? 125).map (·.size) = some (tw ws).toArray.size := by
  rw [List.size_toArray, tw_len]
  kernel_rfl
theorem alloc_table (w : World) : (Instr.alloc 125 true (.tuple #[])).run Tryz.prog w = .ok (.pointer (some ⟨w.heap.size, 0, none⟩)) (w.alloc (.cells (tw zero).toArray 125)) := by kernel_rfl
theorem table_one (ws : Nat → Nat) : (tw ws).toArray.all (·.oneCell') = true := by
  rw [Array.all_eq_true_iff_forall_mem]
  intro v hv
  simp only [List.mem_toArray, tw, List.mem_map] at hv
  obtain ⟨i, -, rfl⟩ := hv
  rfl

set_option maxRecDepth 100000 in
set_option maxHeartbeats 1000000 in
theorem setw_any (g pg r b va L l v : Nat) (fr : Nat → Nat) (E : Bool × Bool × Int × Nat) (p : Bool) (M : Nat → Option (Nat → Nat)) (hva : va < 140737488355328) (h1 : 1 ≤ l) (h4 : l ≤ 4) (hf : fr l < 65536) (w : World) (h : TM w g pg r b M) :
    Calls Tryz.prog 85 #[.pointer (some ⟨g, 0, none⟩), .agg (wl va fr L E p).toArray, .int .i64 (l : Int), .int .u64 (v : Int)] w fun e w' =>
      e = .returned (.tuple #[]) ∧ MB w' b (upd M (fr l) (some (wset ((M (fr l)).getD zero) (EN.idx va l) v))) ∧ Two b b w w' := by
  have hI := W_hid (fun w => Index_yes va l hva h1 h4 w)
  have H := W_hid h
  have hgl := h.box.lt
  have hbl := h.mb.lt
  have hil := EN.idx_lt va l
  have q0 : (wl va fr L E p)[0]? = some (.int .u64 (va : Int)) := rfl
  obtain ⟨ws, hws⟩ : ∃ ws, (M (fr l)).getD zero = ws := ⟨_, rfl⟩
  rw [hws]
  replace hws := W_hid hws
  clear h
  go_enter Tryz.func85, Tryz.ntmps85
  go_wp2_with fail
  refine (hI.out _).mono ?_
  rintro e w1 ⟨rfl, bel1⟩
  have hX1 : Blk w1 w.heap.size 139 (wl va fr L E p) := Blk.keep (Blk.new w _ _ rfl) bel1
  replace bel1 : Below w.heap.size w w1 := ((Below.refl w.heap.size w).alloc (Nat.le_refl _) _).trans (bel1.mono (by simp))
  have H1 := W_hid (H.out.keep bel1)
  have hX1' := W_hid hX1
  have d2 := H1.out.box.cell (j := 2) rfl
  have kf : w1.cell? ⟨w.heap.size, 1 + l, none⟩ = some (.int .u64 (fr l : Int)) := hX1.cell (wl_get h4)
  have hlk0 : ∀ w', w'.heap[b]? = w1.heap[b]? → (Instr.lookup 117 (.map (some b)) (.int .u64 (fr l : Int)) false).run Tryz.prog w' = .ok (.agg (tw ((M (fr l)).getD zero)).toArray) w' :=
    fun w' hw => (H1.out.mb.heap hw).look (fr l) (by omega)
  rw [hws.out] at hlk0
  have hlk := W_hid hlk0
  clear hlk0
  have hS : ∀ w', PS g b w.heap.size w1 w' → w'.cell? ⟨g, 2, none⟩ = some (.map (some b)) ∧ w'.cell? ⟨w.heap.size, 1 + l, none⟩ = some (.int .u64 (fr l : Int)) ∧ (Instr.lookup 117 (.map (some b)) (.int .u64 (fr l : Int)) false).run Tryz.prog w' = .ok (.agg (tw ws).toArray) w' :=
    fun w' hb => ⟨(cell_heap hb.hg 2).trans d2, (hb.hx (1 + l) (by omega)).trans kf, hlk.out _ hb.hb⟩
  have hPB : ∀ w', Below w1.heap.size w1 w' → PS g b w.heap.size w1 w' := fun w' h => PS.below H1.out.box.lt H1.out.mb.lt hX1.lt h
  have hP0 : PS g b w.heap.size w1 w1.drew := hPB _ ⟨rfl, rfl, rfl, Nat.le_refl _, fun _ _ => rfl⟩
  have hlt := hX1.lt
  have ne1 : g ≠ w1.heap.size := by omega
  have ne2 : b ≠ w1.heap.size := by omega
  have ne3 : w.heap.size ≠ w1.heap.size := by omega
  have bel2 : Below w1.heap.size w1 (w1.alloc (.cells Tryz.zeroCells125 125)).drew := ⟨rfl, rfl, rfl, by simp, fun k hk => Below.heap_alloc w1 _ k hk⟩
  have hP2 := hPB _ bel2
  have hZ2 : Hid (Blk (w1.alloc (.cells Tryz.zeroCells125 125)).drew w1.heap.size 125 Tryz.zeroCells125.toList) := by
    show _ = _
    rw [Array.toArray_toList]
    exact heap_alloc_new w1 _
  have hzl : Tryz.zeroCells125.toList.length = (tw ws).length := by
    rw [tw_len]
    kernel_rfl
  have hth : (w1.alloc (.cells Tryz.zeroCells125 125)).drew.there w1.heap.size 0 (tw ws).toArray.size := hZ2.out.there _ (by rw [hzl]; exact List.size_toArray)
  have hZ3 := W_hid (Blk.cells0 hZ2.out (tw ws) hzl)
  have bel3 : Below w1.heap.size w1 ((w1.alloc (.cells Tryz.zeroCells125 125)).drew.setCells w1.heap.size 0 (tw ws)) := below_cells (Nat.le_refl _) _ _ bel2
  have hP3 := hPB _ bel3
  replace bel3 := W_hid bel3
  have hone : ∀ v ∈ tw ws, v.oneCell' = true := fun v hv => by
    simp only [tw, List.mem_map] at hv
    obtain ⟨i, -, rfl⟩ := hv
    rfl
  replace bel2 := W_hid bel2
  clear hzl
  replace hS := W_hid hS
  replace hPB := W_hid hPB
  clear hX1
  have l5 : (l : Int) < 5 := by omega
  have hone2 := hone
  clear hone
  have hth2 := hth
  clear hth
  have hinf := table_info ws
  go_wp2_with fail
  go_region_held3 (fun w' => w'.cell? ⟨g, 2, none⟩ = some (.map (some b)) ∧ w'.cell? ⟨w.heap.size, 1 + l, none⟩ = some (.int .u64 (fr l : Int)) ∧ (Instr.lookup 117 (.map (some b)) (.int .u64 (fr l : Int)) false).run Tryz.prog w' = .ok (.agg (tw ws).toArray) w')
    (first | (with_reducible exact hS.out _ hP0) | (with_reducible exact hS.out _ hP2) | (with_reducible exact hS.out _ hP3))
    (first | fail)
  all_goals
    refine then_world (fun W => Blk W w1.heap.size 125 (tw ws) ∧ Below w1.heap.size w1 W) ⟨hZ3.out, bel3.out⟩ ?_
    clear hP0 hP2 hP3 hZ2 hZ3 bel2 bel3 hone2 hth2 hinf hS hPB hlk
    rintro W3 ⟨hT, bel3⟩
    have cT : W3.cell? ⟨w1.heap.size, EN.idx va l, none⟩ = some (.int .u64 ((ws (EN.idx va l) : Nat) : Int)) := hT.cell (tw_get ws _ hil)
    have fT := hT.fz
    have il2 : ((EN.idx va l : Nat) : Int) < 512 := by omega
    have hT4 := hT.set (EN.idx va l) (.int .u64 (v : Int))
    rw [tw_set ws _ v hil] at hT4
    have bel4 := bel3.setCell (p := ⟨w1.heap.size, EN.idx va l, none⟩) (Nat.le_refl _) (.int .u64 (v : Int))
    replace hT4 := W_hid hT4
    replace bel4 := W_hid bel4
    clear hT bel3
    go_wp2_with fail
    refine wp_world (fun W => Blk W w1.heap.size 125 (tw (wset ws (EN.idx va l) v)) ∧ Below w1.heap.size w1 W) ⟨hT4.out, bel4.out⟩ ?_
    clear hT4 bel4 cT fT
    rintro W4 ⟨hT, bel4⟩
    have H4 := W_hid (H1.out.keep bel4)
    have d2 := H4.out.box.cell (j := 2) rfl
    have kf : W4.cell? ⟨w.heap.size, 1 + l, none⟩ = some (.int .u64 (fr l : Int)) := (hX1'.out.keep bel4).cell (wl_get h4)
    replace hT := W_hid hT
    replace bel4 := W_hid bel4
    refine wp_region_still_tail 9 (by kernel_rfl) (by kernel_rfl) ?_
    simp only [List.take_succ_cons, List.take_zero, List.drop_succ_cons, List.drop_zero]
    iterate 8 still_step
    refine wpStill_step (fun K hK => ?_)
    refine still_load_row rfl 125 _ rfl w1.heap.size rfl _ _ _ hT.out Tryz.underlying125 rfl (table_info _) ?_
    refine hK _ ?_
    clear hK K
    refine wpStill_nil ?_
    refine wpList_put_b rfl _ _ _ rfl b (fr l) (wset ws (EN.idx va l) v) M rfl rfl rfl (H4.out.mb.heap rfl) hf ?_
    intro W5 hM5 hg5 hs5
    have hres : Hid (MB W5 b (upd M (fr l) (some (wset ws (EN.idx va l) v))) ∧ Two b b w W5) := W_hid ⟨hM5, two_grown (below_drewN (bel1.trans (bel4.out.mono bel1.size)) 1) hg5⟩
    clear hM5 hg5 hs5 d2 kf hT bel4 H4
    go_wp2
    go_end0
    exact ⟨rfl, hres.out⟩
end Go.Proofs.YthdohimjcjkneaaGreatDoor

namespace Go.Proofs.YthdohimjcjkneaaGreatDoor
open Go.ChangeShapes Go.WideShapes Go.ChangeAt Go.RowKit
set_option linter.unusedVariables false
set_option linter.unusedSimpArgs false

/-- Words of marks, as cells. -/
def wrow (T : Nat → Bool) (m : Nat) : List Value := (List.range m).map fun q => .int .u64 ((FR.wd T q : Nat) : Int)
theorem wrow_get (T : Nat → Bool) (m q : Nat) (hq : q < m) : (wrow T m)[q]? = some (.int .u64 ((FR.wd T q : Nat) : Int)) := by simp [wrow, hq]
theorem wrow_set (T : Nat → Bool) (m q r W : Nat) (h : Bool) (hq : q < m) (hr : r + W ≤ 64) :
    (wrow T m).set q (.int .u64 ((WM.put (FR.wd T q) r W (FR.want h W) : Nat) : Int)) = wrow (FR.st T (64 * q + r) W h) m := by
  apply List.ext_getElem?
  intro j
  rw [List.getElem?_set]
  by_cases hj : j < m
  · rw [wrow_get (FR.st T (64 * q + r) W h) m j hj]
    by_cases e : q = j
    · subst e
      rw [if_pos rfl, if_pos (by simpa [wrow] using hq), FR.put_wd _ _ _ _ _ hr]
    · rw [if_neg e, wrow_get _ _ _ hj, FR.wd_other _ _ _ _ _ _ hr (by omega)]
  · have e1 : (wrow (FR.st T (64 * q + r) W h) m)[j]? = none := by simp [wrow]; omega
    rw [e1, if_neg (by omega)]
    simp [wrow]; omega
theorem wrow_congr (T U : Nat → Bool) (m : Nat) (h : ∀ x, x < 64 * m → T x = U x) : wrow T m = wrow U m := by
  unfold wrow
  refine List.map_congr_left fun q hq => ?_
  have := List.mem_range.1 hq
  rw [FR.wd_congr T U q fun j hj => h _ (by omega)]

/-- A pool of the program's: n frames, of which those are taken that T says; m words. -/
structure PL (w : World) (g b n m : Nat) (T : Nat → Bool) : Prop where
  box : ∃ lf : Nat, lf + FR.cnt T 0 n = n ∧ Blk w g 114 [.slice (some ⟨b, 0, none⟩) m m, .int .i64 n, .int .i64 lf]
  row : Blk w b 36 (wrow T m)
  ne : g ≠ b
  n1 : 1 ≤ n
  n2 : n ≤ 65536
  nm : n ≤ 64 * m
  m8 : m % 8 = 0
  m2 : m ≤ 1024
  pad : ∀ x, n ≤ x → x < 64 * m → T x = true

/-- A pool of the document's. -/
def brow (T : Nat → Bool) (n : Nat) : List Value := (List.range n).map fun x => .bool (T x)
theorem brow_get (T : Nat → Bool) (n x : Nat) (hx : x < n) : (brow T n)[x]? = some (.bool (T x)) := by simp [brow, hx]
theorem brow_set (T : Nat → Bool) (n x : Nat) (h : Bool) (hx : x < n) : (brow T n).set x (.bool h) = brow (FR.st T x 1 h) n := by
  apply List.ext_getElem?
  intro j
  rw [List.getElem?_set]
  by_cases hj : j < n
  · rw [brow_get (FR.st T x 1 h) n j hj]
    by_cases e : x = j
    · subst e
      rw [if_pos rfl, if_pos (by simpa [brow] using hx)]
      unfold FR.st; rw [if_pos (by omega)]
    · rw [if_neg e, brow_get _ _ _ hj, FR.st_out _ _ _ _ _ (by omega)]
  · have e1 : (brow (FR.st T x 1 h) n)[j]? = none := by simp [brow]; omega
    rw [e1, if_neg (by omega)]
    simp [brow]; omega
theorem brow_congr (T U : Nat → Bool) (n : Nat) (h : ∀ x, x < n → T x = U x) : brow T n = brow U n := by
  unfold brow
  exact List.map_congr_left fun x hx => by rw [h x (List.mem_range.1 hx)]
structure RL (w : World) (g b n : Nat) (T : Nat → Bool) : Prop where
  box : Blk w g 109 [.slice (some ⟨b, 0, none⟩) n n]
  row : Blk w b 4 (brow T n)
  ne : g ≠ b
  n1 : 1 ≤ n
  n2 : n ≤ 65536

section
variable {w w' : World} {g b n m g2 b2 : Nat} {T : Nat → Bool}
theorem PL.keep (h : PL w g b n m T) (hb : Below w.heap.size w w') : PL w' g b n m T := ⟨h.box.elim fun lf e => ⟨lf, e.1, e.2.keep hb⟩, h.row.keep hb, h.ne, h.n1, h.n2, h.nm, h.m8, h.m2, h.pad⟩
theorem PL.two (h : PL w g b n m T) (t : Two g2 b2 w w') (h1 : g ≠ g2) (h2 : g ≠ b2) (h3 : b ≠ g2) (h4 : b ≠ b2) : PL w' g b n m T := ⟨h.box.elim fun lf e => ⟨lf, e.1, e.2.two t h1 h2⟩, h.row.two t h3 h4, h.ne, h.n1, h.n2, h.nm, h.m8, h.m2, h.pad⟩
theorem RL.keep (h : RL w g b n T) (hb : Below w.heap.size w w') : RL w' g b n T := ⟨h.box.keep hb, h.row.keep hb, h.ne, h.n1, h.n2⟩
theorem RL.two (h : RL w g b n T) (t : Two g2 b2 w w') (h1 : g ≠ g2) (h2 : g ≠ b2) (h3 : b ≠ g2) (h4 : b ≠ b2) : RL w' g b n T := ⟨h.box.two t h1 h2, h.row.two t h3 h4, h.ne, h.n1, h.n2⟩
/-- The facts that a walk over a pool wants. -/
theorem PL.gives (h : PL w g b n m T) : ∃ lf : Nat, lf + FR.cnt T 0 n = n ∧ w.cell? ⟨g, 0, none⟩ = some (.slice (some ⟨b, 0, none⟩) m m) ∧ w.cell? ⟨g, 1, none⟩ = some (.int .i64 n) ∧ w.cell? ⟨g, 2, none⟩ = some (.int .i64 lf) ∧
    (∀ i, w.frozen? ⟨g, i, none⟩ = false) := by
  obtain ⟨lf, e, hb⟩ := h.box
  exact ⟨lf, e, hb.cell rfl, hb.cell rfl, hb.cell rfl, hb.fz⟩
end
end Go.Proofs.YthdohimjcjkneaaGreatDoor

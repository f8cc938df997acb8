/- Contracts of package radix: a way's page; a word is set. -/
import Derived.Test.YthiojnbnhagcgaaDoorRadFind
import Derived.BigQuiet
import Derived.StillTailTactics
import Derived.Deep.RegionHeld3
namespace Go.Proofs.YthiojnbnhagcgaaDoor
open Go.ChangeShapes Go.WideShapes Go.ChangeAt Go.RowKit
set_option linter.unusedVariables false
set_option linter.unusedSimpArgs false

/-- The world ahead of a piece of code is given a letter, and what is known of it. -/
theorem wp_world {P : Program} {c : Code} {Q : Exit → Act → World → Prop} {a : Act} {W : World} (R : World → Prop) (h : R W) (k : ∀ W, R W → Code.wp P c Q a W) : Code.wp P c Q a W := k W h
theorem sz_ones (k : Nat) (h : k ≤ 3) : WM.ones (EN.sz k) 64 = 1 := by
  have : k = 0 ∨ k = 1 ∨ k = 2 ∨ k = 3 := by omega
  rcases this with rfl | rfl | rfl | rfl <;> decide +kernel
theorem sz_lt (k : Nat) (h : k ≤ 3) : EN.sz k < 18446744073709551616 := by have := EN.sz_le k (by omega); omega

set_option maxRecDepth 100000 in
set_option maxHeartbeats 2000000 in
theorem page_any (va L : Nat) (fr : Nat → Nat) (E : Bool × Bool × Int × Nat) (p : Bool) (hva : va < 140737488355328) (h1 : 1 ≤ L) (h4 : L ≤ 4) (w : World) :
    Calls Tryd.prog 20 #[.agg (wl va fr L E p).toArray] w fun e w' =>
      e = .returned (.agg #[.int .u64 ((va - va % EN.sz (L - 1) : Nat) : Int), .int .u64 (E.2.2.2 : Int), .int .i64 E.2.2.1, .bool E.2.1]) ∧ Below w.heap.size w w' := by
  have hSp := W_hid (fun (w : World) (t : Nat) => Calls.quiet_of_same ((span_any L h1 h4 (w.drewN t)).mono fun e w' ⟨he, hw⟩ => ⟨he, hw.symm⟩))
  have hDn := W_hid (fun (w : World) (t : Nat) => Calls.quiet_of_same ((down_yes va (EN.sz (L - 1)) (by omega) (sz_lt _ (by omega)) (sz_ones _ (by omega)) (w.drewN t)).mono fun e w' ⟨he, hw⟩ => ⟨he, hw.symm⟩))
  have hMp := W_hid (fun v p f t h w => mapping_any v p f t h w)
  go_enter Tryd.func20, Tryd.ntmps20
  go_wp2_with fail
  refine wp_world (fun W => Blk W w.heap.size 59 (wl va fr L E p) ∧ Blk W (w.heap.size + 1) 24 [.int .u64 0, .int .u64 0, .int .i64 0, .bool false] ∧ Below w.heap.size w W)
    ⟨Blk.alloc (Blk.new w _ _ rfl) _, Blk.new (w.alloc _) _ _ (by simp), ((Below.refl _ _).alloc (Nat.le_refl _) _).alloc (by simp) _⟩ ?_
  rintro W ⟨hX, hZ, bel⟩
  have c0 : W.cell? ⟨w.heap.size, 0, none⟩ = some (.int .u64 (va : Int)) := hX.cell rfl
  have c6 : W.cell? ⟨w.heap.size, 6, none⟩ = some (.int .i64 (L : Int)) := hX.cell rfl
  replace hX := W_hid hX
  replace hZ := W_hid hZ
  replace bel := W_hid bel
  go_quiet (first | (go_at_call 27; exact hSp.out _ _) | (go_at_call 26; exact hDn.out _ _))
  refine then_world (fun W' => Blk W' w.heap.size 59 (wl va fr L E p) ∧ Blk W' (w.heap.size + 1) 24 [.int .u64 0, .int .u64 0, .int .i64 0, .bool false] ∧ Below w.heap.size w W') ⟨hX.out, hZ.out, below_drewN bel.out nq⟩ ?_
  clear hX hZ bel c0 c6
  rintro W2 ⟨hX, hZ, bel⟩
  have c7 : W2.cell? ⟨w.heap.size, 7, none⟩ = some (.bool E.1) := hX.cell rfl
  have c8 : W2.cell? ⟨w.heap.size, 7 + 1, none⟩ = some (.bool E.2.1) := hX.cell rfl
  have c9 : W2.cell? ⟨w.heap.size, 7 + 2, none⟩ = some (.int .i64 E.2.2.1) := hX.cell rfl
  have c10 : W2.cell? ⟨w.heap.size, 7 + 3, none⟩ = some (.int .u64 (E.2.2.2 : Int)) := hX.cell rfl
  replace hX := W_hid hX
  replace hZ := W_hid hZ
  replace bel := W_hid bel
  go_wp2_with fail
  refine (hMp.out _ _ _ _ _ _).mono ?_
  rintro e W3 ⟨rfl, bel3⟩
  have hZ3 := W_hid (hZ.out.keep bel3)
  have bel4 := W_hid (bel.out.trans (bel3.mono bel.out.size))
  clear bel3
  go_wp2_with (refine wpList_store_b rfl 24 _ _ rfl (w.heap.size + 1) [.int .u64 ((WM.down va (EN.sz (L - 1)) : Nat) : Int), .int .u64 (E.2.2.2 : Int), .int .i64 E.2.2.1, .bool E.2.1] rfl rfl _ _ hZ3.out (by kernel_rfl) rfl (by simp [Value.oneCell']) ?_; intro w4 hZ4 hb4 he4; have bel5 := W_hid (hb4 _ _ (Nat.le_succ _) bel4.out); replace hZ4 := W_hid hZ4; clear hb4 he4)
  exact bodyPost_ret (res_map rfl _ _ rfl hZ4.out rfl) rfl ⟨rfl, bel5.out⟩

theorem table_info (ws : Nat → Nat) : (Tryd.prog.info? 50).map (·.size) = some (tw ws).toArray.size := by
  rw [List.size_toArray, tw_len]
  kernel_rfl
theorem alloc_table (w : World) : (Instr.alloc 50 true (.tuple #[])).run Tryd.prog w = .ok (.pointer (some ⟨w.heap.size, 0, none⟩)) (w.alloc (.cells (tw zero).toArray 50)) := by kernel_rfl
theorem table_one (ws : Nat → Nat) : (tw ws).toArray.all (·.oneCell') = true := by
  rw [Array.all_eq_true_iff_forall_mem]
  intro v hv
  simp only [List.mem_toArray, tw, List.mem_map] at hv
  obtain ⟨i, -, rfl⟩ := hv
  rfl

set_option maxRecDepth 100000 in
set_option maxHeartbeats 1000000 in
theorem setw_any (g pg r b va L l v : Nat) (fr : Nat → Nat) (E : Bool × Bool × Int × Nat) (p : Bool) (M : Nat → Option (Nat → Nat)) (hva : va < 140737488355328) (h1 : 1 ≤ l) (h4 : l ≤ 4) (hf : fr l < 65536) (w : World) (h : TM w g pg r b M) :
    Calls Tryd.prog 21 #[.pointer (some ⟨g, 0, none⟩), .agg (wl va fr L E p).toArray, .int .i64 (l : Int), .int .u64 (v : Int)] w fun e w' =>
      e = .returned (.tuple #[]) ∧ MB w' b (upd M (fr l) (some (wset ((M (fr l)).getD zero) (EN.idx va l) v))) ∧ Two b b w w' := by
  have hI := W_hid (fun w => Index_yes va l hva h1 h4 w)
  have H := W_hid h
  have hgl := h.box.lt
  have hbl := h.mb.lt
  have hil := EN.idx_lt va l
  have q0 : (wl va fr L E p)[0]? = some (.int .u64 (va : Int)) := rfl
  obtain ⟨ws, hws⟩ : ∃ ws, (M (fr l)).getD zero = ws := ⟨_, rfl⟩
  rw [hws]
  replace hws := W_hid hws
  clear h
  go_enter Tryd.func21, Tryd.ntmps21
  go_wp2_with fail
  refine (hI.out _).mono ?_
  rintro e w1 ⟨rfl, bel1⟩
  have hX1 : Blk w1 w.heap.size 59 (wl va fr L E p) := Blk.keep (Blk.new w _ _ rfl) bel1
  replace bel1 : Below w.heap.size w w1 := ((Below.refl w.heap.size w).alloc (Nat.le_refl _) _).trans (bel1.mono (by simp))
  have H1 := W_hid (H.out.keep bel1)
  have hX1' := W_hid hX1
  have d2 := H1.out.box.cell (j := 2) rfl
  have kf : w1.cell? ⟨w.heap.size, 1 + l, none⟩ = some (.int .u64 (fr l : Int)) := hX1.cell (wl_get h4)
  have hlk0 : ∀ w', w'.heap[b]? = w1.heap[b]? → (Instr.lookup 51 (.map (some b)) (.int .u64 (fr l : Int)) false).run Tryd.prog w' = .ok (.agg (tw ((M (fr l)).getD zero)).toArray) w' :=
    fun w' hw => (H1.out.mb.heap hw).look (fr l) (by omega)
  rw [hws.out] at hlk0
  have hlk := W_hid hlk0
  clear hlk0
  have hS : ∀ w', PS g b w.heap.size w1 w' → w'.cell? ⟨g, 2, none⟩ = some (.map (some b)) ∧ w'.cell? ⟨w.heap.size, 1 + l, none⟩ = some (.int .u64 (fr l : Int)) ∧ (Instr.lookup 51 (.map (some b)) (.int .u64 (fr l : Int)) false).run Tryd.prog w' = .ok (.agg (tw ws).toArray) w' :=
    fun w' hb => ⟨(cell_heap hb.hg 2).trans d2, (hb.hx (1 + l) (by omega)).trans kf, hlk.out _ hb.hb⟩
  have hPB : ∀ w', Below w1.heap.size w1 w' → PS g b w.heap.size w1 w' := fun w' h => PS.below H1.out.box.lt H1.out.mb.lt hX1.lt h
  have hP0 : PS g b w.heap.size w1 w1.drew := hPB _ ⟨rfl, rfl, rfl, Nat.le_refl _, fun _ _ => rfl⟩
  have hlt := hX1.lt
  have ne1 : g ≠ w1.heap.size := by omega
  have ne2 : b ≠ w1.heap.size := by omega
  have ne3 : w.heap.size ≠ w1.heap.size := by omega
  have bel2 : Below w1.heap.size w1 (w1.alloc (.cells Tryd.zeroCells50 50)).drew := ⟨rfl, rfl, rfl, by simp, fun k hk => Below.heap_alloc w1 _ k hk⟩
  have hP2 := hPB _ bel2
  have hZ2 : Hid (Blk (w1.alloc (.cells Tryd.zeroCells50 50)).drew w1.heap.size 50 Tryd.zeroCells50.toList) := by
    show _ = _
    rw [Array.toArray_toList]
    exact heap_alloc_new w1 _
  have hzl : Tryd.zeroCells50.toList.length = (tw ws).length := by
    rw [tw_len]
    kernel_rfl
  have hth : (w1.alloc (.cells Tryd.zeroCells50 50)).drew.there w1.heap.size 0 (tw ws).toArray.size := hZ2.out.there _ (by rw [hzl]; exact List.size_toArray)
  have hZ3 := W_hid (Blk.cells0 hZ2.out (tw ws) hzl)
  have bel3 : Below w1.heap.size w1 ((w1.alloc (.cells Tryd.zeroCells50 50)).drew.setCells w1.heap.size 0 (tw ws)) := below_cells (Nat.le_refl _) _ _ bel2
  have hP3 := hPB _ bel3
  replace bel3 := W_hid bel3
  have hone : ∀ v ∈ tw ws, v.oneCell' = true := fun v hv => by
    simp only [tw, List.mem_map] at hv
    obtain ⟨i, -, rfl⟩ := hv
    rfl
  replace bel2 := W_hid bel2
  clear hzl
  replace hS := W_hid hS
  replace hPB := W_hid hPB
  clear hX1
  have l5 : (l : Int) < 5 := by omega
  have hone2 := hone
  clear hone
  have hth2 := hth
  clear hth
  have hinf := table_info ws
  go_wp2_with fail
  go_region_held3 (fun w' => w'.cell? ⟨g, 2, none⟩ = some (.map (some b)) ∧ w'.cell? ⟨w.heap.size, 1 + l, none⟩ = some (.int .u64 (fr l : Int)) ∧ (Instr.lookup 51 (.map (some b)) (.int .u64 (fr l : Int)) false).run Tryd.prog w' = .ok (.agg (tw ws).toArray) w')
    (first | (with_reducible exact hS.out _ hP0) | (with_reducible exact hS.out _ hP2) | (with_reducible exact hS.out _ hP3))
    (first | fail)
  all_goals
    refine then_world (fun W => Blk W w1.heap.size 50 (tw ws) ∧ Below w1.heap.size w1 W) ⟨hZ3.out, bel3.out⟩ ?_
    clear hP0 hP2 hP3 hZ2 hZ3 bel2 bel3 hone2 hth2 hinf hS hPB hlk
    rintro W3 ⟨hT, bel3⟩
    have cT : W3.cell? ⟨w1.heap.size, EN.idx va l, none⟩ = some (.int .u64 ((ws (EN.idx va l) : Nat) : Int)) := hT.cell (tw_get ws _ hil)
    have fT := hT.fz
    have il2 : ((EN.idx va l : Nat) : Int) < 512 := by omega
    have hT4 := hT.set (EN.idx va l) (.int .u64 (v : Int))
    rw [tw_set ws _ v hil] at hT4
    have bel4 := bel3.setCell (p := ⟨w1.heap.size, EN.idx va l, none⟩) (Nat.le_refl _) (.int .u64 (v : Int))
    replace hT4 := W_hid hT4
    replace bel4 := W_hid bel4
    clear hT bel3
    go_wp2_with fail
    refine wp_world (fun W => Blk W w1.heap.size 50 (tw (wset ws (EN.idx va l) v)) ∧ Below w1.heap.size w1 W) ⟨hT4.out, bel4.out⟩ ?_
    clear hT4 bel4 cT fT
    rintro W4 ⟨hT, bel4⟩
    have H4 := W_hid (H1.out.keep bel4)
    have d2 := H4.out.box.cell (j := 2) rfl
    have kf : W4.cell? ⟨w.heap.size, 1 + l, none⟩ = some (.int .u64 (fr l : Int)) := (hX1'.out.keep bel4).cell (wl_get h4)
    replace hT := W_hid hT
    replace bel4 := W_hid bel4
    refine wp_region_still_tail 9 (by kernel_rfl) (by kernel_rfl) ?_
    simp only [List.take_succ_cons, List.take_zero, List.drop_succ_cons, List.drop_zero]
    iterate 8 still_step
    refine wpStill_step (fun K hK => ?_)
    refine still_load_row rfl 50 _ rfl w1.heap.size rfl _ _ _ hT.out Tryd.underlying50 rfl (table_info _) ?_
    refine hK _ ?_
    clear hK K
    refine wpStill_nil ?_
    refine wpList_put_b rfl _ _ _ rfl b (fr l) (wset ws (EN.idx va l) v) M rfl rfl rfl (H4.out.mb.heap rfl) hf ?_
    intro W5 hM5 hg5 hs5
    have hres : Hid (MB W5 b (upd M (fr l) (some (wset ws (EN.idx va l) v))) ∧ Two b b w W5) := W_hid ⟨hM5, two_grown (below_drewN (bel1.trans (bel4.out.mono bel1.size)) 1) hg5⟩
    clear hM5 hg5 hs5 d2 kf hT bel4 H4
    go_wp2
    go_end0
    exact ⟨rfl, hres.out⟩
end Go.Proofs.YthiojnbnhagcgaaDoor

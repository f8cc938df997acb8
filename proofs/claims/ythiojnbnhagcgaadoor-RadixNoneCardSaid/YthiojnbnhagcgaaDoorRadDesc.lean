/- Contract of package radix's descend: a search goes down from the root to the level where it ends. -/
import Derived.Test.YthiojnbnhagcgaaDoorRadWay
namespace Go.Proofs.YthiojnbnhagcgaaDoor
open Go.ChangeShapes Go.WideShapes Go.ChangeAt Go.RowKit
set_option linter.unusedVariables false
set_option linter.unusedSimpArgs false

set_option maxRecDepth 100000 in
set_option maxHeartbeats 2000000 in
theorem descend_any (g pg r b n va lo L : Nat) (fr : Nat → Nat) (M : Nat → Option (Nat → Nat)) (F : RX.Tabs) (G : RX.Pags) (I : RX.Inv F G r n) (R : RX.Rep M F G) (hva : va < 140737488355328) (hd : RX.Desc F va lo L fr) (w : World) (h : TM w g pg r b M) :
    Calls Tryd.prog 43 #[.pointer (some ⟨g, 0, none⟩), .int .u64 (va : Int), .int .i64 (lo : Int)] w fun e w' =>
      e = .returned (.agg (wl va fr L (RX.ent F G L (va / EN.sz (L - 1))) (RX.pres F G L (va / EN.sz (L - 1)))).toArray) ∧ Below w.heap.size w w' := by
  have c1 := h.box.cell (j := 1) rfl
  have fz := h.box.fz
  have H := W_hid h
  have hlt := h.box.lt
  have ne1 : ¬ g = w.heap.size := by omega
  have ne2 : ¬ w.heap.size = g := by omega
  have ne3 : ¬ g = w.heap.size + 1 := by omega
  have ne4 : ¬ w.heap.size + 1 = g := by omega
  have neb : ¬ b = w.heap.size + 1 := by have := h.mb.lt; omega
  clear h
  go_enter Tryd.func43, Tryd.ntmps43
  go_wp2_with fail
  go_loopw [8] (fun x wr => ∃ k : Nat, L ≤ k ∧ k ≤ 4 ∧ cn wr (w.heap.size + 1) 6 = k ∧ Below w.heap.size w wr ∧ (∃ e p, Blk wr (w.heap.size + 1) 59 (wl va (cut fr k) k e p)) ∧ ∃ l, l.length = 12 ∧ Blk wr w.heap.size 59 l) (fun _ wr => cn wr (w.heap.size + 1) 6)
  case atStart =>
    have hr4 : fr 4 = r := by
      have h1 := hd.on 4 hd.l4 (Nat.le_refl _)
      rw [RX.top_zero va hva, I.root] at h1
      exact (Option.some.inj h1).symm
    have e0 : [Value.int .u64 (va : Int), .int .u64 0, .int .u64 0, .int .u64 0, .int .u64 0, .int .u64 (r : Int), .int .i64 4, .bool false, .bool false, .int .i64 0, .int .u64 0, .bool false] = wl va (cut fr 4) 4 (false, false, 0, 0) false := by simp [wl, cut, hr4]
    have hB : ∀ o : Obj, Blk ((w.alloc o).alloc (.cells (wl va (cut fr 4) 4 (false, false, 0, 0) false).toArray 59)) (w.heap.size + 1) 59 (wl va (cut fr 4) 4 (false, false, 0, 0) false) := fun o => Blk.new (w.alloc o) _ _ (by simp)
    rw [← e0] at hB
    refine ⟨4, hd.l4, Nat.le_refl _, cn_of ((hB _).cell (j := 6) rfl) rfl, ((Below.refl _ _).alloc (Nat.le_refl _) _).alloc (by simp) _, ⟨(false, false, 0, 0), false, e0 ▸ hB _⟩, _, ?_, Blk.alloc (Blk.new w _ [.int .u64 0, .int .u64 0, .int .u64 0, .int .u64 0, .int .u64 0, .int .u64 0, .int .i64 0, .bool false, .bool false, .int .i64 0, .int .u64 0, .bool false] rfl) _⟩
    rfl
  case round =>
    obtain ⟨k, hk1, hk4, hcn, bel, ⟨e, p, hW⟩, l, hl, hZ⟩ := hrel
    have H2 := W_hid (H.out.keep bel)
    have d1 := H2.out.box.cell (j := 1) rfl
    have d2 := H2.out.box.cell (j := 2) rfl
    have k6 : wr.cell? ⟨w.heap.size + 1, 6, none⟩ = some (.int .i64 (k : Int)) := hW.cell rfl
    have hX := W_hid (fun w => Index_yes va k hva (by have := hd.l1; omega) hk4 w)
    go_wp2_with fail
    refine (hX.out _).mono ?_
    rintro e1 w2 ⟨rfl, bel2⟩
    have hW2 : Blk w2 (w.heap.size + 1) 59 (wl va (cut fr k) k e p) := hW.keep bel2
    have hZ2 := hZ.keep bel2
    replace bel2 := bel.trans (bel2.mono bel.size)
    have H3 := W_hid (H.out.keep bel2)
    obtain ⟨ws, hM, hwi⟩ := hd.toWay.word R k hk1 hk4
    have hfl := RX.Way.lt I hd.toWay k
    have hlk : ∀ w', w'.heap[b]? = w2.heap[b]? → (Instr.lookup 51 (.map (some b)) (.int .u64 (fr k : Int)) false).run Tryd.prog w' = .ok (.agg (tw ws).toArray) w' := by
      intro w' hw
      have := (H3.out.mb.heap hw).look (fr k) (by omega)
      rw [hM] at this; exact this
    have hix : ∀ w, (Instr.index 50 (.agg (tw ws).toArray) (.int .i64 ((EN.idx va k : Nat) : Int))).run Tryd.prog w = .ok (.int .u64 ((RX.word F G k (va / EN.sz (k - 1)) : Nat) : Int)) w := by
      intro w
      rw [← hwi]
      exact tw_index ws _ (EN.idx_lt va k) w
    have d2 := H3.out.box.cell (j := 2) rfl
    have k6 : w2.cell? ⟨w.heap.size + 1, 6, none⟩ = some (.int .i64 (k : Int)) := hW2.cell rfl
    have kf : w2.cell? ⟨w.heap.size + 1, 1 + k, none⟩ = some (.int .u64 (fr k : Int)) := hW2.cell (cut_cell hk4 (Nat.le_refl k))
    have hD := W_hid (fun w hk => decode_word (l := k) (c := va / EN.sz (k - 1)) (f0 := fr k) I (by rw [RX.sz_down va k (by have := hd.l1; omega)]; exact hd.on k hk1 hk4) w hk)
    generalize RX.word F G k (va / EN.sz (k - 1)) = V at *
    obtain ⟨T0, hT0⟩ : ∃ T0, T0 = (tw ws).toArray := ⟨_, rfl⟩
    rw [← hT0] at hlk hix
    replace hT0 := W_hid hT0
    have hKd : KT w2.drew := (H3.out.kt : KT w2)
    have k5 : (k : Int) < 5 := by omega
    have hS : ∀ w', PS g b (w.heap.size + 1) w2 w' → w'.cell? ⟨g, 2, none⟩ = some (.map (some b)) ∧ w'.cell? ⟨w.heap.size + 1, 6, none⟩ = some (.int .i64 (k : Int)) ∧ w'.cell? ⟨w.heap.size + 1, 1 + k, none⟩ = some (.int .u64 (fr k : Int)) ∧ (Instr.lookup 51 (.map (some b)) (.int .u64 (fr k : Int)) false).run Tryd.prog w' = .ok (.agg T0) w' := by
      intro w' hb
      exact ⟨(cell_heap hb.hg 2).trans d2, (hb.hx 6 (by omega)).trans k6, (hb.hx (1 + k) (by omega)).trans kf, hlk _ hb.hb⟩
    have hPB : ∀ w', Below w2.heap.size w2 w' → PS g b (w.heap.size + 1) w2 w' := fun w' h => PS.below H3.out.box.lt H3.out.mb.lt hW2.lt h
    replace hS := W_hid hS
    have hP0 : PS g b (w.heap.size + 1) w2 w2.drew := hPB _ ⟨rfl, rfl, rfl, Nat.le_refl _, fun _ _ => rfl⟩
    replace hPB := W_hid hPB
    go_wp2_with fail
    go_region_held3 (fun w' => w'.cell? ⟨g, 2, none⟩ = some (.map (some b)) ∧ w'.cell? ⟨w.heap.size + 1, 6, none⟩ = some (.int .i64 (k : Int)) ∧ w'.cell? ⟨w.heap.size + 1, 1 + k, none⟩ = some (.int .u64 (fr k : Int)) ∧ (Instr.lookup 51 (.map (some b)) (.int .u64 (fr k : Int)) false).run Tryd.prog w' = .ok (.agg T0) w')
      (first | (with_reducible exact hS.out _ hP0) | (with_reducible exact hS.out _ hP3) | (with_reducible exact hS.out _ (hP4 _ _ _ _)) | (with_reducible exact hS.out _ (hP5 _ _ _ _ _)))
      (first | (go_at_call 52; refine (hD.out _ hKd).mono ?_; rintro e w3 ⟨rfl, bel3⟩; have hW3 := hW2.keep (bundrew bel3); have hP3 := hPB.out _ (bundrew bel3); have hP4 := fun v0 v1 v2 v3 => (((hP3.set 7 v0 (by decide) ne3 neb).set 8 v1 (by decide) ne3 neb).set 9 v2 (by decide) ne3 neb).set 10 v3 (by decide) ne3 neb; have hP5 := fun v0 v1 v2 v3 v4 => (hP4 v0 v1 v2 v3).set 11 v4 (by decide) ne3 neb; have f3 := hW3.fz; have z7 := hW3.cell (j := 7) rfl; have z8 := hW3.cell (j := 8) rfl; have z9 := hW3.cell (j := 9) rfl; have z10 := hW3.cell (j := 10) rfl; have z11 := hW3.cell (j := 11) rfl))
    rename_i hh
    clear hh
    have bel4 : Below w.heap.size w w3 := bel2.trans ((bundrew bel3).mono bel2.size)
    refine then_world (fun W => Blk W (w.heap.size + 1) 59 (wl va (cut fr k) k (RX.ent F G k (va / EN.sz (k - 1))) (RX.pres F G k (va / EN.sz (k - 1)))) ∧ Below w.heap.size w W ∧ Blk W w.heap.size 59 l) ⟨((((hW3.set 7 _).set 8 _).set 9 _).set 10 _).set 11 _,
      ((((bel4.setCell (p := ⟨w.heap.size + 1, 7, none⟩) (by simp) _).setCell (p := ⟨w.heap.size + 1, 8, none⟩) (by simp) _).setCell (p := ⟨w.heap.size + 1, 9, none⟩) (by simp) _).setCell (p := ⟨w.heap.size + 1, 10, none⟩) (by simp) _).setCell (p := ⟨w.heap.size + 1, 11, none⟩) (by simp) _,
      (((((hZ2.keep (bundrew bel3)).far (by simp) _).far (by simp) _).far (by simp) _).far (by simp) _).far (by simp) _⟩ ?_
    rintro W4 ⟨hW4, bel4, hZ4⟩
    clear hP0 hPB hP3 hP4 hP5 bel3 hW3 f3 z7 z8 z9 z10 z11 hS hD hT0 hlk hix d2 k6 kf hKd
    have hEy : L < k → RX.ent F G k (va / EN.sz (k - 1)) = (true, false, 7, fr (k - 1)) := fun hlt => by
      have := hd.on (k - 1) (by omega) (by omega)
      unfold RX.ent; rw [this]
    have hEn : k = L → L ≠ lo → (RX.ent F G k (va / EN.sz (k - 1))).1 = false := fun e1 e2 => by
      have := hd.stop.resolve_left e2
      subst e1
      unfold RX.ent; rw [this]
      cases hG : G k (va / EN.sz (k - 1)) with
      | none => rfl
      | some x => rfl
    generalize hEe : RX.ent F G k (va / EN.sz (k - 1)) = E at *
    generalize hPe : RX.pres F G k (va / EN.sz (k - 1)) = PP at *
    have c6 : W4.cell? ⟨w.heap.size + 1, 6, none⟩ = some (.int .i64 (k : Int)) := hW4.cell rfl
    have c7 : W4.cell? ⟨w.heap.size + 1, 7, none⟩ = some (.bool E.1) := hW4.cell rfl
    have c10 : W4.cell? ⟨w.heap.size + 1, 10, none⟩ = some (.int .u64 (E.2.2.2 : Int)) := hW4.cell rfl
    have f4 := hW4.fz
    by_cases hkL : k = L
    · subst hkL
      have hcut : cut fr k = fr := by
        funext i
        unfold cut
        split
        · rfl
        · rw [hd.off i (by omega)]
      rw [hcut] at hW4
      have hW5 := W_hid hW4
      have hZ5 := W_hid hZ4
      have hb5 := W_hid bel4
      have hEe' := W_hid hEe
      have hPe' := W_hid hPe
      have hl5 : l.toArray.size = (wl va fr k E PP).toArray.size := by simp [wl, hl]
      clear hEy hcut hW4 hZ4 bel4 hwi hEe hPe hl hk1
      by_cases hlo : k = lo
      · have t1 : ((k : Int) == (lo : Int)) = true := by simp; omega
        clear hEn hd hlo
        go_wp2_with (first
          | (refine wpList_load_row rfl 59 _ rfl (w.heap.size + 1) rfl _ _ _ _ hW5.out Tryd.underlying59 rfl (wl_info _ _ _ _ _) ?_)
          | (refine wpList_store_row rfl 59 _ _ rfl w.heap.size _ rfl rfl _ _ hZ5.out (wl_info _ _ _ _ _) hl5 (wl_one _ _ _ _ _) ?_))
        refine bodyPost_ret (res_way rfl _ _ rfl (Blk.row hZ5.out _) rfl) rfl ⟨?_, below_row hb5.out (Nat.le_refl _) _⟩
        rw [hEe'.out, hPe'.out]
      · have t1 : ((k : Int) == (lo : Int)) = false := by simp; omega
        have t2 := hEn rfl hlo
        rw [t2] at c7
        replace t2 := W_hid t2
        clear hEn hd hlo
        go_wp2_with (first
          | (refine wpList_load_row rfl 59 _ rfl (w.heap.size + 1) rfl _ _ _ _ hW5.out Tryd.underlying59 rfl (wl_info _ _ _ _ _) ?_)
          | (refine wpList_store_row rfl 59 _ _ rfl w.heap.size _ rfl rfl _ _ hZ5.out (wl_info _ _ _ _ _) hl5 (wl_one _ _ _ _ _) ?_))
        refine bodyPost_ret (res_way rfl _ _ rfl (Blk.row hZ5.out _) rfl) rfl ⟨?_, below_row hb5.out (Nat.le_refl _) _⟩
        rw [hEe'.out, hPe'.out]
    · have hlt2 : L < k := by omega
      obtain rfl := hEy hlt2
      have t1 : ((k : Int) == (lo : Int)) = false := by have := hd.ge; simp; omega
      have hl1 := hd.l1
      obtain ⟨m, hm⟩ : ∃ m, m = k - 1 := ⟨k - 1, rfl⟩
      rw [← hm] at hW4 c10
      have eqm : (k : Int) - 1 = (m : Int) := by omega
      have m5 : (m : Int) < 5 := by omega
      have hkm : Hid (k = m + 1) := W_hid (by omega)
      replace hcn := W_hid hcn
      have cm : W4.cell? ⟨w.heap.size + 1, 1 + m, none⟩ = some (.int .u64 ((cut fr k m : Nat) : Int)) := hW4.cell (wl_get (by omega))
      have hm3 : Hid (m ≤ 3 ∧ L ≤ m) := W_hid (by omega)
      have hW5 := W_hid hW4
      have hZ5 := W_hid hZ4
      have hb5 := W_hid bel4
      have hl5 := W_hid hl
      clear hEy hEn hW4 hZ4 bel4 hwi hEe hPe hl hd hk1 hlt2 hkL hm hfl hM
      go_wp2
      go_roundw
      case rel =>
        have hk := hkm.out
        subst hk
        have hB := (hW5.out.set 6 (.int .i64 (m : Int))).set (1 + m) (.int .u64 (fr m : Int))
        rw [wl_step hm3.out.1] at hB
        exact ⟨m, hm3.out.2, by have := hm3.out.1; omega, cn_of (hB.cell (j := 6) rfl) rfl, (hb5.out.setCell (p := ⟨w.heap.size + 1, 6, none⟩) (by simp) _).setCell (p := ⟨w.heap.size + 1, 1 + m, none⟩) (by simp) _, ⟨_, _, hB⟩, l, hl5.out, (hZ5.out.far (by simp) _).far (by simp) _⟩
      case measure =>
        have hk := hkm.out
        subst hk
        have hB := (hW5.out.set 6 (.int .i64 (m : Int))).set (1 + m) (.int .u64 (fr m : Int))
        rw [wl_step hm3.out.1] at hB
        rw [cn_of (hB.cell (j := 6) rfl) rfl, hcn.out]
        omega
end Go.Proofs.YthiojnbnhagcgaaDoor

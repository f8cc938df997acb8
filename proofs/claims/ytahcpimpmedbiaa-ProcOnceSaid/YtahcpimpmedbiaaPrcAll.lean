/- Contracts of package proc: All. -/
import Derived.Test.YtahcpimpmedbiaaPrcWait
namespace Go.Proofs.Ytahcpimpmedbiaa
open Go.ChangeShapes Go.WideShapes Go.ChangeAt Go.RowKit Go.Maps
set_option linter.unusedVariables false
set_option linter.unusedSimpArgs false
set_option maxRecDepth 100000
namespace PC
open IS (ptr I64 Nums upd)
open IN (Keeps lt_of_some)

/-- Processes, cell by cell. -/
def pcl (l : List Pr) : List Value := (l.map prow).flatten
theorem prows (q : List Pr) : ∀ x ∈ q.map prow, x.length = 5 := by
  intro x hx
  obtain ⟨y, -, rfl⟩ := List.mem_map.1 hx
  rfl
theorem pcl_len (q : List Pr) : (pcl q).length = q.length * 5 := by unfold pcl; rw [Own.rows_len (prows q), List.length_map]
theorem pcl_app (a b : List Pr) : pcl (a ++ b) = pcl a ++ pcl b := by simp [pcl]
theorem pcl_one (x : Pr) : pcl [x] = prow x := by simp [pcl]
theorem pcl_take (q : List Pr) (k : Nat) : (pcl q).take (k * 5) = pcl (q.take k) := by unfold pcl; rw [Own.rows_take (prows q), List.map_take]
theorem pcl_drop (q : List Pr) (k : Nat) : (pcl q).drop (k * 5) = pcl (q.drop k) := by unfold pcl; rw [Own.rows_drop (prows q), List.map_drop]
theorem pcl_get (q : List Pr) (i : Nat) (hi : i < q.length) (m : Nat) (hm : m < 5) : (pcl q)[i * 5 + m]? = (prow q[i])[m]? := by
  unfold pcl; rw [Own.rows_get (prows q) i (by simpa using hi) m hm]; simp
theorem pcl_set (q : List Pr) (i : Nat) (hi : i < q.length) (m : Nat) (u : Value) (hm : m < 5) (x : Pr) (hx : (prow q[i]).set m u = prow x) : (pcl q).set (i * 5 + m) u = pcl (q.set i x) := by
  unfold pcl
  rw [Own.rows_set (prows q) i (by simpa using hi) m u hm, List.getElem_map, hx, List.map_set]
theorem prow_one (x : Pr) : ∀ u ∈ prow x, u.oneCell' = true := by
  intro u hu
  simp only [prow, List.mem_cons, List.not_mem_nil, or_false] at hu
  rcases hu with rfl | rfl | rfl | rfl | rfl <;> rfl
theorem pcl_one_cell (q : List Pr) : ∀ u ∈ pcl q, u.oneCell' = true := by
  intro u hu
  unfold pcl at hu
  rw [List.mem_flatten] at hu
  obtain ⟨l, hl, hu⟩ := hu
  obtain ⟨x, -, rfl⟩ := List.mem_map.1 hl
  exact prow_one x u hu
theorem info_prc : Own.Info Try.prog 43 (.agg #[.int .i64 0, .int .i64 0, .int .i64 0, .int .i64 0, .int .i64 0]) 5 40 := Own.info_of (by kernel_rfl) rfl (by decide)
theorem und_prcs : Try.prog.underlying 35 = some (.slice 43) := by kernel_rfl

theorem All_nil (w : World) : Calls Try.prog 15 #[.pointer none] w fun e w' => e = .returned (.slice none 0 0) ∧ w = w' := by
  go_enter Try.func15, Try.ntmps15
  go_wp2_with (go_at_call 30; refine (pnone_nil _).mono ?_; rintro e w' ⟨rfl, rfl⟩)
  go_ret
  exact ⟨rfl, rfl⟩
section
variable {base : Nat} {w w' : World} {tb N : Nat} {L : List Pr} {X : Nat → Prop}
set_option maxRecDepth 100000 in
set_option maxHeartbeats 4000000 in
theorem All_any (h : TW base w tb N L X) (hG : Good N L) : Calls Try.prog 15 #[.pointer (some ⟨tb, 0, none⟩)] w fun e w' => ∃ v, e = .returned v ∧ w'.ownsRow w.heap.size 43 5 v L.length (pcl L) ∧ Below w.heap.size w w' := by
  obtain ⟨mb, M, hT, hX⟩ := h
  obtain ⟨n, hn⟩ : ∃ n, L.length = n := ⟨_, rfl⟩
  have hn1024 : n ≤ 1024 := by have := hG.len; have := hG.top; omega
  have hc := pnone_any hT
  have c0 := hT.box.cell (j := 0) rfl
  have hlen : ∀ ty, (Builtin.len_ #[56] ty #[.map (some mb)]).run Try.prog w = .ok (.int .i64 (n : Int)) w := fun ty => by
    have := hT.mp.count (hT.nums hG.asc hG.ge) ty
    rwa [List.length_map, hn] at this
  obtain ⟨Xo, hmk, hmo⟩ := Own.make_room (t := 35) und_prcs info_prc n (n : Int) rfl (by omega) (by omega)
  have hB1 : Below w.heap.size w (w.alloc Xo) := (Below.refl _ _).alloc (Nat.le_refl _) _
  have hsel := sel_all (hT.keep hB1) hG
  have hf : L.filter (fun _ => true) = L := by simp
  rw [hf, hn] at hsel
  have hsel := W_hid hsel
  have hrow0 := W_hid (hmo w w.heap.size (Nat.le_refl _))
  have H := W_hid hT
  have HG := W_hid hG
  have hB1 := W_hid hB1
  have hmx : (1024 : Nat) < maxLen := by unfold maxLen; omega
  replace hn := W_hid hn
  clear hT hG hX hf hmo
  go_enter Try.func15, Try.ntmps15
  go_wp2_with (first
    | (go_at_call 30; refine hc.mono ?_; rintro e w' ⟨rfl, rfl⟩)
    | (go_at_call 31; refine hsel.out.mono ?_; rintro e w1 ⟨v, rfl, hr1, hb1⟩; obtain ⟨av, cv, rfl, hnm, hrow⟩ := row_ptr hr1 (by rw [List.length_map]; exact hn.out); have hrow := W_hid hrow; have hb1 := W_hid hb1; clear hr1))
  have hnm2 := hnm
  unfold maxLen at hnm2
  have hs1 : (w.alloc Xo).heap.size = w.heap.size + 1 := by simp
  have hsz1 := hb1.out.size
  rw [hs1] at hsz1
  replace hs1 := W_hid hs1
  go_loopw [3, 17] (fun v i wr => ∃ k : Nat, i = .int .i64 (k : Int) ∧ k ≤ n ∧ wr.ownsRow w.heap.size 43 5 v k (pcl (L.take k)) ∧ Below w.heap.size w wr ∧ (∀ j, w.heap.size + 1 ≤ j → j < w1.heap.size → wr.heap[j]? = w1.heap[j]? ∧ v.ownBlock ≠ some j) ∧ w1.heap.size ≤ wr.heap.size) (fun _ i _ => n - (intOf i).toNat)
  case atStart =>
    refine ⟨0, rfl, Nat.zero_le _, ?_, hB1.out.trans (bel_mono hb1.out (by rw [hs1.out]; omega)), fun j hj1 hj2 => ⟨rfl, ?_⟩, Nat.le_refl _⟩
    · have := Own.below hrow0.out (w' := w1) hb1.out
      simpa [pcl] using this
    · simp [Value.ownBlock]; omega
  case round =>
    obtain ⟨k, rfl, hkn, hor, hbr, hfr, hsz⟩ := hrel
    obtain ⟨ao, co, rfl⟩ := Own.form hor
    by_cases hlt : k < n
    · have hkl : k < L.length := by rw [hn.out]; exact hlt
      obtain ⟨gr, rfl, hg1, hg2, hg3, hg4, hcell⟩ := hrow.out k hlt
      obtain ⟨y, hy⟩ : ∃ y, L[k] = y := ⟨_, rfl⟩
      have hyL : y ∈ L := by rw [← hy]; exact List.getElem_mem hkl
      have hgy := asc_get HG.out.asc hyL
      obtain ⟨gy, hMy⟩ := H.out.some' hgy
      rw [hs1.out] at hg1
      have hptr : wr.cell? ⟨gr, k, none⟩ = some (.pointer (some ⟨gy, 0, none⟩)) := by
        rw [World.cell?_of_block (w := w1) (hfr gr (by omega) hg2).1]
        refine hcell _ ?_
        rw [List.getElem?_map, List.getElem?_eq_getElem hkl, hy]
        simp [hMy, ptr]
      have hbk : Blk wr gy 43 (prow y) := (H.out.node _ _ _ hMy hgy).below hbr (H.out.lt hMy)
      obtain ⟨ya, yb, yc, yd, ye⟩ := y
      have f0 := hbk.cell (j := 0) rfl
      have f1 := hbk.cell (j := 1) rfl
      have f2 := hbk.cell (j := 2) rfl
      have f3 := hbk.cell (j := 3) rfl
      have f4 := hbk.cell (j := 4) rfl
      have hi1 : ((k : Int) < (n : Int)) := by omega
      have hc2 : (n : Int) ≤ (cv : Int) := by omega
      have hwr : IntKind.i64.wrap ((k : Int) + 1) = ((k + 1 : Nat) : Int) := by rw [IntWalk.i64_in _ (by omega)]; omega
      obtain ⟨ob, hob⟩ : ∃ ob, (Obj.cells #[.int .i64 ya, .int .i64 yb, .int .i64 yc, .int .i64 yd, .int .i64 ye] 43) = ob := ⟨_, rfl⟩
      have hor2 : Hid ((wr.alloc (.cells #[.int .i64 ya, .int .i64 yb, .int .i64 yc, .int .i64 yd, .int .i64 ye] 43)).ownsRow w.heap.size 43 5 (.slice ao k co) k (pcl (L.take k))) := W_hid (hor.alloc _)
      have hsrc : Hid (Own.Src (wr.alloc (.cells #[.int .i64 ya, .int .i64 yb, .int .i64 yc, .int .i64 yd, .int .i64 ye] 43)) 5 (.slice (some ⟨wr.heap.size, 0, none⟩) 1 1) 1 (prow ⟨ya, yb, yc, yd, ye⟩)) := W_hid (.inr ⟨_, _, rfl, rfl, fun j u hu => by
        have hb := Blk.new wr 43 (prow ⟨ya, yb, yc, yd, ye⟩) (x := wr.heap.size) rfl
        have := hb.cell hu
        rw [Addr.add_lit, Nat.zero_add]
        exact this⟩)
      have hwle : w.heap.size ≤ wr.heap.size := hbr.size
      replace hy := W_hid hy
      replace hor := W_hid hor
      replace hbr := W_hid hbr
      replace hfr := W_hid hfr
      replace hMy := W_hid hMy
      replace hgy := W_hid hgy
      replace hbk := W_hid hbk
      replace hcell := W_hid hcell
      replace hob := W_hid hob
      go_wp2_with (at_builtin; refine Own.wpList_app rfl (.tmp 21) (.tmp 25) 35 rfl und_prcs info_prc (.slice ao k co) (.slice (some ⟨wr.heap.size, 0, none⟩) 1 1) rfl rfl hor2.out (by simp; omega) hsrc.out (prow_one _) (by omega) (by omega) ?_; intro v4 w4 ho4 hg4 hob4; have ho4 := W_hid ho4; have hg4 := W_hid hg4; have hob4 := W_hid hob4)
      have hgz := hg4.out.size
      simp at hgz
      go_roundw
      case rel =>
        refine ⟨k + 1, by simp [hwr], by omega, ?_, ?_, fun j hj1 hj2 => ?_, by omega⟩
        · have := ho4.out
          rw [List.take_succ_eq_append_getElem hkl, hy.out, pcl_app, pcl_one]
          exact this
        · exact (hbr.out.alloc hwle _).grown hg4.out (by simp; omega) (fun j hj => Own.ge hor.out j hj)
        · have h1 := hfr.out j hj1 hj2
          have hjl : j < wr.heap.size := by omega
          refine ⟨?_, ?_⟩
          · rw [hg4.out.block j (by simp; omega) (fun e => h1.2 e.symm), heap_alloc_old _ _ hjl]
            exact h1.1
          · rcases hob4.out with e | e
            · rw [e]; exact h1.2
            · rw [e]; intro e'; simp at e'; omega
      case measure => simp [intOf, hwr]; omega
    · obtain rfl : k = n := by omega
      have htk : L.take k = L := List.take_of_length_le (by rw [hn.out]; exact Nat.le_refl _)
      rw [htk] at hor
      replace hor := W_hid hor
      replace hbr := W_hid hbr
      replace hfr := W_hid hfr
      go_wp2_with fail
      go_ret
      exact ⟨_, rfl, by rw [hn.out]; exact hor.out, hbr.out⟩
end
end PC
end Go.Proofs.Ytahcpimpmedbiaa

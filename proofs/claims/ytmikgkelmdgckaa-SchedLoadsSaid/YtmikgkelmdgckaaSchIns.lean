/- Contracts of package sched: slices.Insert of a process, put. -/
import Derived.Test.YtmikgkelmdgckaaSchFind
import Derived.Test.YtmikgkelmdgckaaRowCopy
import Derived.Lib.Overlaps
import Derived.Deep.DeepMust
import Derived.Deep.RegionLaw
import Derived.Deep.RegionWith
import Derived.Deep.RegionHeld3
namespace Go.Proofs.Ytmikgkelmdgckaa
open Go.ChangeShapes Go.WideShapes Go.ChangeAt Go.RowKit
set_option linter.unusedVariables false
set_option linter.unusedSimpArgs false
set_option maxRecDepth 100000
namespace SD
open IN (Keeps lt_of_some)
open RL

abbrev TRs : TypeId := 64
abbrev insF : Nat := 47
theorem elem_rows : Try.prog.elem TRs = TR := by kernel_rfl
theorem row_size : (Try.prog.info? TR).map (·.size) = some 4 := by kernel_rfl
theorem ovl (w : World) (r g o : Nat) (hne : r ≠ g) {rc cur : List Value} (hr : Blk w r TR rc) (hrl : rc.length = 4) (hg : w.heap[g]? = some (.cells cur.toArray TR (0, 0))) (hgl : cur.length ≠ 0) (lb cb : Nat) :
    (callFunc 70 #[.slice (some ⟨r, 0, none⟩) 1 1, .slice (some ⟨g, o, none⟩) lb cb]).run Try.prog w = .ok (.value (.bool false)) w := by
  rw [run_callFunc_extern Try.func70 (by kernel_rfl) (by kernel_rfl) (by kernel_rfl) (e := Extern.SlicesOverlaps.overlaps #[TRs, TRs] #[4]) (by kernel_rfl),
    Lib.run_overlaps_apart w TRs 4 TR und_rows 4 (fun w => by kernel_rfl) ⟨r, 0, none⟩ ⟨g, o, none⟩ 1 1 lb cb hne TR TR 4 cur.length (by unfold Blk at hr; simp [World.shape?, hr, hrl]) (by simp [World.shape?, hg]) hgl (hr.fz 0) (hr.fz 4)]
  rfl

section
variable {base : Nat} {w : World}
set_option maxRecDepth 100000 in
set_option maxHeartbeats 4000000 in
theorem insert_end {v : Value} {n : Nat} {xs rc : List Value} {r : Nat} (hown : w.ownsRow base TR 4 v n xs) (hbase : base ≤ w.heap.size) (hr : Blk w r TR rc) (hrl : rc.length = 4) (h1 : ∀ u ∈ rc, u.oneCell' = true) (hn : n ≤ 60000) :
    Calls Try.prog insF #[v, .int .i64 (n : Int), .slice (some ⟨r, 0, none⟩) 1 1] w fun e w' => ∃ v', e = .returned v' ∧ w'.ownsRow base TR 4 v' (n + 1) (xs ++ rc) ∧ w.grownBy w' v.ownBlock ∧ (v'.ownBlock = v.ownBlock ∨ ∃ b, v'.ownBlock = some b ∧ w.heap.size ≤ b) := by
  obtain ⟨ao, cap, rfl⟩ := Own.form hown
  have hs1 : ∃ u, ∀ W : World, (Instr.slice TRs (.slice ao n cap) (some (.int .i64 (n : Int))) none none).run Try.prog W = .ok u W := by
    rcases hown.2 with ⟨h2, h0⟩ | ⟨g, cap', cur, h2, hb, hg, hnc, -⟩
    · simp only [Value.slice.injEq] at h2
      obtain ⟨rfl, rfl, rfl⟩ := h2
      exact ⟨_, Own.cut_none und_rows elem_rows info_row⟩
    · simp only [Value.slice.injEq, true_and] at h2
      obtain ⟨rfl, rfl⟩ := h2
      obtain ⟨ad, h3, -⟩ := Own.cut_lo (t := TRs) und_rows elem_rows info_row g 0 n cap n (n : Int) rfl (Nat.le_refl _) hnc
      exact ⟨_, h3⟩
  obtain ⟨u, hs1⟩ := hs1
  have hsrc : Own.Src w 4 (.slice (some ⟨r, 0, none⟩) 1 1) 1 rc := .inr ⟨_, _, rfl, by rw [hrl], fun j v hj => by rw [Addr.add_lit, Nat.zero_add]; exact hr.cell hj⟩
  replace hsrc := W_hid hsrc
  replace h1 := W_hid h1
  have hown := W_hid hown
  clear hr hrl
  go_enter Try.func47, Try.ntmps47
  go_wp2_with (at_builtin; refine Own.wpList_app rfl (.tmp 23) (.tmp 24) TRs rfl und_rows info_row (.slice ao n cap) (.slice (some ⟨r, 0, none⟩) 1 1) rfl rfl hown.out hbase hsrc.out h1.out (by unfold maxLen; omega) (by omega) ?_; intro v' w' ho hg hb; have ho := W_hid ho; have hg := W_hid hg; have hb := W_hid hb)
  go_ret
  exact ⟨_, rfl, ho.out, hg.out, hb.out.imp_right fun h => ⟨_, h, Nat.le_refl _⟩⟩
theorem ins_cells {xs rc zs tl : List Value} {n i c : Nat} (hl : xs.length = n * 4) (hi : i < n) (hrc : rc.length = 4) (hzs : zs.length = (n + 1 - i) * 4) (htl : tl.length = (c - (n + 1)) * 4) :
    (lay (lay (xs.take (i * 4) ++ (zs ++ tl)) (i * 4) rc) ((i + 1) * 4) (xs.drop (i * 4))).take ((n + 1) * 4) = xs.take (i * 4) ++ rc ++ xs.drop (i * 4) ∧ (xs.take (i * 4) ++ (zs ++ tl)).length = (n + 1) * 4 + (c - (n + 1)) * 4 := by
  have h0 : (xs.take (i * 4)).length = i * 4 := by rw [List.length_take, hl]; omega
  have hL : (xs.take (i * 4) ++ (zs ++ tl)).length = (n + 1) * 4 + (c - (n + 1)) * 4 := by rw [List.length_append, List.length_append, h0, hzs, htl]; omega
  have h1 : (lay (xs.take (i * 4) ++ (zs ++ tl)) (i * 4) rc).length = (n + 1) * 4 + (c - (n + 1)) * 4 := by rw [lay_len (by rw [hL, hrc]; omega), hL]
  have hd : (xs.drop (i * 4)).length = (n - i) * 4 := by rw [List.length_drop, hl]; omega
  have e1 : (n + 1) * 4 = (i + 1) * 4 + (xs.drop (i * 4)).length := by rw [hd]; omega
  refine ⟨?_, hL⟩
  rw [e1, lay_take (by rw [h1]; omega)]
  have e2 : (i + 1) * 4 = i * 4 + rc.length := by rw [hrc]; omega
  rw [e2, lay_take (by rw [hL]; omega)]
  congr 2
  rw [List.take_append_of_le_length (by rw [h0]; exact Nat.le_refl _), List.take_of_length_le (by rw [h0]; exact Nat.le_refl _)]
theorem ins_cells2 {cur xs rc : List Value} {n i c : Nat} (hl : xs.length = n * 4) (hi : i < n) (hrc : rc.length = 4) (hc : cur.length = c * 4) (hnc : n + 1 ≤ c) (ht : cur.take (n * 4) = xs) :
    (lay (lay cur ((i + 1) * 4) (xs.drop (i * 4))) (i * 4) rc).take ((n + 1) * 4) = xs.take (i * 4) ++ rc ++ xs.drop (i * 4) ∧ (lay (lay cur ((i + 1) * 4) (xs.drop (i * 4))) (i * 4) rc).length = c * 4 := by
  have hd : (xs.drop (i * 4)).length = (n - i) * 4 := by rw [List.length_drop, hl]; omega
  have h1 : (lay cur ((i + 1) * 4) (xs.drop (i * 4))).length = c * 4 := by rw [lay_len (by rw [hd, hc]; omega), hc]
  refine ⟨?_, by rw [lay_len (by rw [h1, hrc]; omega), h1]⟩
  have e2 : i * 4 + rc.length = (i + 1) * 4 := by rw [hrc]; omega
  have e3 : (lay cur ((i + 1) * 4) (xs.drop (i * 4))).take (i * 4) = xs.take (i * 4) := by
    rw [lay_take_lo (by omega) (by rw [hc]; omega), ← ht, List.take_take, Nat.min_eq_left (by omega)]
  unfold lay at e3 ⊢
  rw [e2]
  rw [show (cur.take ((i + 1) * 4) ++ (xs.drop (i * 4) ++ cur.drop ((i + 1) * 4 + (xs.drop (i * 4)).length))).drop ((i + 1) * 4) = xs.drop (i * 4) ++ cur.drop ((i + 1) * 4 + (xs.drop (i * 4)).length) from lay_drop (L := cur) (by rw [hc]; omega)]
  rw [e3, ← List.append_assoc, ← List.append_assoc]
  have h0 : (xs.take (i * 4) ++ rc ++ xs.drop (i * 4)).length = (n + 1) * 4 := by rw [List.length_append, List.length_append, List.length_take, hl, hrc, hd]; omega
  rw [List.take_append_of_le_length (by rw [h0]; exact Nat.le_refl _), List.take_of_length_le (by rw [h0]; exact Nat.le_refl _)]
set_option maxRecDepth 100000 in
set_option maxHeartbeats 8000000 in
theorem insert_grow {g n cap i : Nat} {xs rc : List Value} {r : Nat} (hown : w.ownsRow base TR 4 (.slice (some ⟨g, 0, none⟩) n cap) n xs) (hbase : base ≤ w.heap.size) (hr : Blk w r TR rc) (hrl : rc.length = 4) (h1 : ∀ u ∈ rc, u.oneCell' = true) (hx1 : ∀ u ∈ xs, u.oneCell' = true) (hn : n ≤ 60000) (hi : i < n) (hcap : cap < n + 1) (hgr : r ≠ g) :
    Calls Try.prog insF #[.slice (some ⟨g, 0, none⟩) n cap, .int .i64 (i : Int), .slice (some ⟨r, 0, none⟩) 1 1] w fun e w' => ∃ v', e = .returned v' ∧ w'.ownsRow base TR 4 v' (n + 1) (xs.take (i * 4) ++ rc ++ xs.drop (i * 4)) ∧ w.grownBy w' (some g) ∧ (v'.ownBlock = some g ∨ ∃ b, v'.ownBlock = some b ∧ w.heap.size ≤ b) := by
  have hnc : n = cap := by
    rcases hown.2 with ⟨h2, h0⟩ | ⟨g', cap', cur, h2, hb, hg, hnc, -⟩
    · cases h2
    · cases h2; omega
  subst hnc
  have hxl := hown.1
  obtain ⟨ad, hs1, had, had2⟩ := Own.cut_lo (t := TRs) und_rows elem_rows info_row g 0 n n i (i : Int) rfl (by omega) (Nat.le_refl _)
  have had3 := had2 (by omega)
  subst had3
  clear had had2
  have hs2 := Own.cut_hi (t := TRs) und_rows elem_rows info_row (some ⟨g, 0, none⟩) n n i (by omega) (Nat.le_refl _) (.inr ⟨_, _, rfl⟩)
  have hw1 : IntKind.i64.wrap ((n : Int) + 1) = (n : Int) + 1 := IntWalk.i64_in _ (by omega)
  have hw2 : IntKind.i64.wrap ((n : Int) + 1 - (i : Int)) = ((n + 1 - i : Nat) : Int) := by rw [IntWalk.i64_in _ (by omega)]; omega
  have hw3 : IntKind.i64.wrap ((i : Int) + 1) = (i : Int) + 1 := IntWalk.i64_in _ (by omega)
  have hne : ¬ ((i : Int) = (n : Int)) := by omega
  have hgt : decide ((n : Int) < (n : Int) + 1) = true := by simp; omega
  have hsrc := W_hid (Own.src_take hown rfl i (by omega))
  have hg0 : g < w.heap.size := by
    obtain ⟨cur, hc⟩ := own_obj hown (k := g) rfl
    exact lt_of_some hc
  have hxs : Hid (∀ W, w.grownBy W none → ∀ j v, (xs.drop (i * 4))[j]? = some v → W.cell? ((⟨g, i * 4, none⟩ : Addr).add j) = some v) := W_hid fun W hW j v hj => by
    rw [List.getElem?_drop] at hj
    have := hown.cells (g := g) rfl (i * 4 + j) v hj
    rw [Addr.add_lit] at this ⊢
    rw [show i * 4 + j = 0 + (i * 4 + j) by omega]
    exact Own.cellg hW this (by simp)
  have hrs : Hid (∀ W, w.grownBy W none → ∀ j v, rc[j]? = some v → W.cell? ((⟨r, 0, none⟩ : Addr).add j) = some v) := W_hid fun W hW j v hj => by
    rw [Addr.add_lit, Nat.zero_add]
    exact Own.cellg hW (hr.cell hj) (by simp)
  have hdl : Hid ((xs.drop (i * 4)).length = (n - i) * 4) := W_hid (by rw [List.length_drop, hxl]; omega)
  have hdx : Hid (∀ u ∈ xs.drop (i * 4), u.oneCell' = true) := W_hid fun u hu => hx1 u (List.mem_of_mem_drop hu)
  have hfin : Hid (∀ zs tl c, zs.length = (n + 1 - i) * 4 → tl.length = (c - (n + 1)) * 4 → (lay (lay (xs.take (i * 4) ++ (zs ++ tl)) (i * 4) rc) ((i + 1) * 4) (xs.drop (i * 4))).take ((n + 1) * 4) = xs.take (i * 4) ++ rc ++ xs.drop (i * 4) ∧ (xs.take (i * 4) ++ (zs ++ tl)).length = (n + 1) * 4 + (c - (n + 1)) * 4) := W_hid fun zs tl c hz ht => ins_cells hxl hi hrl hz ht
  replace h1 := W_hid h1
  replace hrl := W_hid hrl
  have hnx : Builtin.nextslicecap (i + (n + 1 - i)) n * 32 ≤ 281474976710656 := by
    rw [show i + (n + 1 - i) = n + 1 by omega]
    have := nextslicecap_le (need := n + 1) (old := n) (by omega)
    omega
  obtain ⟨X, hX⟩ : ∃ X, xs.take (i * 4) = X := ⟨_, rfl⟩
  obtain ⟨Y, hY⟩ : ∃ Y, xs.drop (i * 4) = Y := ⟨_, rfl⟩
  rw [hX] at hsrc hfin ⊢
  rw [hY] at hxs hdl hdx hfin ⊢
  have hown := W_hid hown
  have hr := W_hid hr
  clear hX hY hx1
  have hcutn := W_hid (fun (b c k : Nat) (kk : Int) (hkk : kk = k) (hk : k ≤ n + 1) (hc : n + 1 ≤ c) => Own.cut_lo (t := TRs) und_rows elem_rows info_row b 0 (n + 1) c k kk hkk hk hc)
  go_enter Try.func47, Try.ntmps47
  go_wp2_with (first
    | (at_builtin
       refine wpList_zeros rfl (.tmp 34) (.tmp 39) TRs 3 rfl und_rows Try.underlying3 info_row (some ⟨g, 0, none⟩) i n X (n + 1 - i) rfl rfl (by omega) (by omega) hsrc.out (by omega) (by unfold maxLen; omega) hnx ?_
       intro w1 c1 zs tl hz hc1 hc2 ht hb1 hg1 hsz
       rw [show i + (n + 1 - i) = n + 1 by omega] at *
       obtain ⟨a3, hs3, -, hs3'⟩ := hcutn.out w.heap.size c1 i (i : Int) rfl (by omega) hc1
       obtain ⟨a4, hs4, -, hs4'⟩ := hcutn.out w.heap.size c1 (i + 1) ((i : Int) + 1) (by omega) (by omega) hc1
       have e3 := hs3' (by omega)
       have e4 := hs4' (by omega)
       subst e3 e4
       clear hs3' hs4'
       have hb1 := W_hid hb1
       have hg1 := W_hid hg1)
    | (with_reducible show wpList _ _ _ _ _ _
       have q := c1
       clear q
       refine wpList_copy_k rfl (.tmp 43) (.tmp 44) TRs TRs rfl und_rows row_size 1 w.heap.size (i * 4) (n + 1 - i) (c1 - i) ⟨r, 0, none⟩ 1 1 (X ++ (zs ++ tl)) TR rc rfl rfl hb1.out (Nat.min_eq_left (by omega)).symm (by rw [hrl.out]) (hrs.out _ hg1.out) (by rw [(hfin.out zs tl c1 hz ht).2, hrl.out]; omega) h1.out ?_
       intro w2 hb2 hg2
       have hb2 := W_hid hb2
       have hg2 := W_hid hg2
       have hg02 : Hid (w.grownBy w2 (some w.heap.size)) := W_hid ⟨hg2.out.os.trans hg1.out.os, hg2.out.tape.trans hg1.out.tape, hg2.out.output.trans hg1.out.output, Nat.le_trans hg1.out.size hg2.out.size, fun k hk hne => (hg2.out.block k (Nat.lt_of_lt_of_le hk hg1.out.size) hne).trans (hg1.out.block k hk (by simp))⟩
       have hfit2 : Hid ((i + 1) * 4 + Y.length ≤ (lay (X ++ (zs ++ tl)) (i * 4) rc).length) := W_hid (by rw [lay_len (by rw [(hfin.out zs tl c1 hz ht).2, hrl.out]; omega), (hfin.out zs tl c1 hz ht).2, hdl.out]; omega)
       have hxs2 : Hid (∀ j v, Y[j]? = some v → w2.drew.cell? ((⟨g, i * 4, none⟩ : Addr).add j) = some v) := W_hid fun j v hj => by
         have h5 := hxs.out w1 hg1.out j v hj
         have h6 := Own.cellg hg2.out h5 (by rw [Addr.add_lit]; simp; omega)
         exact h6))
  simp only [Act.put, List.setIfInBounds_toArray, List.set_cons_zero, List.set_cons_succ, goInt, Int.ofNat_eq_natCast]
  go_region_held3 (fun w' => True) (trivial) ((go_must (refine step_copy_k rfl (.tmp 50) (.tmp 53) TRs TRs rfl und_rows row_size (n - i) w.heap.size ((i + 1) * 4) (n - i) (c1 - (i + 1)) ⟨g, i * 4, none⟩ (n - i) (n - i) (lay (X ++ (zs ++ tl)) (i * 4) rc) TR Y rfl rfl hb2.out (Nat.min_self _).symm hdl.out (hxs2.out) (hfit2.out) hdx.out ?_); intro w3 hb3 hg3; have hb3 := W_hid hb3; have hg3 := W_hid hg3))
  go_wp2_with fail
  go_ret
  have hf := hfin.out zs tl c1 hz ht
  refine ⟨_, rfl, own_of (Nat.le_trans hbase (Nat.le_refl _)) hb3.out ?_ hc1 hc2 hf.1, ?_, .inr ⟨_, rfl, Nat.le_refl _⟩⟩
  · have l1 : (lay (X ++ (zs ++ tl)) (i * 4) rc).length = c1 * 4 := by rw [lay_len (by rw [hf.2, hrl.out]; omega), hf.2]; omega
    rw [lay_len (by rw [l1, hdl.out]; omega), l1]
  · have h3 := hg3.out
    exact ⟨h3.os.trans hg02.out.os, h3.tape.trans hg02.out.tape, h3.output.trans hg02.out.output, Nat.le_trans hg02.out.size h3.size, fun k hk hne => (h3.block k (Nat.lt_of_lt_of_le hk hg02.out.size) (by simp; omega)).trans (hg02.out.block k hk (by simp; omega))⟩
set_option maxRecDepth 100000 in
set_option maxHeartbeats 8000000 in
theorem insert_shift {g n cap i : Nat} {xs rc : List Value} {r : Nat} (hown : w.ownsRow base TR 4 (.slice (some ⟨g, 0, none⟩) n cap) n xs) (hbase : base ≤ w.heap.size) (hr : Blk w r TR rc) (hrl : rc.length = 4) (h1 : ∀ u ∈ rc, u.oneCell' = true) (hx1 : ∀ u ∈ xs, u.oneCell' = true) (hn : n ≤ 60000) (hi : i < n) (hcap : n + 1 ≤ cap) (hgr : r ≠ g) :
    Calls Try.prog insF #[.slice (some ⟨g, 0, none⟩) n cap, .int .i64 (i : Int), .slice (some ⟨r, 0, none⟩) 1 1] w fun e w' => ∃ v', e = .returned v' ∧ w'.ownsRow base TR 4 v' (n + 1) (xs.take (i * 4) ++ rc ++ xs.drop (i * 4)) ∧ w.grownBy w' (some g) ∧ (v'.ownBlock = some g ∨ ∃ b, v'.ownBlock = some b ∧ w.heap.size ≤ b) := by
  obtain ⟨cur, hcur, hbg, hcl, hct, hcm⟩ : ∃ cur : List Value, w.heap[g]? = some (.cells cur.toArray TR (0, 0)) ∧ base ≤ g ∧ cur.length = cap * 4 ∧ cur.take (n * 4) = xs ∧ cap ≤ maxLen := by
    rcases hown.2 with ⟨h2, h0⟩ | ⟨g', cap', cur, h2, hb, hg, hnc, hm, hcs, ht⟩
    · cases h2
    · cases h2; exact ⟨cur.toList, by simpa using hg, hb, by simpa using hcs, ht, hm⟩
  have hxl := hown.1
  have hcm2 : cap ≤ 9223372036854775807 := by unfold maxLen at hcm; omega
  obtain ⟨ad, hs1, had, had2⟩ := Own.cut_lo (t := TRs) und_rows elem_rows info_row g 0 n cap i (i : Int) rfl (by omega) (by omega)
  have had3 := had2 (by omega)
  subst had3
  clear had had2
  have hs2 : ∀ W : World, (Instr.slice TRs (.slice (some ⟨g, 0, none⟩) n cap) none (some (.int .i64 ((n : Int) + 1))) none).run Try.prog W = .ok (.slice (some ⟨g, 0, none⟩) (n + 1) cap) W := fun W => by
    obtain ⟨i0, hi0, -, hsize, -, -, -⟩ := info_row
    have hs : (sizeOf (Try.prog.elem TRs)).run Try.prog W = .ok 4 W := by rw [elem_rows]; simp [sizeOf, typeInfo, hi0, hsize]
    have hr := run_slice_h (P := Try.prog) W TRs (some ⟨g, 0, none⟩) n cap (by rw [elem_rows]; exact und_rows) .i64 ((n : Int) + 1) (by omega) (by omega)
    rw [hs] at hr
    simp only [Result.andThen, sliced, Nat.zero_mul, Nat.sub_zero] at hr
    rw [hr, show ((n : Int) + 1).toNat = n + 1 by omega]
    simp [Addr.add_lit]
  obtain ⟨ad, hs3, had, had2⟩ := Own.cut_lo (t := TRs) und_rows elem_rows info_row g 0 (n + 1) cap (i + 1) ((i : Int) + 1) (by omega) (by omega) hcap
  have had3 := had2 (by omega)
  subst had3
  clear had had2
  obtain ⟨ad, hs4, had, had2⟩ := Own.cut_lo (t := TRs) und_rows elem_rows info_row g 0 (n + 1) cap i (i : Int) rfl (by omega) hcap
  have had3 := had2 (by omega)
  subst had3
  clear had had2
  have hw1 : IntKind.i64.wrap ((n : Int) + 1) = (n : Int) + 1 := IntWalk.i64_in _ (by omega)
  have hw3 : IntKind.i64.wrap ((i : Int) + 1) = (i : Int) + 1 := IntWalk.i64_in _ (by omega)
  have hne : ¬ ((i : Int) = (n : Int)) := by omega
  have hgt : decide ((cap : Int) < (n : Int) + 1) = false := by simp; omega
  have hcl0 : cur.length ≠ 0 := by omega
  have hov := fun lb cb => ovl w r g ((i + 1) * 4) hgr hr hrl hcur hcl0 lb cb
  have hys : Hid (∀ j v, (xs.drop (i * 4))[j]? = some v → w.drew.cell? ((⟨g, i * 4, none⟩ : Addr).add j) = some v) := W_hid fun j v hj => by
    rw [List.getElem?_drop] at hj
    have := hown.cells (g := g) rfl (i * 4 + j) v hj
    rw [Addr.add_lit] at this ⊢
    rw [show i * 4 + j = 0 + (i * 4 + j) by omega]
    exact this
  have hdl : Hid ((xs.drop (i * 4)).length = (n - i) * 4) := W_hid (by rw [List.length_drop, hxl]; omega)
  have hdx : Hid (∀ u ∈ xs.drop (i * 4), u.oneCell' = true) := W_hid fun u hu => hx1 u (List.mem_of_mem_drop hu)
  have hfin := W_hid (ins_cells2 hxl hi hrl hcl hcap hct)
  have hfit : Hid ((i + 1) * 4 + (xs.drop (i * 4)).length ≤ cur.length) := W_hid (by rw [hcl, hdl.out]; omega)
  have hl1 : Hid ((lay cur ((i + 1) * 4) (xs.drop (i * 4))).length = cap * 4) := W_hid (by rw [lay_len hfit.out, hcl])
  obtain ⟨X, hX⟩ : ∃ X, xs.take (i * 4) = X := ⟨_, rfl⟩
  obtain ⟨Y, hY⟩ : ∃ Y, xs.drop (i * 4) = Y := ⟨_, rfl⟩
  rw [hX] at hfin ⊢
  rw [hY] at hys hdl hdx hfin hfit hl1 ⊢
  have hrs : Hid (∀ W, w.grownBy W (some g) → ∀ j v, rc[j]? = some v → W.cell? ((⟨r, 0, none⟩ : Addr).add j) = some v) := W_hid fun W hW j v hj => by
    rw [Addr.add_lit, Nat.zero_add]
    exact Own.cellg hW (hr.cell hj) (by simp; exact hgr)
  replace h1 := W_hid h1
  replace hrl := W_hid hrl
  replace hown := W_hid hown
  replace hr := W_hid hr
  replace hcur := W_hid hcur
  replace hct := W_hid hct
  clear hX hY hx1 hcl0
  go_enter Try.func47, Try.ntmps47
  go_wp2_with fail
  go_region_held3 (fun w' => True) (trivial) ((go_must (refine step_copy_k rfl (.tmp 73) (.tmp 76) TRs TRs rfl und_rows row_size (n - i) g ((i + 1) * 4) (n - i) (cap - (i + 1)) ⟨g, i * 4, none⟩ (n + 1 - i) (cap - i) cur TR Y rfl rfl hcur.out (Nat.min_eq_right (by omega)).symm hdl.out hys.out hfit.out hdx.out ?_); intro w3 hb3 hg3; have hb3 := W_hid hb3; have hg3 := W_hid (Own.undrew hg3)))
  go_wp2_with (with_reducible show wpList _ _ _ _ _ _; (refine wpList_copy_k rfl (.tmp 80) (.tmp 81) TRs TRs rfl und_rows row_size 1 g (i * 4) (n + 1 - i) (cap - i) ⟨r, 0, none⟩ 1 1 (lay cur ((i + 1) * 4) Y) TR rc rfl rfl hb3.out (Nat.min_eq_left (by omega)).symm (by rw [hrl.out]) (hrs.out _ hg3.out) (by rw [hl1.out, hrl.out]; omega) h1.out ?_); intro w4 hb4 hg4; have hb4 := W_hid hb4; have hg4 := W_hid hg4)
  go_ret
  have hf := hfin.out
  refine ⟨_, rfl, own_of hbg hb4.out hf.2 hcap hcm hf.1, ?_, .inl rfl⟩
  have h3 := hg3.out
  have h4 := hg4.out
  exact ⟨h4.os.trans h3.os, h4.tape.trans h3.tape, h4.output.trans h3.output, Nat.le_trans h3.size h4.size, fun k hk hne => (h4.block k (Nat.lt_of_lt_of_le hk h3.size) hne).trans (h3.block k hk hne)⟩
/-- slices.Insert, wherever. -/
theorem insert_any {v : Value} {n i : Nat} {xs rc : List Value} {r : Nat} (hown : w.ownsRow base TR 4 v n xs) (hbase : base ≤ w.heap.size) (hr : Blk w r TR rc) (hrl : rc.length = 4) (h1 : ∀ u ∈ rc, u.oneCell' = true) (hx1 : ∀ u ∈ xs, u.oneCell' = true) (hn : n ≤ 60000) (hi : i ≤ n) (hgr : v.ownBlock ≠ some r) :
    Calls Try.prog insF #[v, .int .i64 (i : Int), .slice (some ⟨r, 0, none⟩) 1 1] w fun e w' => ∃ v', e = .returned v' ∧ w'.ownsRow base TR 4 v' (n + 1) (xs.take (i * 4) ++ rc ++ xs.drop (i * 4)) ∧ w.grownBy w' v.ownBlock ∧ (v'.ownBlock = v.ownBlock ∨ ∃ b, v'.ownBlock = some b ∧ w.heap.size ≤ b) := by
  rcases Nat.lt_or_eq_of_le hi with hlt | rfl
  · rcases hown.2 with ⟨rfl, h0⟩ | ⟨g, cap, cur, rfl, hb, hg, hnc, hm, hcs, ht⟩
    · omega
    · have hne : r ≠ g := fun e => hgr (by rw [e]; rfl)
      rcases Nat.lt_or_ge cap (n + 1) with hc | hc
      · exact insert_grow hown hbase hr hrl h1 hx1 hn hlt hc hne
      · exact insert_shift hown hbase hr hrl h1 hx1 hn hlt hc hne
  · have he := insert_end hown hbase hr hrl h1 hn
    have hl := hown.1
    rw [List.take_of_length_le (by omega), List.drop_of_length_le (by omega), List.append_nil]
    exact he
end
end SD
end Go.Proofs.Ytmikgkelmdgckaa

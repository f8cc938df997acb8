/- The program's Encode, for each shape. -/
import Derived.Test.YtmhikoblaejhhaaCalKit
namespace Go.Proofs.Ytmhikoblaejhhaa
open Go.ChangeShapes Go.WideShapes Go.ChangeAt Go.RowKit Go.Maps
set_option linter.unusedVariables false
set_option linter.unusedSimpArgs false
set_option maxRecDepth 100000
namespace CA
set_option maxRecDepth 100000 in
set_option maxHeartbeats 4000000 in
theorem enc_tn (no n0 n1 n2 : Int) (s0 s1 : ByteArray) (h : shI no = some (bs [116, 110])) (h0 : -9223372036854775808 ≤ no) (h1 : no ≤ 9223372036854775807) (m0 : s0.size ≤ maxLen) (m1 : s1.size ≤ maxLen) (w : World) :
    Calls Try.prog 11 #[.agg (cl no n0 n1 n2 s0 s1).toArray] w fun e w' => e = .returned (.tuple #[.string (encS no [n0, n1, n2] [s0, s1]), .int .i64 (encE no [n0, n1, n2] [s0, s1])]) ∧ Below w.heap.size w w' := by
  have cu := conv_u64 no
  have cu0 := conv_u64' n0
  have cu1 := conv_u64' n1
  have cu2 := conv_u64' n2
  have hR : Hid (encS no [n0, n1, n2] [s0, s1] = (if fits [116, 110] [n0, n1, n2] [s0, s1] = true then strOf (le 8 (un no) ++ body [116, 110] [n0, n1, n2] [s0, s1]) else ByteArray.empty) ∧ encE no [n0, n1, n2] [s0, s1] = (if fits [116, 110] [n0, n1, n2] [s0, s1] = true then 0 else 2)) := enc_some h [n0, n1, n2] [s0, s1]
  replace h := W_hid h
  have bb : Below w.heap.size w (w.alloc (.cells (cl no n0 n1 n2 s0 s1).toArray 25)) := (Below.refl _ _).alloc (Nat.le_refl _) _
  have hB : Blk (w.alloc (.cells (cl no n0 n1 n2 s0 s1).toArray 25)) w.heap.size 25 (cl no n0 n1 n2 s0 s1) := Blk.new w _ _ rfl
  have hbd : Hid (body [116, 110] [n0, n1, n2] [s0, s1] = ((le 4 s0.size ++ s0.data.toList) ++ (le 8 (un n0) ++ []))) := rfl
  have hln : Hid (8 + (body [116, 110] [n0, n1, n2] [s0, s1]).length = 8 + (4 + s0.size) + 8) := W_hid (by rw [hbd.out]; simp only [List.length_append, le_length, List.length_nil, Array.length_toList]; all_goals (try simp only [ByteArray.size]); all_goals (try omega))
  have hbk : Hid (blk [116, 110] [n0, n1, n2] [s0, s1] = (([n1, n2] : List Int).all (· == 0) && ([s1] : List ByteArray).all (fun s => s.size == 0))) := rfl
  unfold cl
  unfold cl at hB bb
  unfold maxLen at m0 m1
  go_enter Try.func11, Try.ntmps11
  go_wp2_with fail
  refine (Shape_some h.out h0 h1 _).mono ?_
  rintro e w1 ⟨rfl, bel1⟩
  replace hB := hB.keep bel1
  have c0 := hB.cell (j := 0) rfl
  replace hB := W_hid hB
  replace bb := bb.trans (bel1.mono bb.size)
  clear bel1
  go_wp2_with fail
  refine (Num_first _ (un_lt no) _).mono ?_
  rintro e w2 ⟨g2, rfl, hO, bel2⟩
  replace hB := hB.out.keep bel2
  have hlb := hB.lt
  have hlo : g2 < w2.heap.size := by
    obtain ⟨_, _, _, _, hc⟩ := hO
    exact World.block_lt_of_cell? w2 _ (hc _ rfl 0 _ (by rfl))
  replace hB := W_hid hB
  replace bb := bb.trans (bel2.mono bb.size)
  clear c0 bel2
  go_wp2_with fail
  go_quiet (fail)
  go_wp2_with fail
  refine wp_world (fun W => ∃ gi, gi = w2.heap.size ∧ ES w W [.int .i64 no, .int .i64 n0, .int .i64 n1, .int .i64 n2, .string s0, .string s1] g2 8 (le 8 (un no)) gi (bs [116, 110]) 0) ⟨_, rfl, (below_drewN bb nq).alloc (by simpa using bb.size) _, (Blk.alloc (w := w2.drewN nq) hB.out _), (OB.keep (w := w2.drewN nq) hO ((Below.refl _ _).alloc (Nat.le_refl _) _)), World.iter_heap _ _ _, hlb, by omega⟩ ?_
  rintro W0 ⟨gi, hgi, E⟩
  rw [← hgi]
  replace E := W_hid E
  clear hB hO bb hlb hlo hgi
  refine wp_loop_rounds 4 ?_
  rw [rounds_succ]
  go_wp2_with (with_reducible show wpList _ _ _ _ _ _; refine wpList_next gi _ 0 E.out.it rfl _ rfl rfl 116 rfl (by decide) ?_; intro W0i i0 gr0; replace E := W_hid (E.out.next i0 gr0); have c0 := E.out.row.cell (j := 4) rfl; clear i0 gr0)
  by_cases hl0 : 1048576 < s0.size
  · have hf : Hid (fits [116, 110] [n0, n1, n2] [s0, s1] = false) := by
      unfold fits
      rw [hln.out, decide_eq_false (by omega)]; rfl
    refine (Txt_no E.out.ob s0 hl0 m0).mono ?_
    rintro e W0 ⟨rfl, bel⟩
    go_wp2_with fail
    go_ret2
    exact ⟨by rw [hR.out.1, hR.out.2, hf.out]; rfl, E.out.below.trans (bel.mono E.out.below.size)⟩
  obtain ⟨N0, hN0⟩ : ∃ N, Hid (N = 8 + (4 + s0.size)) := ⟨_, W_hid rfl⟩
  refine (Txt_yes E.out.ob s0 (by omega) (by omega) N0 hN0.out).mono ?_
  rintro e W0 ⟨g3, rfl, ob, hge, bel⟩
  replace E := W_hid (E.out.call bel ob hge)
  clear ob hge bel c0
  go_wp2_with fail
  rw [rounds_succ]
  go_wp2_with (with_reducible show wpList _ _ _ _ _ _; refine wpList_next gi _ 1 E.out.it rfl _ rfl rfl 110 rfl (by decide) ?_; intro W1i i1 gr1; replace E := W_hid (E.out.next i1 gr1); have c1 := E.out.row.cell (j := 1) rfl; clear i1 gr1)
  obtain ⟨N1, hN1⟩ : ∃ N, Hid (N = N0 + 8) := ⟨_, W_hid rfl⟩
  refine (Num_next E.out.ob _ (un_lt n0) (by have q0 := hN0.out; omega) N1 hN1.out).mono ?_
  rintro e W1 ⟨g4, rfl, ob, hge, bel⟩
  replace E := W_hid (E.out.call bel ob hge)
  clear ob hge bel c1
  go_wp2_with fail
  rw [rounds_succ]
  have he := fun t => run_next_e (P := Try.prog) W1 gi (bs [116, 110]) 2 t E.out.it (by decide)
  by_cases hbig : 8192 < N1
  · have hf : Hid (fits [116, 110] [n0, n1, n2] [s0, s1] = false) := by
      unfold fits
      rw [hln.out, decide_eq_false (by have q0 := hN0.out; have q1 := hN1.out; omega)]; rfl
    go_wp2_with fail
    go_ret2
    exact ⟨by rw [hR.out.1, hR.out.2, hf.out]; rfl, E.out.below⟩
  go_wp2_with fail
  refine (blank_any w.heap.size 2 5 ([n1, n2] : List Int) ([s1] : List ByteArray) 2 1 rfl rfl (by decide) (by decide) W1 (fun j hj => ?_) (fun j hj => ?_)).mono ?_
  · match j, hj with
    | 0, _ => exact E.out.row.cell (j := 2) rfl
    | 1, _ => exact E.out.row.cell (j := 3) rfl
  · match j, hj with
    | 0, _ => exact E.out.row.cell (j := 5) rfl
  rintro e Wb ⟨rfl, rfl⟩
  rw [← hbk.out]
  have hcv := conv_str E.out.ob
  have hfx : Hid (fits [116, 110] [n0, n1, n2] [s0, s1] = blk [116, 110] [n0, n1, n2] [s0, s1]) := by
    unfold fits
    rw [hln.out, decide_eq_true (by have q0 := hN0.out; have q1 := hN1.out; omega)]; rfl
  cases hq : blk [116, 110] [n0, n1, n2] [s0, s1] with
  | false =>
    replace hq := W_hid hq
    go_wp2_with fail
    go_ret2
    exact ⟨by rw [hR.out.1, hR.out.2, hfx.out, hq.out]; rfl, E.out.below⟩
  | true =>
    replace hq := W_hid hq
    go_wp2_with fail
    go_ret2
    exact ⟨by rw [hR.out.1, hR.out.2, hfx.out, hq.out, if_pos rfl, if_pos rfl, hbd.out]; simp only [List.append_assoc, List.append_nil]; try rfl, E.out.below⟩
set_option maxRecDepth 100000 in
set_option maxHeartbeats 4000000 in
theorem enc_n (no n0 n1 n2 : Int) (s0 s1 : ByteArray) (h : shI no = some (bs [110])) (h0 : -9223372036854775808 ≤ no) (h1 : no ≤ 9223372036854775807) (m0 : s0.size ≤ maxLen) (m1 : s1.size ≤ maxLen) (w : World) :
    Calls Try.prog 11 #[.agg (cl no n0 n1 n2 s0 s1).toArray] w fun e w' => e = .returned (.tuple #[.string (encS no [n0, n1, n2] [s0, s1]), .int .i64 (encE no [n0, n1, n2] [s0, s1])]) ∧ Below w.heap.size w w' := by
  have cu := conv_u64 no
  have cu0 := conv_u64' n0
  have cu1 := conv_u64' n1
  have cu2 := conv_u64' n2
  have hR : Hid (encS no [n0, n1, n2] [s0, s1] = (if fits [110] [n0, n1, n2] [s0, s1] = true then strOf (le 8 (un no) ++ body [110] [n0, n1, n2] [s0, s1]) else ByteArray.empty) ∧ encE no [n0, n1, n2] [s0, s1] = (if fits [110] [n0, n1, n2] [s0, s1] = true then 0 else 2)) := enc_some h [n0, n1, n2] [s0, s1]
  replace h := W_hid h
  have bb : Below w.heap.size w (w.alloc (.cells (cl no n0 n1 n2 s0 s1).toArray 25)) := (Below.refl _ _).alloc (Nat.le_refl _) _
  have hB : Blk (w.alloc (.cells (cl no n0 n1 n2 s0 s1).toArray 25)) w.heap.size 25 (cl no n0 n1 n2 s0 s1) := Blk.new w _ _ rfl
  have hbd : Hid (body [110] [n0, n1, n2] [s0, s1] = (le 8 (un n0) ++ [])) := rfl
  have hln : Hid (8 + (body [110] [n0, n1, n2] [s0, s1]).length = 8 + 8) := W_hid (by rw [hbd.out]; simp only [List.length_append, le_length, List.length_nil, Array.length_toList]; all_goals (try simp only [ByteArray.size]); all_goals (try omega))
  have hbk : Hid (blk [110] [n0, n1, n2] [s0, s1] = (([n1, n2] : List Int).all (· == 0) && ([s0, s1] : List ByteArray).all (fun s => s.size == 0))) := rfl
  unfold cl
  unfold cl at hB bb
  unfold maxLen at m0 m1
  go_enter Try.func11, Try.ntmps11
  go_wp2_with fail
  refine (Shape_some h.out h0 h1 _).mono ?_
  rintro e w1 ⟨rfl, bel1⟩
  replace hB := hB.keep bel1
  have c0 := hB.cell (j := 0) rfl
  replace hB := W_hid hB
  replace bb := bb.trans (bel1.mono bb.size)
  clear bel1
  go_wp2_with fail
  refine (Num_first _ (un_lt no) _).mono ?_
  rintro e w2 ⟨g2, rfl, hO, bel2⟩
  replace hB := hB.out.keep bel2
  have hlb := hB.lt
  have hlo : g2 < w2.heap.size := by
    obtain ⟨_, _, _, _, hc⟩ := hO
    exact World.block_lt_of_cell? w2 _ (hc _ rfl 0 _ (by rfl))
  replace hB := W_hid hB
  replace bb := bb.trans (bel2.mono bb.size)
  clear c0 bel2
  go_wp2_with fail
  go_quiet (fail)
  go_wp2_with fail
  refine wp_world (fun W => ∃ gi, gi = w2.heap.size ∧ ES w W [.int .i64 no, .int .i64 n0, .int .i64 n1, .int .i64 n2, .string s0, .string s1] g2 8 (le 8 (un no)) gi (bs [110]) 0) ⟨_, rfl, (below_drewN bb nq).alloc (by simpa using bb.size) _, (Blk.alloc (w := w2.drewN nq) hB.out _), (OB.keep (w := w2.drewN nq) hO ((Below.refl _ _).alloc (Nat.le_refl _) _)), World.iter_heap _ _ _, hlb, by omega⟩ ?_
  rintro W0 ⟨gi, hgi, E⟩
  rw [← hgi]
  replace E := W_hid E
  clear hB hO bb hlb hlo hgi
  refine wp_loop_rounds 3 ?_
  rw [rounds_succ]
  go_wp2_with (with_reducible show wpList _ _ _ _ _ _; refine wpList_next gi _ 0 E.out.it rfl _ rfl rfl 110 rfl (by decide) ?_; intro W0i i0 gr0; replace E := W_hid (E.out.next i0 gr0); have c0 := E.out.row.cell (j := 1) rfl; clear i0 gr0)
  obtain ⟨N0, hN0⟩ : ∃ N, Hid (N = 8 + 8) := ⟨_, W_hid rfl⟩
  refine (Num_next E.out.ob _ (un_lt n0) (by omega) N0 hN0.out).mono ?_
  rintro e W0 ⟨g3, rfl, ob, hge, bel⟩
  replace E := W_hid (E.out.call bel ob hge)
  clear ob hge bel c0
  go_wp2_with fail
  rw [rounds_succ]
  have he := fun t => run_next_e (P := Try.prog) W0 gi (bs [110]) 1 t E.out.it (by decide)
  by_cases hbig : 8192 < N0
  · have hf : Hid (fits [110] [n0, n1, n2] [s0, s1] = false) := by
      unfold fits
      rw [hln.out, decide_eq_false (by have q0 := hN0.out; omega)]; rfl
    go_wp2_with fail
    go_ret2
    exact ⟨by rw [hR.out.1, hR.out.2, hf.out]; rfl, E.out.below⟩
  go_wp2_with fail
  refine (blank_any w.heap.size 2 4 ([n1, n2] : List Int) ([s0, s1] : List ByteArray) 2 2 rfl rfl (by decide) (by decide) W0 (fun j hj => ?_) (fun j hj => ?_)).mono ?_
  · match j, hj with
    | 0, _ => exact E.out.row.cell (j := 2) rfl
    | 1, _ => exact E.out.row.cell (j := 3) rfl
  · match j, hj with
    | 0, _ => exact E.out.row.cell (j := 4) rfl
    | 1, _ => exact E.out.row.cell (j := 5) rfl
  rintro e Wb ⟨rfl, rfl⟩
  rw [← hbk.out]
  have hcv := conv_str E.out.ob
  have hfx : Hid (fits [110] [n0, n1, n2] [s0, s1] = blk [110] [n0, n1, n2] [s0, s1]) := by
    unfold fits
    rw [hln.out, decide_eq_true (by have q0 := hN0.out; omega)]; rfl
  cases hq : blk [110] [n0, n1, n2] [s0, s1] with
  | false =>
    replace hq := W_hid hq
    go_wp2_with fail
    go_ret2
    exact ⟨by rw [hR.out.1, hR.out.2, hfx.out, hq.out]; rfl, E.out.below⟩
  | true =>
    replace hq := W_hid hq
    go_wp2_with fail
    go_ret2
    exact ⟨by rw [hR.out.1, hR.out.2, hfx.out, hq.out, if_pos rfl, if_pos rfl, hbd.out]; simp only [List.append_assoc, List.append_nil]; try rfl, E.out.below⟩
set_option maxRecDepth 100000 in
set_option maxHeartbeats 4000000 in
theorem enc_nn (no n0 n1 n2 : Int) (s0 s1 : ByteArray) (h : shI no = some (bs [110, 110])) (h0 : -9223372036854775808 ≤ no) (h1 : no ≤ 9223372036854775807) (m0 : s0.size ≤ maxLen) (m1 : s1.size ≤ maxLen) (w : World) :
    Calls Try.prog 11 #[.agg (cl no n0 n1 n2 s0 s1).toArray] w fun e w' => e = .returned (.tuple #[.string (encS no [n0, n1, n2] [s0, s1]), .int .i64 (encE no [n0, n1, n2] [s0, s1])]) ∧ Below w.heap.size w w' := by
  have cu := conv_u64 no
  have cu0 := conv_u64' n0
  have cu1 := conv_u64' n1
  have cu2 := conv_u64' n2
  have hR : Hid (encS no [n0, n1, n2] [s0, s1] = (if fits [110, 110] [n0, n1, n2] [s0, s1] = true then strOf (le 8 (un no) ++ body [110, 110] [n0, n1, n2] [s0, s1]) else ByteArray.empty) ∧ encE no [n0, n1, n2] [s0, s1] = (if fits [110, 110] [n0, n1, n2] [s0, s1] = true then 0 else 2)) := enc_some h [n0, n1, n2] [s0, s1]
  replace h := W_hid h
  have bb : Below w.heap.size w (w.alloc (.cells (cl no n0 n1 n2 s0 s1).toArray 25)) := (Below.refl _ _).alloc (Nat.le_refl _) _
  have hB : Blk (w.alloc (.cells (cl no n0 n1 n2 s0 s1).toArray 25)) w.heap.size 25 (cl no n0 n1 n2 s0 s1) := Blk.new w _ _ rfl
  have hbd : Hid (body [110, 110] [n0, n1, n2] [s0, s1] = (le 8 (un n0) ++ (le 8 (un n1) ++ []))) := rfl
  have hln : Hid (8 + (body [110, 110] [n0, n1, n2] [s0, s1]).length = 8 + 8 + 8) := W_hid (by rw [hbd.out]; simp only [List.length_append, le_length, List.length_nil, Array.length_toList]; all_goals (try simp only [ByteArray.size]); all_goals (try omega))
  have hbk : Hid (blk [110, 110] [n0, n1, n2] [s0, s1] = (([n2] : List Int).all (· == 0) && ([s0, s1] : List ByteArray).all (fun s => s.size == 0))) := rfl
  unfold cl
  unfold cl at hB bb
  unfold maxLen at m0 m1
  go_enter Try.func11, Try.ntmps11
  go_wp2_with fail
  refine (Shape_some h.out h0 h1 _).mono ?_
  rintro e w1 ⟨rfl, bel1⟩
  replace hB := hB.keep bel1
  have c0 := hB.cell (j := 0) rfl
  replace hB := W_hid hB
  replace bb := bb.trans (bel1.mono bb.size)
  clear bel1
  go_wp2_with fail
  refine (Num_first _ (un_lt no) _).mono ?_
  rintro e w2 ⟨g2, rfl, hO, bel2⟩
  replace hB := hB.out.keep bel2
  have hlb := hB.lt
  have hlo : g2 < w2.heap.size := by
    obtain ⟨_, _, _, _, hc⟩ := hO
    exact World.block_lt_of_cell? w2 _ (hc _ rfl 0 _ (by rfl))
  replace hB := W_hid hB
  replace bb := bb.trans (bel2.mono bb.size)
  clear c0 bel2
  go_wp2_with fail
  go_quiet (fail)
  go_wp2_with fail
  refine wp_world (fun W => ∃ gi, gi = w2.heap.size ∧ ES w W [.int .i64 no, .int .i64 n0, .int .i64 n1, .int .i64 n2, .string s0, .string s1] g2 8 (le 8 (un no)) gi (bs [110, 110]) 0) ⟨_, rfl, (below_drewN bb nq).alloc (by simpa using bb.size) _, (Blk.alloc (w := w2.drewN nq) hB.out _), (OB.keep (w := w2.drewN nq) hO ((Below.refl _ _).alloc (Nat.le_refl _) _)), World.iter_heap _ _ _, hlb, by omega⟩ ?_
  rintro W0 ⟨gi, hgi, E⟩
  rw [← hgi]
  replace E := W_hid E
  clear hB hO bb hlb hlo hgi
  refine wp_loop_rounds 4 ?_
  rw [rounds_succ]
  go_wp2_with (with_reducible show wpList _ _ _ _ _ _; refine wpList_next gi _ 0 E.out.it rfl _ rfl rfl 110 rfl (by decide) ?_; intro W0i i0 gr0; replace E := W_hid (E.out.next i0 gr0); have c0 := E.out.row.cell (j := 1) rfl; clear i0 gr0)
  obtain ⟨N0, hN0⟩ : ∃ N, Hid (N = 8 + 8) := ⟨_, W_hid rfl⟩
  refine (Num_next E.out.ob _ (un_lt n0) (by omega) N0 hN0.out).mono ?_
  rintro e W0 ⟨g3, rfl, ob, hge, bel⟩
  replace E := W_hid (E.out.call bel ob hge)
  clear ob hge bel c0
  go_wp2_with fail
  rw [rounds_succ]
  go_wp2_with (with_reducible show wpList _ _ _ _ _ _; refine wpList_next gi _ 1 E.out.it rfl _ rfl rfl 110 rfl (by decide) ?_; intro W1i i1 gr1; replace E := W_hid (E.out.next i1 gr1); have c1 := E.out.row.cell (j := 2) rfl; clear i1 gr1)
  obtain ⟨N1, hN1⟩ : ∃ N, Hid (N = N0 + 8) := ⟨_, W_hid rfl⟩
  refine (Num_next E.out.ob _ (un_lt n1) (by have q0 := hN0.out; omega) N1 hN1.out).mono ?_
  rintro e W1 ⟨g4, rfl, ob, hge, bel⟩
  replace E := W_hid (E.out.call bel ob hge)
  clear ob hge bel c1
  go_wp2_with fail
  rw [rounds_succ]
  have he := fun t => run_next_e (P := Try.prog) W1 gi (bs [110, 110]) 2 t E.out.it (by decide)
  by_cases hbig : 8192 < N1
  · have hf : Hid (fits [110, 110] [n0, n1, n2] [s0, s1] = false) := by
      unfold fits
      rw [hln.out, decide_eq_false (by have q0 := hN0.out; have q1 := hN1.out; omega)]; rfl
    go_wp2_with fail
    go_ret2
    exact ⟨by rw [hR.out.1, hR.out.2, hf.out]; rfl, E.out.below⟩
  go_wp2_with fail
  refine (blank_any w.heap.size 3 4 ([n2] : List Int) ([s0, s1] : List ByteArray) 1 2 rfl rfl (by decide) (by decide) W1 (fun j hj => ?_) (fun j hj => ?_)).mono ?_
  · match j, hj with
    | 0, _ => exact E.out.row.cell (j := 3) rfl
  · match j, hj with
    | 0, _ => exact E.out.row.cell (j := 4) rfl
    | 1, _ => exact E.out.row.cell (j := 5) rfl
  rintro e Wb ⟨rfl, rfl⟩
  rw [← hbk.out]
  have hcv := conv_str E.out.ob
  have hfx : Hid (fits [110, 110] [n0, n1, n2] [s0, s1] = blk [110, 110] [n0, n1, n2] [s0, s1]) := by
    unfold fits
    rw [hln.out, decide_eq_true (by have q0 := hN0.out; have q1 := hN1.out; omega)]; rfl
  cases hq : blk [110, 110] [n0, n1, n2] [s0, s1] with
  | false =>
    replace hq := W_hid hq
    go_wp2_with fail
    go_ret2
    exact ⟨by rw [hR.out.1, hR.out.2, hfx.out, hq.out]; rfl, E.out.below⟩
  | true =>
    replace hq := W_hid hq
    go_wp2_with fail
    go_ret2
    exact ⟨by rw [hR.out.1, hR.out.2, hfx.out, hq.out, if_pos rfl, if_pos rfl, hbd.out]; simp only [List.append_assoc, List.append_nil]; try rfl, E.out.below⟩
set_option maxRecDepth 100000 in
set_option maxHeartbeats 4000000 in
theorem enc_nt (no n0 n1 n2 : Int) (s0 s1 : ByteArray) (h : shI no = some (bs [110, 116])) (h0 : -9223372036854775808 ≤ no) (h1 : no ≤ 9223372036854775807) (m0 : s0.size ≤ maxLen) (m1 : s1.size ≤ maxLen) (w : World) :
    Calls Try.prog 11 #[.agg (cl no n0 n1 n2 s0 s1).toArray] w fun e w' => e = .returned (.tuple #[.string (encS no [n0, n1, n2] [s0, s1]), .int .i64 (encE no [n0, n1, n2] [s0, s1])]) ∧ Below w.heap.size w w' := by
  have cu := conv_u64 no
  have cu0 := conv_u64' n0
  have cu1 := conv_u64' n1
  have cu2 := conv_u64' n2
  have hR : Hid (encS no [n0, n1, n2] [s0, s1] = (if fits [110, 116] [n0, n1, n2] [s0, s1] = true then strOf (le 8 (un no) ++ body [110, 116] [n0, n1, n2] [s0, s1]) else ByteArray.empty) ∧ encE no [n0, n1, n2] [s0, s1] = (if fits [110, 116] [n0, n1, n2] [s0, s1] = true then 0 else 2)) := enc_some h [n0, n1, n2] [s0, s1]
  replace h := W_hid h
  have bb : Below w.heap.size w (w.alloc (.cells (cl no n0 n1 n2 s0 s1).toArray 25)) := (Below.refl _ _).alloc (Nat.le_refl _) _
  have hB : Blk (w.alloc (.cells (cl no n0 n1 n2 s0 s1).toArray 25)) w.heap.size 25 (cl no n0 n1 n2 s0 s1) := Blk.new w _ _ rfl
  have hbd : Hid (body [110, 116] [n0, n1, n2] [s0, s1] = (le 8 (un n0) ++ ((le 4 s0.size ++ s0.data.toList) ++ []))) := rfl
  have hln : Hid (8 + (body [110, 116] [n0, n1, n2] [s0, s1]).length = 8 + 8 + (4 + s0.size)) := W_hid (by rw [hbd.out]; simp only [List.length_append, le_length, List.length_nil, Array.length_toList]; all_goals (try simp only [ByteArray.size]); all_goals (try omega))
  have hbk : Hid (blk [110, 116] [n0, n1, n2] [s0, s1] = (([n1, n2] : List Int).all (· == 0) && ([s1] : List ByteArray).all (fun s => s.size == 0))) := rfl
  unfold cl
  unfold cl at hB bb
  unfold maxLen at m0 m1
  go_enter Try.func11, Try.ntmps11
  go_wp2_with fail
  refine (Shape_some h.out h0 h1 _).mono ?_
  rintro e w1 ⟨rfl, bel1⟩
  replace hB := hB.keep bel1
  have c0 := hB.cell (j := 0) rfl
  replace hB := W_hid hB
  replace bb := bb.trans (bel1.mono bb.size)
  clear bel1
  go_wp2_with fail
  refine (Num_first _ (un_lt no) _).mono ?_
  rintro e w2 ⟨g2, rfl, hO, bel2⟩
  replace hB := hB.out.keep bel2
  have hlb := hB.lt
  have hlo : g2 < w2.heap.size := by
    obtain ⟨_, _, _, _, hc⟩ := hO
    exact World.block_lt_of_cell? w2 _ (hc _ rfl 0 _ (by rfl))
  replace hB := W_hid hB
  replace bb := bb.trans (bel2.mono bb.size)
  clear c0 bel2
  go_wp2_with fail
  go_quiet (fail)
  go_wp2_with fail
  refine wp_world (fun W => ∃ gi, gi = w2.heap.size ∧ ES w W [.int .i64 no, .int .i64 n0, .int .i64 n1, .int .i64 n2, .string s0, .string s1] g2 8 (le 8 (un no)) gi (bs [110, 116]) 0) ⟨_, rfl, (below_drewN bb nq).alloc (by simpa using bb.size) _, (Blk.alloc (w := w2.drewN nq) hB.out _), (OB.keep (w := w2.drewN nq) hO ((Below.refl _ _).alloc (Nat.le_refl _) _)), World.iter_heap _ _ _, hlb, by omega⟩ ?_
  rintro W0 ⟨gi, hgi, E⟩
  rw [← hgi]
  replace E := W_hid E
  clear hB hO bb hlb hlo hgi
  refine wp_loop_rounds 4 ?_
  rw [rounds_succ]
  go_wp2_with (with_reducible show wpList _ _ _ _ _ _; refine wpList_next gi _ 0 E.out.it rfl _ rfl rfl 110 rfl (by decide) ?_; intro W0i i0 gr0; replace E := W_hid (E.out.next i0 gr0); have c0 := E.out.row.cell (j := 1) rfl; clear i0 gr0)
  obtain ⟨N0, hN0⟩ : ∃ N, Hid (N = 8 + 8) := ⟨_, W_hid rfl⟩
  refine (Num_next E.out.ob _ (un_lt n0) (by omega) N0 hN0.out).mono ?_
  rintro e W0 ⟨g3, rfl, ob, hge, bel⟩
  replace E := W_hid (E.out.call bel ob hge)
  clear ob hge bel c0
  go_wp2_with fail
  rw [rounds_succ]
  go_wp2_with (with_reducible show wpList _ _ _ _ _ _; refine wpList_next gi _ 1 E.out.it rfl _ rfl rfl 116 rfl (by decide) ?_; intro W1i i1 gr1; replace E := W_hid (E.out.next i1 gr1); have c1 := E.out.row.cell (j := 4) rfl; clear i1 gr1)
  by_cases hl0 : 1048576 < s0.size
  · have hf : Hid (fits [110, 116] [n0, n1, n2] [s0, s1] = false) := by
      unfold fits
      rw [hln.out, decide_eq_false (by omega)]; rfl
    refine (Txt_no E.out.ob s0 hl0 m0).mono ?_
    rintro e W1 ⟨rfl, bel⟩
    go_wp2_with fail
    go_ret2
    exact ⟨by rw [hR.out.1, hR.out.2, hf.out]; rfl, E.out.below.trans (bel.mono E.out.below.size)⟩
  obtain ⟨N1, hN1⟩ : ∃ N, Hid (N = N0 + (4 + s0.size)) := ⟨_, W_hid rfl⟩
  refine (Txt_yes E.out.ob s0 (by omega) (by have q0 := hN0.out; omega) N1 hN1.out).mono ?_
  rintro e W1 ⟨g4, rfl, ob, hge, bel⟩
  replace E := W_hid (E.out.call bel ob hge)
  clear ob hge bel c1
  go_wp2_with fail
  rw [rounds_succ]
  have he := fun t => run_next_e (P := Try.prog) W1 gi (bs [110, 116]) 2 t E.out.it (by decide)
  by_cases hbig : 8192 < N1
  · have hf : Hid (fits [110, 116] [n0, n1, n2] [s0, s1] = false) := by
      unfold fits
      rw [hln.out, decide_eq_false (by have q0 := hN0.out; have q1 := hN1.out; omega)]; rfl
    go_wp2_with fail
    go_ret2
    exact ⟨by rw [hR.out.1, hR.out.2, hf.out]; rfl, E.out.below⟩
  go_wp2_with fail
  refine (blank_any w.heap.size 2 5 ([n1, n2] : List Int) ([s1] : List ByteArray) 2 1 rfl rfl (by decide) (by decide) W1 (fun j hj => ?_) (fun j hj => ?_)).mono ?_
  · match j, hj with
    | 0, _ => exact E.out.row.cell (j := 2) rfl
    | 1, _ => exact E.out.row.cell (j := 3) rfl
  · match j, hj with
    | 0, _ => exact E.out.row.cell (j := 5) rfl
  rintro e Wb ⟨rfl, rfl⟩
  rw [← hbk.out]
  have hcv := conv_str E.out.ob
  have hfx : Hid (fits [110, 116] [n0, n1, n2] [s0, s1] = blk [110, 116] [n0, n1, n2] [s0, s1]) := by
    unfold fits
    rw [hln.out, decide_eq_true (by have q0 := hN0.out; have q1 := hN1.out; omega)]; rfl
  cases hq : blk [110, 116] [n0, n1, n2] [s0, s1] with
  | false =>
    replace hq := W_hid hq
    go_wp2_with fail
    go_ret2
    exact ⟨by rw [hR.out.1, hR.out.2, hfx.out, hq.out]; rfl, E.out.below⟩
  | true =>
    replace hq := W_hid hq
    go_wp2_with fail
    go_ret2
    exact ⟨by rw [hR.out.1, hR.out.2, hfx.out, hq.out, if_pos rfl, if_pos rfl, hbd.out]; simp only [List.append_assoc, List.append_nil]; try rfl, E.out.below⟩
set_option maxRecDepth 100000 in
set_option maxHeartbeats 4000000 in
theorem enc_nnn (no n0 n1 n2 : Int) (s0 s1 : ByteArray) (h : shI no = some (bs [110, 110, 110])) (h0 : -9223372036854775808 ≤ no) (h1 : no ≤ 9223372036854775807) (m0 : s0.size ≤ maxLen) (m1 : s1.size ≤ maxLen) (w : World) :
    Calls Try.prog 11 #[.agg (cl no n0 n1 n2 s0 s1).toArray] w fun e w' => e = .returned (.tuple #[.string (encS no [n0, n1, n2] [s0, s1]), .int .i64 (encE no [n0, n1, n2] [s0, s1])]) ∧ Below w.heap.size w w' := by
  have cu := conv_u64 no
  have cu0 := conv_u64' n0
  have cu1 := conv_u64' n1
  have cu2 := conv_u64' n2
  have hR : Hid (encS no [n0, n1, n2] [s0, s1] = (if fits [110, 110, 110] [n0, n1, n2] [s0, s1] = true then strOf (le 8 (un no) ++ body [110, 110, 110] [n0, n1, n2] [s0, s1]) else ByteArray.empty) ∧ encE no [n0, n1, n2] [s0, s1] = (if fits [110, 110, 110] [n0, n1, n2] [s0, s1] = true then 0 else 2)) := enc_some h [n0, n1, n2] [s0, s1]
  replace h := W_hid h
  have bb : Below w.heap.size w (w.alloc (.cells (cl no n0 n1 n2 s0 s1).toArray 25)) := (Below.refl _ _).alloc (Nat.le_refl _) _
  have hB : Blk (w.alloc (.cells (cl no n0 n1 n2 s0 s1).toArray 25)) w.heap.size 25 (cl no n0 n1 n2 s0 s1) := Blk.new w _ _ rfl
  have hbd : Hid (body [110, 110, 110] [n0, n1, n2] [s0, s1] = (le 8 (un n0) ++ (le 8 (un n1) ++ (le 8 (un n2) ++ [])))) := rfl
  have hln : Hid (8 + (body [110, 110, 110] [n0, n1, n2] [s0, s1]).length = 8 + 8 + 8 + 8) := W_hid (by rw [hbd.out]; simp only [List.length_append, le_length, List.length_nil, Array.length_toList]; all_goals (try simp only [ByteArray.size]); all_goals (try omega))
  have hbk : Hid (blk [110, 110, 110] [n0, n1, n2] [s0, s1] = (([] : List Int).all (· == 0) && ([s0, s1] : List ByteArray).all (fun s => s.size == 0))) := rfl
  unfold cl
  unfold cl at hB bb
  unfold maxLen at m0 m1
  go_enter Try.func11, Try.ntmps11
  go_wp2_with fail
  refine (Shape_some h.out h0 h1 _).mono ?_
  rintro e w1 ⟨rfl, bel1⟩
  replace hB := hB.keep bel1
  have c0 := hB.cell (j := 0) rfl
  replace hB := W_hid hB
  replace bb := bb.trans (bel1.mono bb.size)
  clear bel1
  go_wp2_with fail
  refine (Num_first _ (un_lt no) _).mono ?_
  rintro e w2 ⟨g2, rfl, hO, bel2⟩
  replace hB := hB.out.keep bel2
  have hlb := hB.lt
  have hlo : g2 < w2.heap.size := by
    obtain ⟨_, _, _, _, hc⟩ := hO
    exact World.block_lt_of_cell? w2 _ (hc _ rfl 0 _ (by rfl))
  replace hB := W_hid hB
  replace bb := bb.trans (bel2.mono bb.size)
  clear c0 bel2
  go_wp2_with fail
  go_quiet (fail)
  go_wp2_with fail
  refine wp_world (fun W => ∃ gi, gi = w2.heap.size ∧ ES w W [.int .i64 no, .int .i64 n0, .int .i64 n1, .int .i64 n2, .string s0, .string s1] g2 8 (le 8 (un no)) gi (bs [110, 110, 110]) 0) ⟨_, rfl, (below_drewN bb nq).alloc (by simpa using bb.size) _, (Blk.alloc (w := w2.drewN nq) hB.out _), (OB.keep (w := w2.drewN nq) hO ((Below.refl _ _).alloc (Nat.le_refl _) _)), World.iter_heap _ _ _, hlb, by omega⟩ ?_
  rintro W0 ⟨gi, hgi, E⟩
  rw [← hgi]
  replace E := W_hid E
  clear hB hO bb hlb hlo hgi
  refine wp_loop_rounds 5 ?_
  rw [rounds_succ]
  go_wp2_with (with_reducible show wpList _ _ _ _ _ _; refine wpList_next gi _ 0 E.out.it rfl _ rfl rfl 110 rfl (by decide) ?_; intro W0i i0 gr0; replace E := W_hid (E.out.next i0 gr0); have c0 := E.out.row.cell (j := 1) rfl; clear i0 gr0)
  obtain ⟨N0, hN0⟩ : ∃ N, Hid (N = 8 + 8) := ⟨_, W_hid rfl⟩
  refine (Num_next E.out.ob _ (un_lt n0) (by omega) N0 hN0.out).mono ?_
  rintro e W0 ⟨g3, rfl, ob, hge, bel⟩
  replace E := W_hid (E.out.call bel ob hge)
  clear ob hge bel c0
  go_wp2_with fail
  rw [rounds_succ]
  go_wp2_with (with_reducible show wpList _ _ _ _ _ _; refine wpList_next gi _ 1 E.out.it rfl _ rfl rfl 110 rfl (by decide) ?_; intro W1i i1 gr1; replace E := W_hid (E.out.next i1 gr1); have c1 := E.out.row.cell (j := 2) rfl; clear i1 gr1)
  obtain ⟨N1, hN1⟩ : ∃ N, Hid (N = N0 + 8) := ⟨_, W_hid rfl⟩
  refine (Num_next E.out.ob _ (un_lt n1) (by have q0 := hN0.out; omega) N1 hN1.out).mono ?_
  rintro e W1 ⟨g4, rfl, ob, hge, bel⟩
  replace E := W_hid (E.out.call bel ob hge)
  clear ob hge bel c1
  go_wp2_with fail
  rw [rounds_succ]
  go_wp2_with (with_reducible show wpList _ _ _ _ _ _; refine wpList_next gi _ 2 E.out.it rfl _ rfl rfl 110 rfl (by decide) ?_; intro W2i i2 gr2; replace E := W_hid (E.out.next i2 gr2); have c2 := E.out.row.cell (j := 3) rfl; clear i2 gr2)
  obtain ⟨N2, hN2⟩ : ∃ N, Hid (N = N1 + 8) := ⟨_, W_hid rfl⟩
  refine (Num_next E.out.ob _ (un_lt n2) (by have q0 := hN0.out; have q1 := hN1.out; omega) N2 hN2.out).mono ?_
  rintro e W2 ⟨g5, rfl, ob, hge, bel⟩
  replace E := W_hid (E.out.call bel ob hge)
  clear ob hge bel c2
  go_wp2_with fail
  rw [rounds_succ]
  have he := fun t => run_next_e (P := Try.prog) W2 gi (bs [110, 110, 110]) 3 t E.out.it (by decide)
  by_cases hbig : 8192 < N2
  · have hf : Hid (fits [110, 110, 110] [n0, n1, n2] [s0, s1] = false) := by
      unfold fits
      rw [hln.out, decide_eq_false (by have q0 := hN0.out; have q1 := hN1.out; have q2 := hN2.out; omega)]; rfl
    go_wp2_with fail
    go_ret2
    exact ⟨by rw [hR.out.1, hR.out.2, hf.out]; rfl, E.out.below⟩
  go_wp2_with fail
  refine (blank_any w.heap.size 3 4 ([] : List Int) ([s0, s1] : List ByteArray) 0 2 rfl rfl (by decide) (by decide) W2 (fun j hj => ?_) (fun j hj => ?_)).mono ?_
  · exact absurd hj (Nat.not_lt_zero _)
  · match j, hj with
    | 0, _ => exact E.out.row.cell (j := 4) rfl
    | 1, _ => exact E.out.row.cell (j := 5) rfl
  rintro e Wb ⟨rfl, rfl⟩
  rw [← hbk.out]
  have hcv := conv_str E.out.ob
  have hfx : Hid (fits [110, 110, 110] [n0, n1, n2] [s0, s1] = blk [110, 110, 110] [n0, n1, n2] [s0, s1]) := by
    unfold fits
    rw [hln.out, decide_eq_true (by have q0 := hN0.out; have q1 := hN1.out; have q2 := hN2.out; omega)]; rfl
  cases hq : blk [110, 110, 110] [n0, n1, n2] [s0, s1] with
  | false =>
    replace hq := W_hid hq
    go_wp2_with fail
    go_ret2
    exact ⟨by rw [hR.out.1, hR.out.2, hfx.out, hq.out]; rfl, E.out.below⟩
  | true =>
    replace hq := W_hid hq
    go_wp2_with fail
    go_ret2
    exact ⟨by rw [hR.out.1, hR.out.2, hfx.out, hq.out, if_pos rfl, if_pos rfl, hbd.out]; simp only [List.append_assoc, List.append_nil]; try rfl, E.out.below⟩
set_option maxRecDepth 100000 in
set_option maxHeartbeats 4000000 in
theorem enc_t (no n0 n1 n2 : Int) (s0 s1 : ByteArray) (h : shI no = some (bs [116])) (h0 : -9223372036854775808 ≤ no) (h1 : no ≤ 9223372036854775807) (m0 : s0.size ≤ maxLen) (m1 : s1.size ≤ maxLen) (w : World) :
    Calls Try.prog 11 #[.agg (cl no n0 n1 n2 s0 s1).toArray] w fun e w' => e = .returned (.tuple #[.string (encS no [n0, n1, n2] [s0, s1]), .int .i64 (encE no [n0, n1, n2] [s0, s1])]) ∧ Below w.heap.size w w' := by
  have cu := conv_u64 no
  have cu0 := conv_u64' n0
  have cu1 := conv_u64' n1
  have cu2 := conv_u64' n2
  have hR : Hid (encS no [n0, n1, n2] [s0, s1] = (if fits [116] [n0, n1, n2] [s0, s1] = true then strOf (le 8 (un no) ++ body [116] [n0, n1, n2] [s0, s1]) else ByteArray.empty) ∧ encE no [n0, n1, n2] [s0, s1] = (if fits [116] [n0, n1, n2] [s0, s1] = true then 0 else 2)) := enc_some h [n0, n1, n2] [s0, s1]
  replace h := W_hid h
  have bb : Below w.heap.size w (w.alloc (.cells (cl no n0 n1 n2 s0 s1).toArray 25)) := (Below.refl _ _).alloc (Nat.le_refl _) _
  have hB : Blk (w.alloc (.cells (cl no n0 n1 n2 s0 s1).toArray 25)) w.heap.size 25 (cl no n0 n1 n2 s0 s1) := Blk.new w _ _ rfl
  have hbd : Hid (body [116] [n0, n1, n2] [s0, s1] = ((le 4 s0.size ++ s0.data.toList) ++ [])) := rfl
  have hln : Hid (8 + (body [116] [n0, n1, n2] [s0, s1]).length = 8 + (4 + s0.size)) := W_hid (by rw [hbd.out]; simp only [List.length_append, le_length, List.length_nil, Array.length_toList]; all_goals (try simp only [ByteArray.size]); all_goals (try omega))
  have hbk : Hid (blk [116] [n0, n1, n2] [s0, s1] = (([n0, n1, n2] : List Int).all (· == 0) && ([s1] : List ByteArray).all (fun s => s.size == 0))) := rfl
  unfold cl
  unfold cl at hB bb
  unfold maxLen at m0 m1
  go_enter Try.func11, Try.ntmps11
  go_wp2_with fail
  refine (Shape_some h.out h0 h1 _).mono ?_
  rintro e w1 ⟨rfl, bel1⟩
  replace hB := hB.keep bel1
  have c0 := hB.cell (j := 0) rfl
  replace hB := W_hid hB
  replace bb := bb.trans (bel1.mono bb.size)
  clear bel1
  go_wp2_with fail
  refine (Num_first _ (un_lt no) _).mono ?_
  rintro e w2 ⟨g2, rfl, hO, bel2⟩
  replace hB := hB.out.keep bel2
  have hlb := hB.lt
  have hlo : g2 < w2.heap.size := by
    obtain ⟨_, _, _, _, hc⟩ := hO
    exact World.block_lt_of_cell? w2 _ (hc _ rfl 0 _ (by rfl))
  replace hB := W_hid hB
  replace bb := bb.trans (bel2.mono bb.size)
  clear c0 bel2
  go_wp2_with fail
  go_quiet (fail)
  go_wp2_with fail
  refine wp_world (fun W => ∃ gi, gi = w2.heap.size ∧ ES w W [.int .i64 no, .int .i64 n0, .int .i64 n1, .int .i64 n2, .string s0, .string s1] g2 8 (le 8 (un no)) gi (bs [116]) 0) ⟨_, rfl, (below_drewN bb nq).alloc (by simpa using bb.size) _, (Blk.alloc (w := w2.drewN nq) hB.out _), (OB.keep (w := w2.drewN nq) hO ((Below.refl _ _).alloc (Nat.le_refl _) _)), World.iter_heap _ _ _, hlb, by omega⟩ ?_
  rintro W0 ⟨gi, hgi, E⟩
  rw [← hgi]
  replace E := W_hid E
  clear hB hO bb hlb hlo hgi
  refine wp_loop_rounds 3 ?_
  rw [rounds_succ]
  go_wp2_with (with_reducible show wpList _ _ _ _ _ _; refine wpList_next gi _ 0 E.out.it rfl _ rfl rfl 116 rfl (by decide) ?_; intro W0i i0 gr0; replace E := W_hid (E.out.next i0 gr0); have c0 := E.out.row.cell (j := 4) rfl; clear i0 gr0)
  by_cases hl0 : 1048576 < s0.size
  · have hf : Hid (fits [116] [n0, n1, n2] [s0, s1] = false) := by
      unfold fits
      rw [hln.out, decide_eq_false (by omega)]; rfl
    refine (Txt_no E.out.ob s0 hl0 m0).mono ?_
    rintro e W0 ⟨rfl, bel⟩
    go_wp2_with fail
    go_ret2
    exact ⟨by rw [hR.out.1, hR.out.2, hf.out]; rfl, E.out.below.trans (bel.mono E.out.below.size)⟩
  obtain ⟨N0, hN0⟩ : ∃ N, Hid (N = 8 + (4 + s0.size)) := ⟨_, W_hid rfl⟩
  refine (Txt_yes E.out.ob s0 (by omega) (by omega) N0 hN0.out).mono ?_
  rintro e W0 ⟨g3, rfl, ob, hge, bel⟩
  replace E := W_hid (E.out.call bel ob hge)
  clear ob hge bel c0
  go_wp2_with fail
  rw [rounds_succ]
  have he := fun t => run_next_e (P := Try.prog) W0 gi (bs [116]) 1 t E.out.it (by decide)
  by_cases hbig : 8192 < N0
  · have hf : Hid (fits [116] [n0, n1, n2] [s0, s1] = false) := by
      unfold fits
      rw [hln.out, decide_eq_false (by have q0 := hN0.out; omega)]; rfl
    go_wp2_with fail
    go_ret2
    exact ⟨by rw [hR.out.1, hR.out.2, hf.out]; rfl, E.out.below⟩
  go_wp2_with fail
  refine (blank_any w.heap.size 1 5 ([n0, n1, n2] : List Int) ([s1] : List ByteArray) 3 1 rfl rfl (by decide) (by decide) W0 (fun j hj => ?_) (fun j hj => ?_)).mono ?_
  · match j, hj with
    | 0, _ => exact E.out.row.cell (j := 1) rfl
    | 1, _ => exact E.out.row.cell (j := 2) rfl
    | 2, _ => exact E.out.row.cell (j := 3) rfl
  · match j, hj with
    | 0, _ => exact E.out.row.cell (j := 5) rfl
  rintro e Wb ⟨rfl, rfl⟩
  rw [← hbk.out]
  have hcv := conv_str E.out.ob
  have hfx : Hid (fits [116] [n0, n1, n2] [s0, s1] = blk [116] [n0, n1, n2] [s0, s1]) := by
    unfold fits
    rw [hln.out, decide_eq_true (by have q0 := hN0.out; omega)]; rfl
  cases hq : blk [116] [n0, n1, n2] [s0, s1] with
  | false =>
    replace hq := W_hid hq
    go_wp2_with fail
    go_ret2
    exact ⟨by rw [hR.out.1, hR.out.2, hfx.out, hq.out]; rfl, E.out.below⟩
  | true =>
    replace hq := W_hid hq
    go_wp2_with fail
    go_ret2
    exact ⟨by rw [hR.out.1, hR.out.2, hfx.out, hq.out, if_pos rfl, if_pos rfl, hbd.out]; simp only [List.append_assoc, List.append_nil]; try rfl, E.out.below⟩
set_option maxRecDepth 100000 in
set_option maxHeartbeats 4000000 in
theorem enc_tt (no n0 n1 n2 : Int) (s0 s1 : ByteArray) (h : shI no = some (bs [116, 116])) (h0 : -9223372036854775808 ≤ no) (h1 : no ≤ 9223372036854775807) (m0 : s0.size ≤ maxLen) (m1 : s1.size ≤ maxLen) (w : World) :
    Calls Try.prog 11 #[.agg (cl no n0 n1 n2 s0 s1).toArray] w fun e w' => e = .returned (.tuple #[.string (encS no [n0, n1, n2] [s0, s1]), .int .i64 (encE no [n0, n1, n2] [s0, s1])]) ∧ Below w.heap.size w w' := by
  have cu := conv_u64 no
  have cu0 := conv_u64' n0
  have cu1 := conv_u64' n1
  have cu2 := conv_u64' n2
  have hR : Hid (encS no [n0, n1, n2] [s0, s1] = (if fits [116, 116] [n0, n1, n2] [s0, s1] = true then strOf (le 8 (un no) ++ body [116, 116] [n0, n1, n2] [s0, s1]) else ByteArray.empty) ∧ encE no [n0, n1, n2] [s0, s1] = (if fits [116, 116] [n0, n1, n2] [s0, s1] = true then 0 else 2)) := enc_some h [n0, n1, n2] [s0, s1]
  replace h := W_hid h
  have bb : Below w.heap.size w (w.alloc (.cells (cl no n0 n1 n2 s0 s1).toArray 25)) := (Below.refl _ _).alloc (Nat.le_refl _) _
  have hB : Blk (w.alloc (.cells (cl no n0 n1 n2 s0 s1).toArray 25)) w.heap.size 25 (cl no n0 n1 n2 s0 s1) := Blk.new w _ _ rfl
  have hbd : Hid (body [116, 116] [n0, n1, n2] [s0, s1] = ((le 4 s0.size ++ s0.data.toList) ++ ((le 4 s1.size ++ s1.data.toList) ++ []))) := rfl
  have hln : Hid (8 + (body [116, 116] [n0, n1, n2] [s0, s1]).length = 8 + (4 + s0.size) + (4 + s1.size)) := W_hid (by rw [hbd.out]; simp only [List.length_append, le_length, List.length_nil, Array.length_toList]; all_goals (try simp only [ByteArray.size]); all_goals (try omega))
  have hbk : Hid (blk [116, 116] [n0, n1, n2] [s0, s1] = (([n0, n1, n2] : List Int).all (· == 0) && ([] : List ByteArray).all (fun s => s.size == 0))) := rfl
  unfold cl
  unfold cl at hB bb
  unfold maxLen at m0 m1
  go_enter Try.func11, Try.ntmps11
  go_wp2_with fail
  refine (Shape_some h.out h0 h1 _).mono ?_
  rintro e w1 ⟨rfl, bel1⟩
  replace hB := hB.keep bel1
  have c0 := hB.cell (j := 0) rfl
  replace hB := W_hid hB
  replace bb := bb.trans (bel1.mono bb.size)
  clear bel1
  go_wp2_with fail
  refine (Num_first _ (un_lt no) _).mono ?_
  rintro e w2 ⟨g2, rfl, hO, bel2⟩
  replace hB := hB.out.keep bel2
  have hlb := hB.lt
  have hlo : g2 < w2.heap.size := by
    obtain ⟨_, _, _, _, hc⟩ := hO
    exact World.block_lt_of_cell? w2 _ (hc _ rfl 0 _ (by rfl))
  replace hB := W_hid hB
  replace bb := bb.trans (bel2.mono bb.size)
  clear c0 bel2
  go_wp2_with fail
  go_quiet (fail)
  go_wp2_with fail
  refine wp_world (fun W => ∃ gi, gi = w2.heap.size ∧ ES w W [.int .i64 no, .int .i64 n0, .int .i64 n1, .int .i64 n2, .string s0, .string s1] g2 8 (le 8 (un no)) gi (bs [116, 116]) 0) ⟨_, rfl, (below_drewN bb nq).alloc (by simpa using bb.size) _, (Blk.alloc (w := w2.drewN nq) hB.out _), (OB.keep (w := w2.drewN nq) hO ((Below.refl _ _).alloc (Nat.le_refl _) _)), World.iter_heap _ _ _, hlb, by omega⟩ ?_
  rintro W0 ⟨gi, hgi, E⟩
  rw [← hgi]
  replace E := W_hid E
  clear hB hO bb hlb hlo hgi
  refine wp_loop_rounds 4 ?_
  rw [rounds_succ]
  go_wp2_with (with_reducible show wpList _ _ _ _ _ _; refine wpList_next gi _ 0 E.out.it rfl _ rfl rfl 116 rfl (by decide) ?_; intro W0i i0 gr0; replace E := W_hid (E.out.next i0 gr0); have c0 := E.out.row.cell (j := 4) rfl; clear i0 gr0)
  by_cases hl0 : 1048576 < s0.size
  · have hf : Hid (fits [116, 116] [n0, n1, n2] [s0, s1] = false) := by
      unfold fits
      rw [hln.out, decide_eq_false (by omega)]; rfl
    refine (Txt_no E.out.ob s0 hl0 m0).mono ?_
    rintro e W0 ⟨rfl, bel⟩
    go_wp2_with fail
    go_ret2
    exact ⟨by rw [hR.out.1, hR.out.2, hf.out]; rfl, E.out.below.trans (bel.mono E.out.below.size)⟩
  obtain ⟨N0, hN0⟩ : ∃ N, Hid (N = 8 + (4 + s0.size)) := ⟨_, W_hid rfl⟩
  refine (Txt_yes E.out.ob s0 (by omega) (by omega) N0 hN0.out).mono ?_
  rintro e W0 ⟨g3, rfl, ob, hge, bel⟩
  replace E := W_hid (E.out.call bel ob hge)
  clear ob hge bel c0
  go_wp2_with fail
  rw [rounds_succ]
  go_wp2_with (with_reducible show wpList _ _ _ _ _ _; refine wpList_next gi _ 1 E.out.it rfl _ rfl rfl 116 rfl (by decide) ?_; intro W1i i1 gr1; replace E := W_hid (E.out.next i1 gr1); have c1 := E.out.row.cell (j := 5) rfl; clear i1 gr1)
  by_cases hl1 : 1048576 < s1.size
  · have hf : Hid (fits [116, 116] [n0, n1, n2] [s0, s1] = false) := by
      unfold fits
      rw [hln.out, decide_eq_false (by omega)]; rfl
    refine (Txt_no E.out.ob s1 hl1 m1).mono ?_
    rintro e W1 ⟨rfl, bel⟩
    go_wp2_with fail
    go_ret2
    exact ⟨by rw [hR.out.1, hR.out.2, hf.out]; rfl, E.out.below.trans (bel.mono E.out.below.size)⟩
  obtain ⟨N1, hN1⟩ : ∃ N, Hid (N = N0 + (4 + s1.size)) := ⟨_, W_hid rfl⟩
  refine (Txt_yes E.out.ob s1 (by omega) (by have q0 := hN0.out; omega) N1 hN1.out).mono ?_
  rintro e W1 ⟨g4, rfl, ob, hge, bel⟩
  replace E := W_hid (E.out.call bel ob hge)
  clear ob hge bel c1
  go_wp2_with fail
  rw [rounds_succ]
  have he := fun t => run_next_e (P := Try.prog) W1 gi (bs [116, 116]) 2 t E.out.it (by decide)
  by_cases hbig : 8192 < N1
  · have hf : Hid (fits [116, 116] [n0, n1, n2] [s0, s1] = false) := by
      unfold fits
      rw [hln.out, decide_eq_false (by have q0 := hN0.out; have q1 := hN1.out; omega)]; rfl
    go_wp2_with fail
    go_ret2
    exact ⟨by rw [hR.out.1, hR.out.2, hf.out]; rfl, E.out.below⟩
  go_wp2_with fail
  refine (blank_any w.heap.size 1 5 ([n0, n1, n2] : List Int) ([] : List ByteArray) 3 0 rfl rfl (by decide) (by decide) W1 (fun j hj => ?_) (fun j hj => ?_)).mono ?_
  · match j, hj with
    | 0, _ => exact E.out.row.cell (j := 1) rfl
    | 1, _ => exact E.out.row.cell (j := 2) rfl
    | 2, _ => exact E.out.row.cell (j := 3) rfl
  · exact absurd hj (Nat.not_lt_zero _)
  rintro e Wb ⟨rfl, rfl⟩
  rw [← hbk.out]
  have hcv := conv_str E.out.ob
  have hfx : Hid (fits [116, 116] [n0, n1, n2] [s0, s1] = blk [116, 116] [n0, n1, n2] [s0, s1]) := by
    unfold fits
    rw [hln.out, decide_eq_true (by have q0 := hN0.out; have q1 := hN1.out; omega)]; rfl
  cases hq : blk [116, 116] [n0, n1, n2] [s0, s1] with
  | false =>
    replace hq := W_hid hq
    go_wp2_with fail
    go_ret2
    exact ⟨by rw [hR.out.1, hR.out.2, hfx.out, hq.out]; rfl, E.out.below⟩
  | true =>
    replace hq := W_hid hq
    go_wp2_with fail
    go_ret2
    exact ⟨by rw [hR.out.1, hR.out.2, hfx.out, hq.out, if_pos rfl, if_pos rfl, hbd.out]; simp only [List.append_assoc, List.append_nil]; try rfl, E.out.below⟩
set_option maxRecDepth 100000 in
set_option maxHeartbeats 4000000 in
theorem enc_o (no n0 n1 n2 : Int) (s0 s1 : ByteArray) (h : shI no = some (bs [])) (h0 : -9223372036854775808 ≤ no) (h1 : no ≤ 9223372036854775807) (m0 : s0.size ≤ maxLen) (m1 : s1.size ≤ maxLen) (w : World) :
    Calls Try.prog 11 #[.agg (cl no n0 n1 n2 s0 s1).toArray] w fun e w' => e = .returned (.tuple #[.string (encS no [n0, n1, n2] [s0, s1]), .int .i64 (encE no [n0, n1, n2] [s0, s1])]) ∧ Below w.heap.size w w' := by
  have cu := conv_u64 no
  have cu0 := conv_u64' n0
  have cu1 := conv_u64' n1
  have cu2 := conv_u64' n2
  have hR : Hid (encS no [n0, n1, n2] [s0, s1] = (if fits [] [n0, n1, n2] [s0, s1] = true then strOf (le 8 (un no) ++ body [] [n0, n1, n2] [s0, s1]) else ByteArray.empty) ∧ encE no [n0, n1, n2] [s0, s1] = (if fits [] [n0, n1, n2] [s0, s1] = true then 0 else 2)) := enc_some h [n0, n1, n2] [s0, s1]
  replace h := W_hid h
  have bb : Below w.heap.size w (w.alloc (.cells (cl no n0 n1 n2 s0 s1).toArray 25)) := (Below.refl _ _).alloc (Nat.le_refl _) _
  have hB : Blk (w.alloc (.cells (cl no n0 n1 n2 s0 s1).toArray 25)) w.heap.size 25 (cl no n0 n1 n2 s0 s1) := Blk.new w _ _ rfl
  have hbd : Hid (body [] [n0, n1, n2] [s0, s1] = []) := rfl
  have hln : Hid (8 + (body [] [n0, n1, n2] [s0, s1]).length = 8) := W_hid (by rw [hbd.out]; simp only [List.length_append, le_length, List.length_nil, Array.length_toList]; all_goals (try simp only [ByteArray.size]); all_goals (try omega))
  have hbk : Hid (blk [] [n0, n1, n2] [s0, s1] = (([n0, n1, n2] : List Int).all (· == 0) && ([s0, s1] : List ByteArray).all (fun s => s.size == 0))) := rfl
  unfold cl
  unfold cl at hB bb
  unfold maxLen at m0 m1
  go_enter Try.func11, Try.ntmps11
  go_wp2_with fail
  refine (Shape_some h.out h0 h1 _).mono ?_
  rintro e w1 ⟨rfl, bel1⟩
  replace hB := hB.keep bel1
  have c0 := hB.cell (j := 0) rfl
  replace hB := W_hid hB
  replace bb := bb.trans (bel1.mono bb.size)
  clear bel1
  go_wp2_with fail
  refine (Num_first _ (un_lt no) _).mono ?_
  rintro e w2 ⟨g2, rfl, hO, bel2⟩
  replace hB := hB.out.keep bel2
  have hlb := hB.lt
  have hlo : g2 < w2.heap.size := by
    obtain ⟨_, _, _, _, hc⟩ := hO
    exact World.block_lt_of_cell? w2 _ (hc _ rfl 0 _ (by rfl))
  replace hB := W_hid hB
  replace bb := bb.trans (bel2.mono bb.size)
  clear c0 bel2
  go_wp2_with fail
  go_quiet (fail)
  go_wp2_with fail
  refine wp_world (fun W => ∃ gi, gi = w2.heap.size ∧ ES w W [.int .i64 no, .int .i64 n0, .int .i64 n1, .int .i64 n2, .string s0, .string s1] g2 8 (le 8 (un no)) gi (bs []) 0) ⟨_, rfl, (below_drewN bb nq).alloc (by simpa using bb.size) _, (Blk.alloc (w := w2.drewN nq) hB.out _), (OB.keep (w := w2.drewN nq) hO ((Below.refl _ _).alloc (Nat.le_refl _) _)), World.iter_heap _ _ _, hlb, by omega⟩ ?_
  rintro W0 ⟨gi, hgi, E⟩
  rw [← hgi]
  replace E := W_hid E
  clear hB hO bb hlb hlo hgi
  refine wp_loop_rounds 2 ?_
  rw [rounds_succ]
  have he := fun t => run_next_e (P := Try.prog) W0 gi (bs []) 0 t E.out.it (by decide)
  by_cases hbig : 8192 < 8
  · omega
  go_wp2_with fail
  refine (blank_any w.heap.size 1 4 ([n0, n1, n2] : List Int) ([s0, s1] : List ByteArray) 3 2 rfl rfl (by decide) (by decide) W0 (fun j hj => ?_) (fun j hj => ?_)).mono ?_
  · match j, hj with
    | 0, _ => exact E.out.row.cell (j := 1) rfl
    | 1, _ => exact E.out.row.cell (j := 2) rfl
    | 2, _ => exact E.out.row.cell (j := 3) rfl
  · match j, hj with
    | 0, _ => exact E.out.row.cell (j := 4) rfl
    | 1, _ => exact E.out.row.cell (j := 5) rfl
  rintro e Wb ⟨rfl, rfl⟩
  rw [← hbk.out]
  have hcv := conv_str E.out.ob
  have hfx : Hid (fits [] [n0, n1, n2] [s0, s1] = blk [] [n0, n1, n2] [s0, s1]) := by
    unfold fits
    rw [hln.out, decide_eq_true (by omega)]; rfl
  cases hq : blk [] [n0, n1, n2] [s0, s1] with
  | false =>
    replace hq := W_hid hq
    go_wp2_with fail
    go_ret2
    exact ⟨by rw [hR.out.1, hR.out.2, hfx.out, hq.out]; rfl, E.out.below⟩
  | true =>
    replace hq := W_hid hq
    go_wp2_with fail
    go_ret2
    exact ⟨by rw [hR.out.1, hR.out.2, hfx.out, hq.out, if_pos rfl, if_pos rfl, hbd.out]; simp only [List.append_assoc, List.append_nil]; try rfl, E.out.below⟩
end CA
end Go.Proofs.Ytmhikoblaejhhaa

/- The document's Encode, for each shape. -/
import Derived.Test.YtmhikoblaejhhaaCalEq
namespace Go.Proofs.Ytmhikoblaejhhaa
open Go.ChangeShapes Go.WideShapes Go.ChangeAt Go.RowKit Go.Maps
set_option linter.unusedVariables false
set_option linter.unusedSimpArgs false
set_option maxRecDepth 100000
namespace CA
set_option maxRecDepth 100000 in
set_option maxHeartbeats 4000000 in
theorem renc_tn (no n0 n1 n2 : Int) (s0 s1 : ByteArray) (h : shI no = some (bs [116, 110])) (h0 : -9223372036854775808 ≤ no) (h1 : no ≤ 9223372036854775807) (m0 : s0.size ≤ maxLen) (m1 : s1.size ≤ maxLen) (w : World) :
    Calls Try.prog 12 #[.agg (cl no n0 n1 n2 s0 s1).toArray] w fun e w' => e = .returned (.tuple #[.string (encS no [n0, n1, n2] [s0, s1]), .int .i64 (encE no [n0, n1, n2] [s0, s1])]) ∧ Below w.heap.size w w' := by
  have cu := conv_u64 no
  have cu0 := conv_u64' n0
  have cu1 := conv_u64' n1
  have cu2 := conv_u64' n2
  have hR : Hid (encS no [n0, n1, n2] [s0, s1] = (if fits [116, 110] [n0, n1, n2] [s0, s1] = true then strOf (le 8 (un no) ++ body [116, 110] [n0, n1, n2] [s0, s1]) else ByteArray.empty) ∧ encE no [n0, n1, n2] [s0, s1] = (if fits [116, 110] [n0, n1, n2] [s0, s1] = true then 0 else 2)) := enc_some h [n0, n1, n2] [s0, s1]
  replace h := W_hid h
  have bb : Below w.heap.size w (w.alloc (.cells (cl no n0 n1 n2 s0 s1).toArray 25)) := (Below.refl _ _).alloc (Nat.le_refl _) _
  have hB : Blk (w.alloc (.cells (cl no n0 n1 n2 s0 s1).toArray 25)) w.heap.size 25 (cl no n0 n1 n2 s0 s1) := Blk.new w _ _ rfl
  have hbd : Hid (body [116, 110] [n0, n1, n2] [s0, s1] = ((le 4 s0.size ++ s0.data.toList) ++ (le 8 (un n0) ++ []))) := rfl
  have hln : Hid (8 + (body [116, 110] [n0, n1, n2] [s0, s1]).length = 8 + (4 + s0.size) + 8) := W_hid (by rw [hbd.out]; simp only [List.length_append, le_length, List.length_nil, Array.length_toList]; all_goals (try simp only [ByteArray.size]); all_goals (try omega))
  have hbk : Hid (blk [116, 110] [n0, n1, n2] [s0, s1] = (([n1, n2] : List Int).all (· == 0) && ([s1] : List ByteArray).all (fun s => s.size == 0))) := rfl
  have hne := fun q hq => call_neq 0 0 n1 n2 0 0 0 0 { data := #[] } s1 { data := #[] } { data := #[] } q hq
  have hnb : (!(blk [116, 110] [n0, n1, n2] [s0, s1])) = true ↔ ¬ ((0 : Int) = 0 ∧ (0 : Int) = 0 ∧ (n1 : Int) = 0 ∧ (n2 : Int) = 0 ∧ ({ data := #[] } : ByteArray) = { data := #[] } ∧ (s1 : ByteArray) = { data := #[] }) := by
    rw [hbk.out, Bool.not_eq_true', ← Bool.not_eq_true]
    refine not_congr ?_
    simp only [List.all_cons, List.all_nil, Bool.and_true, Bool.true_and, Bool.and_eq_true, beq_iff_eq, size_zero, and_assoc, true_and, and_true]
  unfold cl
  unfold cl at hB bb
  unfold maxLen at m0 m1
  go_enter Try.func12, Try.ntmps12
  go_wp2_with fail
  refine (rShape_some h.out h0 h1 _).mono ?_
  rintro e w1 ⟨rfl, hw1⟩
  have c0 := hB.cell (j := 0) rfl
  have c1 := hB.cell (j := 1) rfl
  have c2 := hB.cell (j := 2) rfl
  have c3 := hB.cell (j := 3) rfl
  have c4 := hB.cell (j := 4) rfl
  have c5 := hB.cell (j := 5) rfl
  rw [hw1] at c0 c1 c2 c3 c4 c5 hB bb
  clear hw1
  have hA := hB.alloc (.cells #[.int .i64 0, .int .i64 n0, .int .i64 n1, .int .i64 n2, .string s0, .string s1] 25)
  have d0 := hA.cell (j := 0) rfl
  have hL := hB.lt
  have bA := bb.alloc bb.size (.cells #[.int .i64 0, .int .i64 n0, .int .i64 n1, .int .i64 n2, .string s0, .string s1] 25)
  have rA : Blk (w1.alloc (.cells #[.int .i64 0, .int .i64 n0, .int .i64 n1, .int .i64 n2, .string s0, .string s1] 25)) w1.heap.size 25 [.int .i64 0, .int .i64 n0, .int .i64 n1, .int .i64 n2, .string s0, .string s1] := Blk.new _ _ _ rfl
  replace hA := W_hid hA
  replace rA := W_hid rA
  replace bA := W_hid bA
  clear hB bb
  go_wp2_with fail
  refine (rNum_first _ (un_lt no) _).mono ?_
  rintro e w2 ⟨g2, rfl, hO, hge, bel2⟩
  obtain ⟨r, hr⟩ : ∃ r, r = w1.heap.size := ⟨_, rfl⟩
  have E : RE w w2 [.int .i64 no, .int .i64 n0, .int .i64 n1, .int .i64 n2, .string s0, .string s1] [.int .i64 0, .int .i64 n0, .int .i64 n1, .int .i64 n2, .string s0, .string s1] r g2 8 8 (le 8 (un no)) := by
    subst hr
    exact ⟨bA.out.trans (bel2.mono bA.out.size), hA.out.keep bel2, rA.out.keep bel2, hO, hL, by simp at hge; omega⟩
  rw [← hr]
  replace E := W_hid E
  clear c0 c1 c2 c3 c4 c5 d0 hA rA bA hO hge bel2 hL hr
  go_wp2_with fail
  refine wp_loop_rounds 4 ?_
  rw [rounds_succ]
  have c0 := E.out.row.cell (j := 4) rfl
  have d0 := E.out.rest.fz
  have f0 := E.out.rest.cell (j := 4) rfl
  by_cases hl0 : 8192 < s0.size
  · have hf : Hid (fits [116, 110] [n0, n1, n2] [s0, s1] = false) := by
      unfold fits
      rw [hln.out, decide_eq_false (by omega)]; rfl
    go_wp2_with fail
    go_ret2
    exact ⟨by rw [hR.out.1, hR.out.2, hf.out]; rfl, E.out.below⟩
  obtain ⟨N0, hN0⟩ : ∃ N, Hid (N = 8 + (4 + s0.size)) := ⟨_, W_hid rfl⟩
  go_wp2_with fail
  refine (rTxt_yes E.out.ob s0 (by omega) (by omega) N0 hN0.out).mono ?_
  rintro e W0 ⟨g3, cc0, rfl, ob, hge, bel⟩
  replace E := W_hid (E.out.call bel ob hge)
  clear ob hge bel c0 d0 f0
  have d0 := E.out.rest.fz
  have f0 := E.out.rest.cell (j := 4) rfl
  replace E := W_hid (E.out.store 4 (.string { data := #[] }))
  go_wp2_with fail
  rw [rounds_succ]
  have c1 := E.out.row.cell (j := 1) rfl
  have d1 := E.out.rest.fz
  have f1 := E.out.rest.cell (j := 1) rfl
  go_wp2_with fail
  obtain ⟨N1, hN1⟩ : ∃ N, Hid (N = N0 + 8) := ⟨_, W_hid rfl⟩
  refine (rNum_next E.out.ob _ (un_lt n0) (by have q0 := hN0.out; omega) N1 hN1.out).mono ?_
  rintro e W1 ⟨g4, rfl, ob, hge, bel⟩
  replace E := W_hid (E.out.call bel ob hge)
  clear ob hge bel c1 d1 f1
  have d1 := E.out.rest.fz
  have f1 := E.out.rest.cell (j := 1) rfl
  replace E := W_hid (E.out.store 1 (.int .i64 0))
  go_wp2_with fail
  rw [rounds_succ]
  have x0 := E.out.rest.cell (j := 0) rfl
  have x1 := E.out.rest.cell (j := 1) rfl
  have x2 := E.out.rest.cell (j := 2) rfl
  have x3 := E.out.rest.cell (j := 3) rfl
  have x4 := E.out.rest.cell (j := 4) rfl
  have x5 := E.out.rest.cell (j := 5) rfl
  cases hq : blk [116, 110] [n0, n1, n2] [s0, s1] with
  | false =>
    rw [hq] at hnb
    have he := hne true hnb
    have hf : Hid (fits [116, 110] [n0, n1, n2] [s0, s1] = false) := by
      unfold fits
      rw [hq, Bool.and_false]
      exact rfl
    replace hq := W_hid hq
    clear hnb hne
    go_wp2_with fail
    go_ret2
    exact ⟨by rw [hR.out.1, hR.out.2, hf.out]; rfl, E.out.below⟩
  | true =>
    rw [hq] at hnb
    have he := hne false hnb
    have hfx : Hid (fits [116, 110] [n0, n1, n2] [s0, s1] = decide (8 + (body [116, 110] [n0, n1, n2] [s0, s1]).length ≤ 8192)) := by
      unfold fits
      rw [hq, Bool.and_true]
      exact rfl
    replace hq := W_hid hq
    clear hnb hne
    by_cases hbig : 8192 < N1
    · have hf : Hid (fits [116, 110] [n0, n1, n2] [s0, s1] = false) := by
        unfold fits
        rw [hln.out, decide_eq_false (by have q0 := hN0.out; have q1 := hN1.out; omega)]; rfl
      go_wp2_with fail
      go_ret2
      exact ⟨by rw [hR.out.1, hR.out.2, hf.out]; rfl, E.out.below⟩
    have hft : Hid (fits [116, 110] [n0, n1, n2] [s0, s1] = true) := by
      rw [hfx.out, hln.out, decide_eq_true (by have q0 := hN0.out; have q1 := hN1.out; omega)]
      exact rfl
    have hcv := conv_strC E.out.ob
    go_wp2_with fail
    go_ret2
    exact ⟨by rw [hR.out.1, hR.out.2, hft.out, if_pos rfl, if_pos rfl, hbd.out]; simp only [List.append_assoc, List.append_nil]; try rfl, E.out.below⟩
set_option maxRecDepth 100000 in
set_option maxHeartbeats 4000000 in
theorem renc_n (no n0 n1 n2 : Int) (s0 s1 : ByteArray) (h : shI no = some (bs [110])) (h0 : -9223372036854775808 ≤ no) (h1 : no ≤ 9223372036854775807) (m0 : s0.size ≤ maxLen) (m1 : s1.size ≤ maxLen) (w : World) :
    Calls Try.prog 12 #[.agg (cl no n0 n1 n2 s0 s1).toArray] w fun e w' => e = .returned (.tuple #[.string (encS no [n0, n1, n2] [s0, s1]), .int .i64 (encE no [n0, n1, n2] [s0, s1])]) ∧ Below w.heap.size w w' := by
  have cu := conv_u64 no
  have cu0 := conv_u64' n0
  have cu1 := conv_u64' n1
  have cu2 := conv_u64' n2
  have hR : Hid (encS no [n0, n1, n2] [s0, s1] = (if fits [110] [n0, n1, n2] [s0, s1] = true then strOf (le 8 (un no) ++ body [110] [n0, n1, n2] [s0, s1]) else ByteArray.empty) ∧ encE no [n0, n1, n2] [s0, s1] = (if fits [110] [n0, n1, n2] [s0, s1] = true then 0 else 2)) := enc_some h [n0, n1, n2] [s0, s1]
  replace h := W_hid h
  have bb : Below w.heap.size w (w.alloc (.cells (cl no n0 n1 n2 s0 s1).toArray 25)) := (Below.refl _ _).alloc (Nat.le_refl _) _
  have hB : Blk (w.alloc (.cells (cl no n0 n1 n2 s0 s1).toArray 25)) w.heap.size 25 (cl no n0 n1 n2 s0 s1) := Blk.new w _ _ rfl
  have hbd : Hid (body [110] [n0, n1, n2] [s0, s1] = (le 8 (un n0) ++ [])) := rfl
  have hln : Hid (8 + (body [110] [n0, n1, n2] [s0, s1]).length = 8 + 8) := W_hid (by rw [hbd.out]; simp only [List.length_append, le_length, List.length_nil, Array.length_toList]; all_goals (try simp only [ByteArray.size]); all_goals (try omega))
  have hbk : Hid (blk [110] [n0, n1, n2] [s0, s1] = (([n1, n2] : List Int).all (· == 0) && ([s0, s1] : List ByteArray).all (fun s => s.size == 0))) := rfl
  have hne := fun q hq => call_neq 0 0 n1 n2 0 0 0 0 s0 s1 { data := #[] } { data := #[] } q hq
  have hnb : (!(blk [110] [n0, n1, n2] [s0, s1])) = true ↔ ¬ ((0 : Int) = 0 ∧ (0 : Int) = 0 ∧ (n1 : Int) = 0 ∧ (n2 : Int) = 0 ∧ (s0 : ByteArray) = { data := #[] } ∧ (s1 : ByteArray) = { data := #[] }) := by
    rw [hbk.out, Bool.not_eq_true', ← Bool.not_eq_true]
    refine not_congr ?_
    simp only [List.all_cons, List.all_nil, Bool.and_true, Bool.true_and, Bool.and_eq_true, beq_iff_eq, size_zero, and_assoc, true_and, and_true]
  unfold cl
  unfold cl at hB bb
  unfold maxLen at m0 m1
  go_enter Try.func12, Try.ntmps12
  go_wp2_with fail
  refine (rShape_some h.out h0 h1 _).mono ?_
  rintro e w1 ⟨rfl, hw1⟩
  have c0 := hB.cell (j := 0) rfl
  have c1 := hB.cell (j := 1) rfl
  have c2 := hB.cell (j := 2) rfl
  have c3 := hB.cell (j := 3) rfl
  have c4 := hB.cell (j := 4) rfl
  have c5 := hB.cell (j := 5) rfl
  rw [hw1] at c0 c1 c2 c3 c4 c5 hB bb
  clear hw1
  have hA := hB.alloc (.cells #[.int .i64 0, .int .i64 n0, .int .i64 n1, .int .i64 n2, .string s0, .string s1] 25)
  have d0 := hA.cell (j := 0) rfl
  have hL := hB.lt
  have bA := bb.alloc bb.size (.cells #[.int .i64 0, .int .i64 n0, .int .i64 n1, .int .i64 n2, .string s0, .string s1] 25)
  have rA : Blk (w1.alloc (.cells #[.int .i64 0, .int .i64 n0, .int .i64 n1, .int .i64 n2, .string s0, .string s1] 25)) w1.heap.size 25 [.int .i64 0, .int .i64 n0, .int .i64 n1, .int .i64 n2, .string s0, .string s1] := Blk.new _ _ _ rfl
  replace hA := W_hid hA
  replace rA := W_hid rA
  replace bA := W_hid bA
  clear hB bb
  go_wp2_with fail
  refine (rNum_first _ (un_lt no) _).mono ?_
  rintro e w2 ⟨g2, rfl, hO, hge, bel2⟩
  obtain ⟨r, hr⟩ : ∃ r, r = w1.heap.size := ⟨_, rfl⟩
  have E : RE w w2 [.int .i64 no, .int .i64 n0, .int .i64 n1, .int .i64 n2, .string s0, .string s1] [.int .i64 0, .int .i64 n0, .int .i64 n1, .int .i64 n2, .string s0, .string s1] r g2 8 8 (le 8 (un no)) := by
    subst hr
    exact ⟨bA.out.trans (bel2.mono bA.out.size), hA.out.keep bel2, rA.out.keep bel2, hO, hL, by simp at hge; omega⟩
  rw [← hr]
  replace E := W_hid E
  clear c0 c1 c2 c3 c4 c5 d0 hA rA bA hO hge bel2 hL hr
  go_wp2_with fail
  refine wp_loop_rounds 3 ?_
  rw [rounds_succ]
  have c0 := E.out.row.cell (j := 1) rfl
  have d0 := E.out.rest.fz
  have f0 := E.out.rest.cell (j := 1) rfl
  go_wp2_with fail
  obtain ⟨N0, hN0⟩ : ∃ N, Hid (N = 8 + 8) := ⟨_, W_hid rfl⟩
  refine (rNum_next E.out.ob _ (un_lt n0) (by omega) N0 hN0.out).mono ?_
  rintro e W0 ⟨g3, rfl, ob, hge, bel⟩
  replace E := W_hid (E.out.call bel ob hge)
  clear ob hge bel c0 d0 f0
  have d0 := E.out.rest.fz
  have f0 := E.out.rest.cell (j := 1) rfl
  replace E := W_hid (E.out.store 1 (.int .i64 0))
  go_wp2_with fail
  rw [rounds_succ]
  have x0 := E.out.rest.cell (j := 0) rfl
  have x1 := E.out.rest.cell (j := 1) rfl
  have x2 := E.out.rest.cell (j := 2) rfl
  have x3 := E.out.rest.cell (j := 3) rfl
  have x4 := E.out.rest.cell (j := 4) rfl
  have x5 := E.out.rest.cell (j := 5) rfl
  cases hq : blk [110] [n0, n1, n2] [s0, s1] with
  | false =>
    rw [hq] at hnb
    have he := hne true hnb
    have hf : Hid (fits [110] [n0, n1, n2] [s0, s1] = false) := by
      unfold fits
      rw [hq, Bool.and_false]
      exact rfl
    replace hq := W_hid hq
    clear hnb hne
    go_wp2_with fail
    go_ret2
    exact ⟨by rw [hR.out.1, hR.out.2, hf.out]; rfl, E.out.below⟩
  | true =>
    rw [hq] at hnb
    have he := hne false hnb
    have hfx : Hid (fits [110] [n0, n1, n2] [s0, s1] = decide (8 + (body [110] [n0, n1, n2] [s0, s1]).length ≤ 8192)) := by
      unfold fits
      rw [hq, Bool.and_true]
      exact rfl
    replace hq := W_hid hq
    clear hnb hne
    by_cases hbig : 8192 < N0
    · have hf : Hid (fits [110] [n0, n1, n2] [s0, s1] = false) := by
        unfold fits
        rw [hln.out, decide_eq_false (by have q0 := hN0.out; omega)]; rfl
      go_wp2_with fail
      go_ret2
      exact ⟨by rw [hR.out.1, hR.out.2, hf.out]; rfl, E.out.below⟩
    have hft : Hid (fits [110] [n0, n1, n2] [s0, s1] = true) := by
      rw [hfx.out, hln.out, decide_eq_true (by have q0 := hN0.out; omega)]
      exact rfl
    have hcv := conv_strC E.out.ob
    go_wp2_with fail
    go_ret2
    exact ⟨by rw [hR.out.1, hR.out.2, hft.out, if_pos rfl, if_pos rfl, hbd.out]; simp only [List.append_assoc, List.append_nil]; try rfl, E.out.below⟩
set_option maxRecDepth 100000 in
set_option maxHeartbeats 4000000 in
theorem renc_nn (no n0 n1 n2 : Int) (s0 s1 : ByteArray) (h : shI no = some (bs [110, 110])) (h0 : -9223372036854775808 ≤ no) (h1 : no ≤ 9223372036854775807) (m0 : s0.size ≤ maxLen) (m1 : s1.size ≤ maxLen) (w : World) :
    Calls Try.prog 12 #[.agg (cl no n0 n1 n2 s0 s1).toArray] w fun e w' => e = .returned (.tuple #[.string (encS no [n0, n1, n2] [s0, s1]), .int .i64 (encE no [n0, n1, n2] [s0, s1])]) ∧ Below w.heap.size w w' := by
  have cu := conv_u64 no
  have cu0 := conv_u64' n0
  have cu1 := conv_u64' n1
  have cu2 := conv_u64' n2
  have hR : Hid (encS no [n0, n1, n2] [s0, s1] = (if fits [110, 110] [n0, n1, n2] [s0, s1] = true then strOf (le 8 (un no) ++ body [110, 110] [n0, n1, n2] [s0, s1]) else ByteArray.empty) ∧ encE no [n0, n1, n2] [s0, s1] = (if fits [110, 110] [n0, n1, n2] [s0, s1] = true then 0 else 2)) := enc_some h [n0, n1, n2] [s0, s1]
  replace h := W_hid h
  have bb : Below w.heap.size w (w.alloc (.cells (cl no n0 n1 n2 s0 s1).toArray 25)) := (Below.refl _ _).alloc (Nat.le_refl _) _
  have hB : Blk (w.alloc (.cells (cl no n0 n1 n2 s0 s1).toArray 25)) w.heap.size 25 (cl no n0 n1 n2 s0 s1) := Blk.new w _ _ rfl
  have hbd : Hid (body [110, 110] [n0, n1, n2] [s0, s1] = (le 8 (un n0) ++ (le 8 (un n1) ++ []))) := rfl
  have hln : Hid (8 + (body [110, 110] [n0, n1, n2] [s0, s1]).length = 8 + 8 + 8) := W_hid (by rw [hbd.out]; simp only [List.length_append, le_length, List.length_nil, Array.length_toList]; all_goals (try simp only [ByteArray.size]); all_goals (try omega))
  have hbk : Hid (blk [110, 110] [n0, n1, n2] [s0, s1] = (([n2] : List Int).all (· == 0) && ([s0, s1] : List ByteArray).all (fun s => s.size == 0))) := rfl
  have hne := fun q hq => call_neq 0 0 0 n2 0 0 0 0 s0 s1 { data := #[] } { data := #[] } q hq
  have hnb : (!(blk [110, 110] [n0, n1, n2] [s0, s1])) = true ↔ ¬ ((0 : Int) = 0 ∧ (0 : Int) = 0 ∧ (0 : Int) = 0 ∧ (n2 : Int) = 0 ∧ (s0 : ByteArray) = { data := #[] } ∧ (s1 : ByteArray) = { data := #[] }) := by
    rw [hbk.out, Bool.not_eq_true', ← Bool.not_eq_true]
    refine not_congr ?_
    simp only [List.all_cons, List.all_nil, Bool.and_true, Bool.true_and, Bool.and_eq_true, beq_iff_eq, size_zero, and_assoc, true_and, and_true]
  unfold cl
  unfold cl at hB bb
  unfold maxLen at m0 m1
  go_enter Try.func12, Try.ntmps12
  go_wp2_with fail
  refine (rShape_some h.out h0 h1 _).mono ?_
  rintro e w1 ⟨rfl, hw1⟩
  have c0 := hB.cell (j := 0) rfl
  have c1 := hB.cell (j := 1) rfl
  have c2 := hB.cell (j := 2) rfl
  have c3 := hB.cell (j := 3) rfl
  have c4 := hB.cell (j := 4) rfl
  have c5 := hB.cell (j := 5) rfl
  rw [hw1] at c0 c1 c2 c3 c4 c5 hB bb
  clear hw1
  have hA := hB.alloc (.cells #[.int .i64 0, .int .i64 n0, .int .i64 n1, .int .i64 n2, .string s0, .string s1] 25)
  have d0 := hA.cell (j := 0) rfl
  have hL := hB.lt
  have bA := bb.alloc bb.size (.cells #[.int .i64 0, .int .i64 n0, .int .i64 n1, .int .i64 n2, .string s0, .string s1] 25)
  have rA : Blk (w1.alloc (.cells #[.int .i64 0, .int .i64 n0, .int .i64 n1, .int .i64 n2, .string s0, .string s1] 25)) w1.heap.size 25 [.int .i64 0, .int .i64 n0, .int .i64 n1, .int .i64 n2, .string s0, .string s1] := Blk.new _ _ _ rfl
  replace hA := W_hid hA
  replace rA := W_hid rA
  replace bA := W_hid bA
  clear hB bb
  go_wp2_with fail
  refine (rNum_first _ (un_lt no) _).mono ?_
  rintro e w2 ⟨g2, rfl, hO, hge, bel2⟩
  obtain ⟨r, hr⟩ : ∃ r, r = w1.heap.size := ⟨_, rfl⟩
  have E : RE w w2 [.int .i64 no, .int .i64 n0, .int .i64 n1, .int .i64 n2, .string s0, .string s1] [.int .i64 0, .int .i64 n0, .int .i64 n1, .int .i64 n2, .string s0, .string s1] r g2 8 8 (le 8 (un no)) := by
    subst hr
    exact ⟨bA.out.trans (bel2.mono bA.out.size), hA.out.keep bel2, rA.out.keep bel2, hO, hL, by simp at hge; omega⟩
  rw [← hr]
  replace E := W_hid E
  clear c0 c1 c2 c3 c4 c5 d0 hA rA bA hO hge bel2 hL hr
  go_wp2_with fail
  refine wp_loop_rounds 4 ?_
  rw [rounds_succ]
  have c0 := E.out.row.cell (j := 1) rfl
  have d0 := E.out.rest.fz
  have f0 := E.out.rest.cell (j := 1) rfl
  go_wp2_with fail
  obtain ⟨N0, hN0⟩ : ∃ N, Hid (N = 8 + 8) := ⟨_, W_hid rfl⟩
  refine (rNum_next E.out.ob _ (un_lt n0) (by omega) N0 hN0.out).mono ?_
  rintro e W0 ⟨g3, rfl, ob, hge, bel⟩
  replace E := W_hid (E.out.call bel ob hge)
  clear ob hge bel c0 d0 f0
  have d0 := E.out.rest.fz
  have f0 := E.out.rest.cell (j := 1) rfl
  replace E := W_hid (E.out.store 1 (.int .i64 0))
  go_wp2_with fail
  rw [rounds_succ]
  have c1 := E.out.row.cell (j := 2) rfl
  have d1 := E.out.rest.fz
  have f1 := E.out.rest.cell (j := 2) rfl
  go_wp2_with fail
  obtain ⟨N1, hN1⟩ : ∃ N, Hid (N = N0 + 8) := ⟨_, W_hid rfl⟩
  refine (rNum_next E.out.ob _ (un_lt n1) (by have q0 := hN0.out; omega) N1 hN1.out).mono ?_
  rintro e W1 ⟨g4, rfl, ob, hge, bel⟩
  replace E := W_hid (E.out.call bel ob hge)
  clear ob hge bel c1 d1 f1
  have d1 := E.out.rest.fz
  have f1 := E.out.rest.cell (j := 2) rfl
  replace E := W_hid (E.out.store 2 (.int .i64 0))
  go_wp2_with fail
  rw [rounds_succ]
  have x0 := E.out.rest.cell (j := 0) rfl
  have x1 := E.out.rest.cell (j := 1) rfl
  have x2 := E.out.rest.cell (j := 2) rfl
  have x3 := E.out.rest.cell (j := 3) rfl
  have x4 := E.out.rest.cell (j := 4) rfl
  have x5 := E.out.rest.cell (j := 5) rfl
  cases hq : blk [110, 110] [n0, n1, n2] [s0, s1] with
  | false =>
    rw [hq] at hnb
    have he := hne true hnb
    have hf : Hid (fits [110, 110] [n0, n1, n2] [s0, s1] = false) := by
      unfold fits
      rw [hq, Bool.and_false]
      exact rfl
    replace hq := W_hid hq
    clear hnb hne
    go_wp2_with fail
    go_ret2
    exact ⟨by rw [hR.out.1, hR.out.2, hf.out]; rfl, E.out.below⟩
  | true =>
    rw [hq] at hnb
    have he := hne false hnb
    have hfx : Hid (fits [110, 110] [n0, n1, n2] [s0, s1] = decide (8 + (body [110, 110] [n0, n1, n2] [s0, s1]).length ≤ 8192)) := by
      unfold fits
      rw [hq, Bool.and_true]
      exact rfl
    replace hq := W_hid hq
    clear hnb hne
    by_cases hbig : 8192 < N1
    · have hf : Hid (fits [110, 110] [n0, n1, n2] [s0, s1] = false) := by
        unfold fits
        rw [hln.out, decide_eq_false (by have q0 := hN0.out; have q1 := hN1.out; omega)]; rfl
      go_wp2_with fail
      go_ret2
      exact ⟨by rw [hR.out.1, hR.out.2, hf.out]; rfl, E.out.below⟩
    have hft : Hid (fits [110, 110] [n0, n1, n2] [s0, s1] = true) := by
      rw [hfx.out, hln.out, decide_eq_true (by have q0 := hN0.out; have q1 := hN1.out; omega)]
      exact rfl
    have hcv := conv_strC E.out.ob
    go_wp2_with fail
    go_ret2
    exact ⟨by rw [hR.out.1, hR.out.2, hft.out, if_pos rfl, if_pos rfl, hbd.out]; simp only [List.append_assoc, List.append_nil]; try rfl, E.out.below⟩
set_option maxRecDepth 100000 in
set_option maxHeartbeats 4000000 in
theorem renc_nt (no n0 n1 n2 : Int) (s0 s1 : ByteArray) (h : shI no = some (bs [110, 116])) (h0 : -9223372036854775808 ≤ no) (h1 : no ≤ 9223372036854775807) (m0 : s0.size ≤ maxLen) (m1 : s1.size ≤ maxLen) (w : World) :
    Calls Try.prog 12 #[.agg (cl no n0 n1 n2 s0 s1).toArray] w fun e w' => e = .returned (.tuple #[.string (encS no [n0, n1, n2] [s0, s1]), .int .i64 (encE no [n0, n1, n2] [s0, s1])]) ∧ Below w.heap.size w w' := by
  have cu := conv_u64 no
  have cu0 := conv_u64' n0
  have cu1 := conv_u64' n1
  have cu2 := conv_u64' n2
  have hR : Hid (encS no [n0, n1, n2] [s0, s1] = (if fits [110, 116] [n0, n1, n2] [s0, s1] = true then strOf (le 8 (un no) ++ body [110, 116] [n0, n1, n2] [s0, s1]) else ByteArray.empty) ∧ encE no [n0, n1, n2] [s0, s1] = (if fits [110, 116] [n0, n1, n2] [s0, s1] = true then 0 else 2)) := enc_some h [n0, n1, n2] [s0, s1]
  replace h := W_hid h
  have bb : Below w.heap.size w (w.alloc (.cells (cl no n0 n1 n2 s0 s1).toArray 25)) := (Below.refl _ _).alloc (Nat.le_refl _) _
  have hB : Blk (w.alloc (.cells (cl no n0 n1 n2 s0 s1).toArray 25)) w.heap.size 25 (cl no n0 n1 n2 s0 s1) := Blk.new w _ _ rfl
  have hbd : Hid (body [110, 116] [n0, n1, n2] [s0, s1] = (le 8 (un n0) ++ ((le 4 s0.size ++ s0.data.toList) ++ []))) := rfl
  have hln : Hid (8 + (body [110, 116] [n0, n1, n2] [s0, s1]).length = 8 + 8 + (4 + s0.size)) := W_hid (by rw [hbd.out]; simp only [List.length_append, le_length, List.length_nil, Array.length_toList]; all_goals (try simp only [ByteArray.size]); all_goals (try omega))
  have hbk : Hid (blk [110, 116] [n0, n1, n2] [s0, s1] = (([n1, n2] : List Int).all (· == 0) && ([s1] : List ByteArray).all (fun s => s.size == 0))) := rfl
  have hne := fun q hq => call_neq 0 0 n1 n2 0 0 0 0 { data := #[] } s1 { data := #[] } { data := #[] } q hq
  have hnb : (!(blk [110, 116] [n0, n1, n2] [s0, s1])) = true ↔ ¬ ((0 : Int) = 0 ∧ (0 : Int) = 0 ∧ (n1 : Int) = 0 ∧ (n2 : Int) = 0 ∧ ({ data := #[] } : ByteArray) = { data := #[] } ∧ (s1 : ByteArray) = { data := #[] }) := by
    rw [hbk.out, Bool.not_eq_true', ← Bool.not_eq_true]
    refine not_congr ?_
    simp only [List.all_cons, List.all_nil, Bool.and_true, Bool.true_and, Bool.and_eq_true, beq_iff_eq, size_zero, and_assoc, true_and, and_true]
  unfold cl
  unfold cl at hB bb
  unfold maxLen at m0 m1
  go_enter Try.func12, Try.ntmps12
  go_wp2_with fail
  refine (rShape_some h.out h0 h1 _).mono ?_
  rintro e w1 ⟨rfl, hw1⟩
  have c0 := hB.cell (j := 0) rfl
  have c1 := hB.cell (j := 1) rfl
  have c2 := hB.cell (j := 2) rfl
  have c3 := hB.cell (j := 3) rfl
  have c4 := hB.cell (j := 4) rfl
  have c5 := hB.cell (j := 5) rfl
  rw [hw1] at c0 c1 c2 c3 c4 c5 hB bb
  clear hw1
  have hA := hB.alloc (.cells #[.int .i64 0, .int .i64 n0, .int .i64 n1, .int .i64 n2, .string s0, .string s1] 25)
  have d0 := hA.cell (j := 0) rfl
  have hL := hB.lt
  have bA := bb.alloc bb.size (.cells #[.int .i64 0, .int .i64 n0, .int .i64 n1, .int .i64 n2, .string s0, .string s1] 25)
  have rA : Blk (w1.alloc (.cells #[.int .i64 0, .int .i64 n0, .int .i64 n1, .int .i64 n2, .string s0, .string s1] 25)) w1.heap.size 25 [.int .i64 0, .int .i64 n0, .int .i64 n1, .int .i64 n2, .string s0, .string s1] := Blk.new _ _ _ rfl
  replace hA := W_hid hA
  replace rA := W_hid rA
  replace bA := W_hid bA
  clear hB bb
  go_wp2_with fail
  refine (rNum_first _ (un_lt no) _).mono ?_
  rintro e w2 ⟨g2, rfl, hO, hge, bel2⟩
  obtain ⟨r, hr⟩ : ∃ r, r = w1.heap.size := ⟨_, rfl⟩
  have E : RE w w2 [.int .i64 no, .int .i64 n0, .int .i64 n1, .int .i64 n2, .string s0, .string s1] [.int .i64 0, .int .i64 n0, .int .i64 n1, .int .i64 n2, .string s0, .string s1] r g2 8 8 (le 8 (un no)) := by
    subst hr
    exact ⟨bA.out.trans (bel2.mono bA.out.size), hA.out.keep bel2, rA.out.keep bel2, hO, hL, by simp at hge; omega⟩
  rw [← hr]
  replace E := W_hid E
  clear c0 c1 c2 c3 c4 c5 d0 hA rA bA hO hge bel2 hL hr
  go_wp2_with fail
  refine wp_loop_rounds 4 ?_
  rw [rounds_succ]
  have c0 := E.out.row.cell (j := 1) rfl
  have d0 := E.out.rest.fz
  have f0 := E.out.rest.cell (j := 1) rfl
  go_wp2_with fail
  obtain ⟨N0, hN0⟩ : ∃ N, Hid (N = 8 + 8) := ⟨_, W_hid rfl⟩
  refine (rNum_next E.out.ob _ (un_lt n0) (by omega) N0 hN0.out).mono ?_
  rintro e W0 ⟨g3, rfl, ob, hge, bel⟩
  replace E := W_hid (E.out.call bel ob hge)
  clear ob hge bel c0 d0 f0
  have d0 := E.out.rest.fz
  have f0 := E.out.rest.cell (j := 1) rfl
  replace E := W_hid (E.out.store 1 (.int .i64 0))
  go_wp2_with fail
  rw [rounds_succ]
  have c1 := E.out.row.cell (j := 4) rfl
  have d1 := E.out.rest.fz
  have f1 := E.out.rest.cell (j := 4) rfl
  by_cases hl0 : 8192 < s0.size
  · have hf : Hid (fits [110, 116] [n0, n1, n2] [s0, s1] = false) := by
      unfold fits
      rw [hln.out, decide_eq_false (by omega)]; rfl
    go_wp2_with fail
    go_ret2
    exact ⟨by rw [hR.out.1, hR.out.2, hf.out]; rfl, E.out.below⟩
  obtain ⟨N1, hN1⟩ : ∃ N, Hid (N = N0 + (4 + s0.size)) := ⟨_, W_hid rfl⟩
  go_wp2_with fail
  refine (rTxt_yes E.out.ob s0 (by omega) (by have q0 := hN0.out; omega) N1 hN1.out).mono ?_
  rintro e W1 ⟨g4, cc1, rfl, ob, hge, bel⟩
  replace E := W_hid (E.out.call bel ob hge)
  clear ob hge bel c1 d1 f1
  have d1 := E.out.rest.fz
  have f1 := E.out.rest.cell (j := 4) rfl
  replace E := W_hid (E.out.store 4 (.string { data := #[] }))
  go_wp2_with fail
  rw [rounds_succ]
  have x0 := E.out.rest.cell (j := 0) rfl
  have x1 := E.out.rest.cell (j := 1) rfl
  have x2 := E.out.rest.cell (j := 2) rfl
  have x3 := E.out.rest.cell (j := 3) rfl
  have x4 := E.out.rest.cell (j := 4) rfl
  have x5 := E.out.rest.cell (j := 5) rfl
  cases hq : blk [110, 116] [n0, n1, n2] [s0, s1] with
  | false =>
    rw [hq] at hnb
    have he := hne true hnb
    have hf : Hid (fits [110, 116] [n0, n1, n2] [s0, s1] = false) := by
      unfold fits
      rw [hq, Bool.and_false]
      exact rfl
    replace hq := W_hid hq
    clear hnb hne
    go_wp2_with fail
    go_ret2
    exact ⟨by rw [hR.out.1, hR.out.2, hf.out]; rfl, E.out.below⟩
  | true =>
    rw [hq] at hnb
    have he := hne false hnb
    have hfx : Hid (fits [110, 116] [n0, n1, n2] [s0, s1] = decide (8 + (body [110, 116] [n0, n1, n2] [s0, s1]).length ≤ 8192)) := by
      unfold fits
      rw [hq, Bool.and_true]
      exact rfl
    replace hq := W_hid hq
    clear hnb hne
    by_cases hbig : 8192 < N1
    · have hf : Hid (fits [110, 116] [n0, n1, n2] [s0, s1] = false) := by
        unfold fits
        rw [hln.out, decide_eq_false (by have q0 := hN0.out; have q1 := hN1.out; omega)]; rfl
      go_wp2_with fail
      go_ret2
      exact ⟨by rw [hR.out.1, hR.out.2, hf.out]; rfl, E.out.below⟩
    have hft : Hid (fits [110, 116] [n0, n1, n2] [s0, s1] = true) := by
      rw [hfx.out, hln.out, decide_eq_true (by have q0 := hN0.out; have q1 := hN1.out; omega)]
      exact rfl
    have hcv := conv_strC E.out.ob
    go_wp2_with fail
    go_ret2
    exact ⟨by rw [hR.out.1, hR.out.2, hft.out, if_pos rfl, if_pos rfl, hbd.out]; simp only [List.append_assoc, List.append_nil]; try rfl, E.out.below⟩
set_option maxRecDepth 100000 in
set_option maxHeartbeats 4000000 in
theorem renc_nnn (no n0 n1 n2 : Int) (s0 s1 : ByteArray) (h : shI no = some (bs [110, 110, 110])) (h0 : -9223372036854775808 ≤ no) (h1 : no ≤ 9223372036854775807) (m0 : s0.size ≤ maxLen) (m1 : s1.size ≤ maxLen) (w : World) :
    Calls Try.prog 12 #[.agg (cl no n0 n1 n2 s0 s1).toArray] w fun e w' => e = .returned (.tuple #[.string (encS no [n0, n1, n2] [s0, s1]), .int .i64 (encE no [n0, n1, n2] [s0, s1])]) ∧ Below w.heap.size w w' := by
  have cu := conv_u64 no
  have cu0 := conv_u64' n0
  have cu1 := conv_u64' n1
  have cu2 := conv_u64' n2
  have hR : Hid (encS no [n0, n1, n2] [s0, s1] = (if fits [110, 110, 110] [n0, n1, n2] [s0, s1] = true then strOf (le 8 (un no) ++ body [110, 110, 110] [n0, n1, n2] [s0, s1]) else ByteArray.empty) ∧ encE no [n0, n1, n2] [s0, s1] = (if fits [110, 110, 110] [n0, n1, n2] [s0, s1] = true then 0 else 2)) := enc_some h [n0, n1, n2] [s0, s1]
  replace h := W_hid h
  have bb : Below w.heap.size w (w.alloc (.cells (cl no n0 n1 n2 s0 s1).toArray 25)) := (Below.refl _ _).alloc (Nat.le_refl _) _
  have hB : Blk (w.alloc (.cells (cl no n0 n1 n2 s0 s1).toArray 25)) w.heap.size 25 (cl no n0 n1 n2 s0 s1) := Blk.new w _ _ rfl
  have hbd : Hid (body [110, 110, 110] [n0, n1, n2] [s0, s1] = (le 8 (un n0) ++ (le 8 (un n1) ++ (le 8 (un n2) ++ [])))) := rfl
  have hln : Hid (8 + (body [110, 110, 110] [n0, n1, n2] [s0, s1]).length = 8 + 8 + 8 + 8) := W_hid (by rw [hbd.out]; simp only [List.length_append, le_length, List.length_nil, Array.length_toList]; all_goals (try simp only [ByteArray.size]); all_goals (try omega))
  have hbk : Hid (blk [110, 110, 110] [n0, n1, n2] [s0, s1] = (([] : List Int).all (· == 0) && ([s0, s1] : List ByteArray).all (fun s => s.size == 0))) := rfl
  have hne := fun q hq => call_neq 0 0 0 0 0 0 0 0 s0 s1 { data := #[] } { data := #[] } q hq
  have hnb : (!(blk [110, 110, 110] [n0, n1, n2] [s0, s1])) = true ↔ ¬ ((0 : Int) = 0 ∧ (0 : Int) = 0 ∧ (0 : Int) = 0 ∧ (0 : Int) = 0 ∧ (s0 : ByteArray) = { data := #[] } ∧ (s1 : ByteArray) = { data := #[] }) := by
    rw [hbk.out, Bool.not_eq_true', ← Bool.not_eq_true]
    refine not_congr ?_
    simp only [List.all_cons, List.all_nil, Bool.and_true, Bool.true_and, Bool.and_eq_true, beq_iff_eq, size_zero, and_assoc, true_and, and_true]
  unfold cl
  unfold cl at hB bb
  unfold maxLen at m0 m1
  go_enter Try.func12, Try.ntmps12
  go_wp2_with fail
  refine (rShape_some h.out h0 h1 _).mono ?_
  rintro e w1 ⟨rfl, hw1⟩
  have c0 := hB.cell (j := 0) rfl
  have c1 := hB.cell (j := 1) rfl
  have c2 := hB.cell (j := 2) rfl
  have c3 := hB.cell (j := 3) rfl
  have c4 := hB.cell (j := 4) rfl
  have c5 := hB.cell (j := 5) rfl
  rw [hw1] at c0 c1 c2 c3 c4 c5 hB bb
  clear hw1
  have hA := hB.alloc (.cells #[.int .i64 0, .int .i64 n0, .int .i64 n1, .int .i64 n2, .string s0, .string s1] 25)
  have d0 := hA.cell (j := 0) rfl
  have hL := hB.lt
  have bA := bb.alloc bb.size (.cells #[.int .i64 0, .int .i64 n0, .int .i64 n1, .int .i64 n2, .string s0, .string s1] 25)
  have rA : Blk (w1.alloc (.cells #[.int .i64 0, .int .i64 n0, .int .i64 n1, .int .i64 n2, .string s0, .string s1] 25)) w1.heap.size 25 [.int .i64 0, .int .i64 n0, .int .i64 n1, .int .i64 n2, .string s0, .string s1] := Blk.new _ _ _ rfl
  replace hA := W_hid hA
  replace rA := W_hid rA
  replace bA := W_hid bA
  clear hB bb
  go_wp2_with fail
  refine (rNum_first _ (un_lt no) _).mono ?_
  rintro e w2 ⟨g2, rfl, hO, hge, bel2⟩
  obtain ⟨r, hr⟩ : ∃ r, r = w1.heap.size := ⟨_, rfl⟩
  have E : RE w w2 [.int .i64 no, .int .i64 n0, .int .i64 n1, .int .i64 n2, .string s0, .string s1] [.int .i64 0, .int .i64 n0, .int .i64 n1, .int .i64 n2, .string s0, .string s1] r g2 8 8 (le 8 (un no)) := by
    subst hr
    exact ⟨bA.out.trans (bel2.mono bA.out.size), hA.out.keep bel2, rA.out.keep bel2, hO, hL, by simp at hge; omega⟩
  rw [← hr]
  replace E := W_hid E
  clear c0 c1 c2 c3 c4 c5 d0 hA rA bA hO hge bel2 hL hr
  go_wp2_with fail
  refine wp_loop_rounds 5 ?_
  rw [rounds_succ]
  have c0 := E.out.row.cell (j := 1) rfl
  have d0 := E.out.rest.fz
  have f0 := E.out.rest.cell (j := 1) rfl
  go_wp2_with fail
  obtain ⟨N0, hN0⟩ : ∃ N, Hid (N = 8 + 8) := ⟨_, W_hid rfl⟩
  refine (rNum_next E.out.ob _ (un_lt n0) (by omega) N0 hN0.out).mono ?_
  rintro e W0 ⟨g3, rfl, ob, hge, bel⟩
  replace E := W_hid (E.out.call bel ob hge)
  clear ob hge bel c0 d0 f0
  have d0 := E.out.rest.fz
  have f0 := E.out.rest.cell (j := 1) rfl
  replace E := W_hid (E.out.store 1 (.int .i64 0))
  go_wp2_with fail
  rw [rounds_succ]
  have c1 := E.out.row.cell (j := 2) rfl
  have d1 := E.out.rest.fz
  have f1 := E.out.rest.cell (j := 2) rfl
  go_wp2_with fail
  obtain ⟨N1, hN1⟩ : ∃ N, Hid (N = N0 + 8) := ⟨_, W_hid rfl⟩
  refine (rNum_next E.out.ob _ (un_lt n1) (by have q0 := hN0.out; omega) N1 hN1.out).mono ?_
  rintro e W1 ⟨g4, rfl, ob, hge, bel⟩
  replace E := W_hid (E.out.call bel ob hge)
  clear ob hge bel c1 d1 f1
  have d1 := E.out.rest.fz
  have f1 := E.out.rest.cell (j := 2) rfl
  replace E := W_hid (E.out.store 2 (.int .i64 0))
  go_wp2_with fail
  rw [rounds_succ]
  have c2 := E.out.row.cell (j := 3) rfl
  have d2 := E.out.rest.fz
  have f2 := E.out.rest.cell (j := 3) rfl
  go_wp2_with fail
  obtain ⟨N2, hN2⟩ : ∃ N, Hid (N = N1 + 8) := ⟨_, W_hid rfl⟩
  refine (rNum_next E.out.ob _ (un_lt n2) (by have q0 := hN0.out; have q1 := hN1.out; omega) N2 hN2.out).mono ?_
  rintro e W2 ⟨g5, rfl, ob, hge, bel⟩
  replace E := W_hid (E.out.call bel ob hge)
  clear ob hge bel c2 d2 f2
  have d2 := E.out.rest.fz
  have f2 := E.out.rest.cell (j := 3) rfl
  replace E := W_hid (E.out.store 3 (.int .i64 0))
  go_wp2_with fail
  rw [rounds_succ]
  have x0 := E.out.rest.cell (j := 0) rfl
  have x1 := E.out.rest.cell (j := 1) rfl
  have x2 := E.out.rest.cell (j := 2) rfl
  have x3 := E.out.rest.cell (j := 3) rfl
  have x4 := E.out.rest.cell (j := 4) rfl
  have x5 := E.out.rest.cell (j := 5) rfl
  cases hq : blk [110, 110, 110] [n0, n1, n2] [s0, s1] with
  | false =>
    rw [hq] at hnb
    have he := hne true hnb
    have hf : Hid (fits [110, 110, 110] [n0, n1, n2] [s0, s1] = false) := by
      unfold fits
      rw [hq, Bool.and_false]
      exact rfl
    replace hq := W_hid hq
    clear hnb hne
    go_wp2_with fail
    go_ret2
    exact ⟨by rw [hR.out.1, hR.out.2, hf.out]; rfl, E.out.below⟩
  | true =>
    rw [hq] at hnb
    have he := hne false hnb
    have hfx : Hid (fits [110, 110, 110] [n0, n1, n2] [s0, s1] = decide (8 + (body [110, 110, 110] [n0, n1, n2] [s0, s1]).length ≤ 8192)) := by
      unfold fits
      rw [hq, Bool.and_true]
      exact rfl
    replace hq := W_hid hq
    clear hnb hne
    by_cases hbig : 8192 < N2
    · have hf : Hid (fits [110, 110, 110] [n0, n1, n2] [s0, s1] = false) := by
        unfold fits
        rw [hln.out, decide_eq_false (by have q0 := hN0.out; have q1 := hN1.out; have q2 := hN2.out; omega)]; rfl
      go_wp2_with fail
      go_ret2
      exact ⟨by rw [hR.out.1, hR.out.2, hf.out]; rfl, E.out.below⟩
    have hft : Hid (fits [110, 110, 110] [n0, n1, n2] [s0, s1] = true) := by
      rw [hfx.out, hln.out, decide_eq_true (by have q0 := hN0.out; have q1 := hN1.out; have q2 := hN2.out; omega)]
      exact rfl
    have hcv := conv_strC E.out.ob
    go_wp2_with fail
    go_ret2
    exact ⟨by rw [hR.out.1, hR.out.2, hft.out, if_pos rfl, if_pos rfl, hbd.out]; simp only [List.append_assoc, List.append_nil]; try rfl, E.out.below⟩
set_option maxRecDepth 100000 in
set_option maxHeartbeats 4000000 in
theorem renc_t (no n0 n1 n2 : Int) (s0 s1 : ByteArray) (h : shI no = some (bs [116])) (h0 : -9223372036854775808 ≤ no) (h1 : no ≤ 9223372036854775807) (m0 : s0.size ≤ maxLen) (m1 : s1.size ≤ maxLen) (w : World) :
    Calls Try.prog 12 #[.agg (cl no n0 n1 n2 s0 s1).toArray] w fun e w' => e = .returned (.tuple #[.string (encS no [n0, n1, n2] [s0, s1]), .int .i64 (encE no [n0, n1, n2] [s0, s1])]) ∧ Below w.heap.size w w' := by
  have cu := conv_u64 no
  have cu0 := conv_u64' n0
  have cu1 := conv_u64' n1
  have cu2 := conv_u64' n2
  have hR : Hid (encS no [n0, n1, n2] [s0, s1] = (if fits [116] [n0, n1, n2] [s0, s1] = true then strOf (le 8 (un no) ++ body [116] [n0, n1, n2] [s0, s1]) else ByteArray.empty) ∧ encE no [n0, n1, n2] [s0, s1] = (if fits [116] [n0, n1, n2] [s0, s1] = true then 0 else 2)) := enc_some h [n0, n1, n2] [s0, s1]
  replace h := W_hid h
  have bb : Below w.heap.size w (w.alloc (.cells (cl no n0 n1 n2 s0 s1).toArray 25)) := (Below.refl _ _).alloc (Nat.le_refl _) _
  have hB : Blk (w.alloc (.cells (cl no n0 n1 n2 s0 s1).toArray 25)) w.heap.size 25 (cl no n0 n1 n2 s0 s1) := Blk.new w _ _ rfl
  have hbd : Hid (body [116] [n0, n1, n2] [s0, s1] = ((le 4 s0.size ++ s0.data.toList) ++ [])) := rfl
  have hln : Hid (8 + (body [116] [n0, n1, n2] [s0, s1]).length = 8 + (4 + s0.size)) := W_hid (by rw [hbd.out]; simp only [List.length_append, le_length, List.length_nil, Array.length_toList]; all_goals (try simp only [ByteArray.size]); all_goals (try omega))
  have hbk : Hid (blk [116] [n0, n1, n2] [s0, s1] = (([n0, n1, n2] : List Int).all (· == 0) && ([s1] : List ByteArray).all (fun s => s.size == 0))) := rfl
  have hne := fun q hq => call_neq 0 n0 n1 n2 0 0 0 0 { data := #[] } s1 { data := #[] } { data := #[] } q hq
  have hnb : (!(blk [116] [n0, n1, n2] [s0, s1])) = true ↔ ¬ ((0 : Int) = 0 ∧ (n0 : Int) = 0 ∧ (n1 : Int) = 0 ∧ (n2 : Int) = 0 ∧ ({ data := #[] } : ByteArray) = { data := #[] } ∧ (s1 : ByteArray) = { data := #[] }) := by
    rw [hbk.out, Bool.not_eq_true', ← Bool.not_eq_true]
    refine not_congr ?_
    simp only [List.all_cons, List.all_nil, Bool.and_true, Bool.true_and, Bool.and_eq_true, beq_iff_eq, size_zero, and_assoc, true_and, and_true]
  unfold cl
  unfold cl at hB bb
  unfold maxLen at m0 m1
  go_enter Try.func12, Try.ntmps12
  go_wp2_with fail
  refine (rShape_some h.out h0 h1 _).mono ?_
  rintro e w1 ⟨rfl, hw1⟩
  have c0 := hB.cell (j := 0) rfl
  have c1 := hB.cell (j := 1) rfl
  have c2 := hB.cell (j := 2) rfl
  have c3 := hB.cell (j := 3) rfl
  have c4 := hB.cell (j := 4) rfl
  have c5 := hB.cell (j := 5) rfl
  rw [hw1] at c0 c1 c2 c3 c4 c5 hB bb
  clear hw1
  have hA := hB.alloc (.cells #[.int .i64 0, .int .i64 n0, .int .i64 n1, .int .i64 n2, .string s0, .string s1] 25)
  have d0 := hA.cell (j := 0) rfl
  have hL := hB.lt
  have bA := bb.alloc bb.size (.cells #[.int .i64 0, .int .i64 n0, .int .i64 n1, .int .i64 n2, .string s0, .string s1] 25)
  have rA : Blk (w1.alloc (.cells #[.int .i64 0, .int .i64 n0, .int .i64 n1, .int .i64 n2, .string s0, .string s1] 25)) w1.heap.size 25 [.int .i64 0, .int .i64 n0, .int .i64 n1, .int .i64 n2, .string s0, .string s1] := Blk.new _ _ _ rfl
  replace hA := W_hid hA
  replace rA := W_hid rA
  replace bA := W_hid bA
  clear hB bb
  go_wp2_with fail
  refine (rNum_first _ (un_lt no) _).mono ?_
  rintro e w2 ⟨g2, rfl, hO, hge, bel2⟩
  obtain ⟨r, hr⟩ : ∃ r, r = w1.heap.size := ⟨_, rfl⟩
  have E : RE w w2 [.int .i64 no, .int .i64 n0, .int .i64 n1, .int .i64 n2, .string s0, .string s1] [.int .i64 0, .int .i64 n0, .int .i64 n1, .int .i64 n2, .string s0, .string s1] r g2 8 8 (le 8 (un no)) := by
    subst hr
    exact ⟨bA.out.trans (bel2.mono bA.out.size), hA.out.keep bel2, rA.out.keep bel2, hO, hL, by simp at hge; omega⟩
  rw [← hr]
  replace E := W_hid E
  clear c0 c1 c2 c3 c4 c5 d0 hA rA bA hO hge bel2 hL hr
  go_wp2_with fail
  refine wp_loop_rounds 3 ?_
  rw [rounds_succ]
  have c0 := E.out.row.cell (j := 4) rfl
  have d0 := E.out.rest.fz
  have f0 := E.out.rest.cell (j := 4) rfl
  by_cases hl0 : 8192 < s0.size
  · have hf : Hid (fits [116] [n0, n1, n2] [s0, s1] = false) := by
      unfold fits
      rw [hln.out, decide_eq_false (by omega)]; rfl
    go_wp2_with fail
    go_ret2
    exact ⟨by rw [hR.out.1, hR.out.2, hf.out]; rfl, E.out.below⟩
  obtain ⟨N0, hN0⟩ : ∃ N, Hid (N = 8 + (4 + s0.size)) := ⟨_, W_hid rfl⟩
  go_wp2_with fail
  refine (rTxt_yes E.out.ob s0 (by omega) (by omega) N0 hN0.out).mono ?_
  rintro e W0 ⟨g3, cc0, rfl, ob, hge, bel⟩
  replace E := W_hid (E.out.call bel ob hge)
  clear ob hge bel c0 d0 f0
  have d0 := E.out.rest.fz
  have f0 := E.out.rest.cell (j := 4) rfl
  replace E := W_hid (E.out.store 4 (.string { data := #[] }))
  go_wp2_with fail
  rw [rounds_succ]
  have x0 := E.out.rest.cell (j := 0) rfl
  have x1 := E.out.rest.cell (j := 1) rfl
  have x2 := E.out.rest.cell (j := 2) rfl
  have x3 := E.out.rest.cell (j := 3) rfl
  have x4 := E.out.rest.cell (j := 4) rfl
  have x5 := E.out.rest.cell (j := 5) rfl
  cases hq : blk [116] [n0, n1, n2] [s0, s1] with
  | false =>
    rw [hq] at hnb
    have he := hne true hnb
    have hf : Hid (fits [116] [n0, n1, n2] [s0, s1] = false) := by
      unfold fits
      rw [hq, Bool.and_false]
      exact rfl
    replace hq := W_hid hq
    clear hnb hne
    go_wp2_with fail
    go_ret2
    exact ⟨by rw [hR.out.1, hR.out.2, hf.out]; rfl, E.out.below⟩
  | true =>
    rw [hq] at hnb
    have he := hne false hnb
    have hfx : Hid (fits [116] [n0, n1, n2] [s0, s1] = decide (8 + (body [116] [n0, n1, n2] [s0, s1]).length ≤ 8192)) := by
      unfold fits
      rw [hq, Bool.and_true]
      exact rfl
    replace hq := W_hid hq
    clear hnb hne
    by_cases hbig : 8192 < N0
    · have hf : Hid (fits [116] [n0, n1, n2] [s0, s1] = false) := by
        unfold fits
        rw [hln.out, decide_eq_false (by have q0 := hN0.out; omega)]; rfl
      go_wp2_with fail
      go_ret2
      exact ⟨by rw [hR.out.1, hR.out.2, hf.out]; rfl, E.out.below⟩
    have hft : Hid (fits [116] [n0, n1, n2] [s0, s1] = true) := by
      rw [hfx.out, hln.out, decide_eq_true (by have q0 := hN0.out; omega)]
      exact rfl
    have hcv := conv_strC E.out.ob
    go_wp2_with fail
    go_ret2
    exact ⟨by rw [hR.out.1, hR.out.2, hft.out, if_pos rfl, if_pos rfl, hbd.out]; simp only [List.append_assoc, List.append_nil]; try rfl, E.out.below⟩
set_option maxRecDepth 100000 in
set_option maxHeartbeats 4000000 in
theorem renc_tt (no n0 n1 n2 : Int) (s0 s1 : ByteArray) (h : shI no = some (bs [116, 116])) (h0 : -9223372036854775808 ≤ no) (h1 : no ≤ 9223372036854775807) (m0 : s0.size ≤ maxLen) (m1 : s1.size ≤ maxLen) (w : World) :
    Calls Try.prog 12 #[.agg (cl no n0 n1 n2 s0 s1).toArray] w fun e w' => e = .returned (.tuple #[.string (encS no [n0, n1, n2] [s0, s1]), .int .i64 (encE no [n0, n1, n2] [s0, s1])]) ∧ Below w.heap.size w w' := by
  have cu := conv_u64 no
  have cu0 := conv_u64' n0
  have cu1 := conv_u64' n1
  have cu2 := conv_u64' n2
  have hR : Hid (encS no [n0, n1, n2] [s0, s1] = (if fits [116, 116] [n0, n1, n2] [s0, s1] = true then strOf (le 8 (un no) ++ body [116, 116] [n0, n1, n2] [s0, s1]) else ByteArray.empty) ∧ encE no [n0, n1, n2] [s0, s1] = (if fits [116, 116] [n0, n1, n2] [s0, s1] = true then 0 else 2)) := enc_some h [n0, n1, n2] [s0, s1]
  replace h := W_hid h
  have bb : Below w.heap.size w (w.alloc (.cells (cl no n0 n1 n2 s0 s1).toArray 25)) := (Below.refl _ _).alloc (Nat.le_refl _) _
  have hB : Blk (w.alloc (.cells (cl no n0 n1 n2 s0 s1).toArray 25)) w.heap.size 25 (cl no n0 n1 n2 s0 s1) := Blk.new w _ _ rfl
  have hbd : Hid (body [116, 116] [n0, n1, n2] [s0, s1] = ((le 4 s0.size ++ s0.data.toList) ++ ((le 4 s1.size ++ s1.data.toList) ++ []))) := rfl
  have hln : Hid (8 + (body [116, 116] [n0, n1, n2] [s0, s1]).length = 8 + (4 + s0.size) + (4 + s1.size)) := W_hid (by rw [hbd.out]; simp only [List.length_append, le_length, List.length_nil, Array.length_toList]; all_goals (try simp only [ByteArray.size]); all_goals (try omega))
  have hbk : Hid (blk [116, 116] [n0, n1, n2] [s0, s1] = (([n0, n1, n2] : List Int).all (· == 0) && ([] : List ByteArray).all (fun s => s.size == 0))) := rfl
  have hne := fun q hq => call_neq 0 n0 n1 n2 0 0 0 0 { data := #[] } { data := #[] } { data := #[] } { data := #[] } q hq
  have hnb : (!(blk [116, 116] [n0, n1, n2] [s0, s1])) = true ↔ ¬ ((0 : Int) = 0 ∧ (n0 : Int) = 0 ∧ (n1 : Int) = 0 ∧ (n2 : Int) = 0 ∧ ({ data := #[] } : ByteArray) = { data := #[] } ∧ ({ data := #[] } : ByteArray) = { data := #[] }) := by
    rw [hbk.out, Bool.not_eq_true', ← Bool.not_eq_true]
    refine not_congr ?_
    simp only [List.all_cons, List.all_nil, Bool.and_true, Bool.true_and, Bool.and_eq_true, beq_iff_eq, size_zero, and_assoc, true_and, and_true]
  unfold cl
  unfold cl at hB bb
  unfold maxLen at m0 m1
  go_enter Try.func12, Try.ntmps12
  go_wp2_with fail
  refine (rShape_some h.out h0 h1 _).mono ?_
  rintro e w1 ⟨rfl, hw1⟩
  have c0 := hB.cell (j := 0) rfl
  have c1 := hB.cell (j := 1) rfl
  have c2 := hB.cell (j := 2) rfl
  have c3 := hB.cell (j := 3) rfl
  have c4 := hB.cell (j := 4) rfl
  have c5 := hB.cell (j := 5) rfl
  rw [hw1] at c0 c1 c2 c3 c4 c5 hB bb
  clear hw1
  have hA := hB.alloc (.cells #[.int .i64 0, .int .i64 n0, .int .i64 n1, .int .i64 n2, .string s0, .string s1] 25)
  have d0 := hA.cell (j := 0) rfl
  have hL := hB.lt
  have bA := bb.alloc bb.size (.cells #[.int .i64 0, .int .i64 n0, .int .i64 n1, .int .i64 n2, .string s0, .string s1] 25)
  have rA : Blk (w1.alloc (.cells #[.int .i64 0, .int .i64 n0, .int .i64 n1, .int .i64 n2, .string s0, .string s1] 25)) w1.heap.size 25 [.int .i64 0, .int .i64 n0, .int .i64 n1, .int .i64 n2, .string s0, .string s1] := Blk.new _ _ _ rfl
  replace hA := W_hid hA
  replace rA := W_hid rA
  replace bA := W_hid bA
  clear hB bb
  go_wp2_with fail
  refine (rNum_first _ (un_lt no) _).mono ?_
  rintro e w2 ⟨g2, rfl, hO, hge, bel2⟩
  obtain ⟨r, hr⟩ : ∃ r, r = w1.heap.size := ⟨_, rfl⟩
  have E : RE w w2 [.int .i64 no, .int .i64 n0, .int .i64 n1, .int .i64 n2, .string s0, .string s1] [.int .i64 0, .int .i64 n0, .int .i64 n1, .int .i64 n2, .string s0, .string s1] r g2 8 8 (le 8 (un no)) := by
    subst hr
    exact ⟨bA.out.trans (bel2.mono bA.out.size), hA.out.keep bel2, rA.out.keep bel2, hO, hL, by simp at hge; omega⟩
  rw [← hr]
  replace E := W_hid E
  clear c0 c1 c2 c3 c4 c5 d0 hA rA bA hO hge bel2 hL hr
  go_wp2_with fail
  refine wp_loop_rounds 4 ?_
  rw [rounds_succ]
  have c0 := E.out.row.cell (j := 4) rfl
  have d0 := E.out.rest.fz
  have f0 := E.out.rest.cell (j := 4) rfl
  by_cases hl0 : 8192 < s0.size
  · have hf : Hid (fits [116, 116] [n0, n1, n2] [s0, s1] = false) := by
      unfold fits
      rw [hln.out, decide_eq_false (by omega)]; rfl
    go_wp2_with fail
    go_ret2
    exact ⟨by rw [hR.out.1, hR.out.2, hf.out]; rfl, E.out.below⟩
  obtain ⟨N0, hN0⟩ : ∃ N, Hid (N = 8 + (4 + s0.size)) := ⟨_, W_hid rfl⟩
  go_wp2_with fail
  refine (rTxt_yes E.out.ob s0 (by omega) (by omega) N0 hN0.out).mono ?_
  rintro e W0 ⟨g3, cc0, rfl, ob, hge, bel⟩
  replace E := W_hid (E.out.call bel ob hge)
  clear ob hge bel c0 d0 f0
  have d0 := E.out.rest.fz
  have f0 := E.out.rest.cell (j := 4) rfl
  replace E := W_hid (E.out.store 4 (.string { data := #[] }))
  go_wp2_with fail
  rw [rounds_succ]
  have c1 := E.out.row.cell (j := 5) rfl
  have d1 := E.out.rest.fz
  have f1 := E.out.rest.cell (j := 5) rfl
  by_cases hl1 : 8192 < s1.size
  · have hf : Hid (fits [116, 116] [n0, n1, n2] [s0, s1] = false) := by
      unfold fits
      rw [hln.out, decide_eq_false (by omega)]; rfl
    go_wp2_with fail
    go_ret2
    exact ⟨by rw [hR.out.1, hR.out.2, hf.out]; rfl, E.out.below⟩
  obtain ⟨N1, hN1⟩ : ∃ N, Hid (N = N0 + (4 + s1.size)) := ⟨_, W_hid rfl⟩
  go_wp2_with fail
  refine (rTxt_yes E.out.ob s1 (by omega) (by have q0 := hN0.out; omega) N1 hN1.out).mono ?_
  rintro e W1 ⟨g4, cc1, rfl, ob, hge, bel⟩
  replace E := W_hid (E.out.call bel ob hge)
  clear ob hge bel c1 d1 f1
  have d1 := E.out.rest.fz
  have f1 := E.out.rest.cell (j := 5) rfl
  replace E := W_hid (E.out.store 5 (.string { data := #[] }))
  go_wp2_with fail
  rw [rounds_succ]
  have x0 := E.out.rest.cell (j := 0) rfl
  have x1 := E.out.rest.cell (j := 1) rfl
  have x2 := E.out.rest.cell (j := 2) rfl
  have x3 := E.out.rest.cell (j := 3) rfl
  have x4 := E.out.rest.cell (j := 4) rfl
  have x5 := E.out.rest.cell (j := 5) rfl
  cases hq : blk [116, 116] [n0, n1, n2] [s0, s1] with
  | false =>
    rw [hq] at hnb
    have he := hne true hnb
    have hf : Hid (fits [116, 116] [n0, n1, n2] [s0, s1] = false) := by
      unfold fits
      rw [hq, Bool.and_false]
      exact rfl
    replace hq := W_hid hq
    clear hnb hne
    go_wp2_with fail
    go_ret2
    exact ⟨by rw [hR.out.1, hR.out.2, hf.out]; rfl, E.out.below⟩
  | true =>
    rw [hq] at hnb
    have he := hne false hnb
    have hfx : Hid (fits [116, 116] [n0, n1, n2] [s0, s1] = decide (8 + (body [116, 116] [n0, n1, n2] [s0, s1]).length ≤ 8192)) := by
      unfold fits
      rw [hq, Bool.and_true]
      exact rfl
    replace hq := W_hid hq
    clear hnb hne
    by_cases hbig : 8192 < N1
    · have hf : Hid (fits [116, 116] [n0, n1, n2] [s0, s1] = false) := by
        unfold fits
        rw [hln.out, decide_eq_false (by have q0 := hN0.out; have q1 := hN1.out; omega)]; rfl
      go_wp2_with fail
      go_ret2
      exact ⟨by rw [hR.out.1, hR.out.2, hf.out]; rfl, E.out.below⟩
    have hft : Hid (fits [116, 116] [n0, n1, n2] [s0, s1] = true) := by
      rw [hfx.out, hln.out, decide_eq_true (by have q0 := hN0.out; have q1 := hN1.out; omega)]
      exact rfl
    have hcv := conv_strC E.out.ob
    go_wp2_with fail
    go_ret2
    exact ⟨by rw [hR.out.1, hR.out.2, hft.out, if_pos rfl, if_pos rfl, hbd.out]; simp only [List.append_assoc, List.append_nil]; try rfl, E.out.below⟩
set_option maxRecDepth 100000 in
set_option maxHeartbeats 4000000 in
theorem renc_o (no n0 n1 n2 : Int) (s0 s1 : ByteArray) (h : shI no = some (bs [])) (h0 : -9223372036854775808 ≤ no) (h1 : no ≤ 9223372036854775807) (m0 : s0.size ≤ maxLen) (m1 : s1.size ≤ maxLen) (w : World) :
    Calls Try.prog 12 #[.agg (cl no n0 n1 n2 s0 s1).toArray] w fun e w' => e = .returned (.tuple #[.string (encS no [n0, n1, n2] [s0, s1]), .int .i64 (encE no [n0, n1, n2] [s0, s1])]) ∧ Below w.heap.size w w' := by
  have cu := conv_u64 no
  have cu0 := conv_u64' n0
  have cu1 := conv_u64' n1
  have cu2 := conv_u64' n2
  have hR : Hid (encS no [n0, n1, n2] [s0, s1] = (if fits [] [n0, n1, n2] [s0, s1] = true then strOf (le 8 (un no) ++ body [] [n0, n1, n2] [s0, s1]) else ByteArray.empty) ∧ encE no [n0, n1, n2] [s0, s1] = (if fits [] [n0, n1, n2] [s0, s1] = true then 0 else 2)) := enc_some h [n0, n1, n2] [s0, s1]
  replace h := W_hid h
  have bb : Below w.heap.size w (w.alloc (.cells (cl no n0 n1 n2 s0 s1).toArray 25)) := (Below.refl _ _).alloc (Nat.le_refl _) _
  have hB : Blk (w.alloc (.cells (cl no n0 n1 n2 s0 s1).toArray 25)) w.heap.size 25 (cl no n0 n1 n2 s0 s1) := Blk.new w _ _ rfl
  have hbd : Hid (body [] [n0, n1, n2] [s0, s1] = []) := rfl
  have hln : Hid (8 + (body [] [n0, n1, n2] [s0, s1]).length = 8) := W_hid (by rw [hbd.out]; simp only [List.length_append, le_length, List.length_nil, Array.length_toList]; all_goals (try simp only [ByteArray.size]); all_goals (try omega))
  have hbk : Hid (blk [] [n0, n1, n2] [s0, s1] = (([n0, n1, n2] : List Int).all (· == 0) && ([s0, s1] : List ByteArray).all (fun s => s.size == 0))) := rfl
  have hne := fun q hq => call_neq 0 n0 n1 n2 0 0 0 0 s0 s1 { data := #[] } { data := #[] } q hq
  have hnb : (!(blk [] [n0, n1, n2] [s0, s1])) = true ↔ ¬ ((0 : Int) = 0 ∧ (n0 : Int) = 0 ∧ (n1 : Int) = 0 ∧ (n2 : Int) = 0 ∧ (s0 : ByteArray) = { data := #[] } ∧ (s1 : ByteArray) = { data := #[] }) := by
    rw [hbk.out, Bool.not_eq_true', ← Bool.not_eq_true]
    refine not_congr ?_
    simp only [List.all_cons, List.all_nil, Bool.and_true, Bool.true_and, Bool.and_eq_true, beq_iff_eq, size_zero, and_assoc, true_and, and_true]
  unfold cl
  unfold cl at hB bb
  unfold maxLen at m0 m1
  go_enter Try.func12, Try.ntmps12
  go_wp2_with fail
  refine (rShape_some h.out h0 h1 _).mono ?_
  rintro e w1 ⟨rfl, hw1⟩
  have c0 := hB.cell (j := 0) rfl
  have c1 := hB.cell (j := 1) rfl
  have c2 := hB.cell (j := 2) rfl
  have c3 := hB.cell (j := 3) rfl
  have c4 := hB.cell (j := 4) rfl
  have c5 := hB.cell (j := 5) rfl
  rw [hw1] at c0 c1 c2 c3 c4 c5 hB bb
  clear hw1
  have hA := hB.alloc (.cells #[.int .i64 0, .int .i64 n0, .int .i64 n1, .int .i64 n2, .string s0, .string s1] 25)
  have d0 := hA.cell (j := 0) rfl
  have hL := hB.lt
  have bA := bb.alloc bb.size (.cells #[.int .i64 0, .int .i64 n0, .int .i64 n1, .int .i64 n2, .string s0, .string s1] 25)
  have rA : Blk (w1.alloc (.cells #[.int .i64 0, .int .i64 n0, .int .i64 n1, .int .i64 n2, .string s0, .string s1] 25)) w1.heap.size 25 [.int .i64 0, .int .i64 n0, .int .i64 n1, .int .i64 n2, .string s0, .string s1] := Blk.new _ _ _ rfl
  replace hA := W_hid hA
  replace rA := W_hid rA
  replace bA := W_hid bA
  clear hB bb
  go_wp2_with fail
  refine (rNum_first _ (un_lt no) _).mono ?_
  rintro e w2 ⟨g2, rfl, hO, hge, bel2⟩
  obtain ⟨r, hr⟩ : ∃ r, r = w1.heap.size := ⟨_, rfl⟩
  have E : RE w w2 [.int .i64 no, .int .i64 n0, .int .i64 n1, .int .i64 n2, .string s0, .string s1] [.int .i64 0, .int .i64 n0, .int .i64 n1, .int .i64 n2, .string s0, .string s1] r g2 8 8 (le 8 (un no)) := by
    subst hr
    exact ⟨bA.out.trans (bel2.mono bA.out.size), hA.out.keep bel2, rA.out.keep bel2, hO, hL, by simp at hge; omega⟩
  rw [← hr]
  replace E := W_hid E
  clear c0 c1 c2 c3 c4 c5 d0 hA rA bA hO hge bel2 hL hr
  go_wp2_with fail
  refine wp_loop_rounds 2 ?_
  rw [rounds_succ]
  have x0 := E.out.rest.cell (j := 0) rfl
  have x1 := E.out.rest.cell (j := 1) rfl
  have x2 := E.out.rest.cell (j := 2) rfl
  have x3 := E.out.rest.cell (j := 3) rfl
  have x4 := E.out.rest.cell (j := 4) rfl
  have x5 := E.out.rest.cell (j := 5) rfl
  cases hq : blk [] [n0, n1, n2] [s0, s1] with
  | false =>
    rw [hq] at hnb
    have he := hne true hnb
    have hf : Hid (fits [] [n0, n1, n2] [s0, s1] = false) := by
      unfold fits
      rw [hq, Bool.and_false]
      exact rfl
    replace hq := W_hid hq
    clear hnb hne
    go_wp2_with fail
    go_ret2
    exact ⟨by rw [hR.out.1, hR.out.2, hf.out]; rfl, E.out.below⟩
  | true =>
    rw [hq] at hnb
    have he := hne false hnb
    have hfx : Hid (fits [] [n0, n1, n2] [s0, s1] = decide (8 + (body [] [n0, n1, n2] [s0, s1]).length ≤ 8192)) := by
      unfold fits
      rw [hq, Bool.and_true]
      exact rfl
    replace hq := W_hid hq
    clear hnb hne
    have hbig : ¬ 8192 < 8 := by decide
    have hft : Hid (fits [] [n0, n1, n2] [s0, s1] = true) := by
      rw [hfx.out, hln.out, decide_eq_true (by omega)]
      exact rfl
    have hcv := conv_strC E.out.ob
    go_wp2_with fail
    go_ret2
    exact ⟨by rw [hR.out.1, hR.out.2, hft.out, if_pos rfl, if_pos rfl, hbd.out]; simp only [List.append_assoc, List.append_nil]; try rfl, E.out.below⟩
end CA
end Go.Proofs.Ytmhikoblaejhhaa

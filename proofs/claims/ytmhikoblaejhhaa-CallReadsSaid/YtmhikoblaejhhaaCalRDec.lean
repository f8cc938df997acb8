/- The document's Decode, for each shape. -/
import Derived.Test.YtmhikoblaejhhaaCalDec
namespace Go.Proofs.Ytmhikoblaejhhaa
open Go.ChangeShapes Go.WideShapes Go.ChangeAt Go.RowKit Go.Maps
set_option linter.unusedVariables false
set_option linter.unusedSimpArgs false
set_option maxRecDepth 100000
namespace CA
set_option maxRecDepth 100000 in
set_option maxHeartbeats 4000000 in
theorem rdec_tn (s : ByteArray) (k : Nat) (h : shp k = some (bs [116, 110])) (hk : num (s.data.toList.take 8) = k) (hk25 : k ≤ 25) (hs1 : s.size ≤ 8192) (hs2 : 8 ≤ s.size) (w : World) :
    Calls Try.prog 14 #[.string s] w fun e w' => e = .returned (.tuple #[.agg (decQ s).2.toArray, .int .i64 (decQ s).1]) ∧ Below w.heap.size w w' := by
  have hlen : s.data.toList.length = s.size := by rw [Array.length_toList]; rfl
  have hR := decQ_some hs1 hs2 hk h
  have hbs : (bs [116, 110]).data.toList = [116, 110] := rfl
  rw [hbs] at hR
  replace hR := W_hid hR
  have hn0 : nvl s.data.toList 0 = k := by unfold nvl; rw [if_pos (by omega), List.drop_zero, hk]
  have hx0 : nat_ s.data.toList 0 = 8 := by unfold nat_; rw [if_pos (by omega)]
  have hk0 : nok s.data.toList 0 = true := by unfold nok; exact decide_eq_true (by omega)
  have h' : shI (k : Int) = some (bs [116, 110]) := by rw [shI_nat]; exact h
  replace h := W_hid h'
  replace hlen := W_hid hlen
  have hss : s.size ≤ maxLen := by unfold maxLen; omega
  replace hn0 := W_hid hn0
  replace hx0 := W_hid hx0
  replace hk0 := W_hid hk0
  clear hk h'
  have hci : ∀ W, (convert 49 3 (.int .u64 (k : Int))).run Try.prog W = .ok (.int .i64 (k : Int)) W := fun W => by
    have h1 : (convert 49 3 (.int .u64 (k : Int))).run Try.prog W = .ok (.int .i64 (IntKind.i64.wrap (k : Int))) W := by simp [go_sem]
    rw [h1, si_wrap (by omega), si, if_pos (by omega)]
  go_enter Try.func14, Try.ntmps14
  go_wp2_with (with_reducible show wpList _ _ _ _ _ _; refine wpList_bytes rfl _ rfl s rfl hss ?_; intro w1 hb c hBS bel1 hge hlt)
  have hres : Blk w1 w.heap.size 25 zc := (Blk.new w 25 zc rfl).keep bel1
  have bb : Below w.heap.size w w1 := ((Below.refl w.heap.size w).alloc (Nat.le_refl _) (.cells zc.toArray 25)).trans (Below.mono bel1 (by simp))
  have hgr : w.heap.size < hb := by simp at hge; omega
  refine (rTakeN_any _ _ _ _ 0 _ hBS (Nat.zero_le _)).mono ?_
  rintro e w2 ⟨rfl, bel2⟩
  rw [hn0.out, hx0.out, hk0.out]
  have E := pd_start2 hBS hres bb hgr hlt bel2 (k : Int)
  replace E := W_hid E
  clear hres bb bel1 hBS hge hlt bel2 hgr
  go_wp2_with fail
  refine (rShape_some h.out (by omega) (by omega) _).mono ?_
  rintro e w3 ⟨rfl, hw3⟩
  subst hw3
  go_wp2_with fail
  obtain ⟨cb, hcb⟩ : ∃ cb, cb = w2.heap.size := ⟨_, rfl⟩
  rw [← hcb] at E ⊢
  refine wp_world (fun W => QD w W hb s.size c s.data.toList cb [.int .i64 (k : Int), .int .i64 0, .int .i64 0, .int .i64 0, .string { data := #[] }, .string { data := #[] }]) E.out ?_
  clear E hcb
  intro W0 E
  replace E := W_hid E
  refine wp_loop_rounds 4 ?_
  rw [rounds_succ]
  go_wp2_with fail
  refine (rTakeT_any _ _ _ _ _ 8192 _ E.out.bytes (by omega)).mono ?_
  rintro e W1 ⟨rfl, bel⟩
  replace E := W_hid (E.out.keep bel)
  clear bel
  have fz := E.out.row.fz
  have oc := E.out.row.cell (j := 4) rfl
  have rz := E.out.res.fz
  have r0 := E.out.res.cell (j := 0) rfl
  have r1 := E.out.res.cell (j := 1) rfl
  have r2 := E.out.res.cell (j := 2) rfl
  have r3 := E.out.res.cell (j := 3) rfl
  have r4 := E.out.res.cell (j := 4) rfl
  have r5 := E.out.res.cell (j := 5) rfl
  cases q0 : tok s.data.toList 8 8192 with
  | false =>
    have q0 := W_hid q0
    have hA : Hid (decQ s = (2, zc)) := by
      show _ = _
      have hf : okR s.data.toList (rd [116, 110] s.data.toList 8 false) = false := by
        show (!((false || !tok s.data.toList 8 8192) || !nok s.data.toList (tat s.data.toList 8 8192)) && _) = false
        rw [q0.out]; simp
      rw [hR.out, hf]; rfl
    go_wp2_with fail
    refine bodyPost_ret (res_call rfl _ _ rfl (six_blk E.out.res _ _ _ _ _ _)) rfl ⟨by rw [hA.out]; rfl, six_below E.out.below (Nat.le_refl _) _ _ _ _ _ _⟩
  | true =>
  replace q0 := W_hid q0
  clear rz r0 r1 r2 r3 r4 r5
  replace E := W_hid (E.out.store 4 (.string (tvl s.data.toList 8 8192)))
  go_wp2_with fail
  clear fz oc
  rw [rounds_succ]
  go_wp2_with fail
  refine (rTakeN_any _ _ _ _ _ _ E.out.bytes (tat_le hlen.out _ _)).mono ?_
  rintro e W2 ⟨rfl, bel⟩
  replace E := W_hid (E.out.keep bel)
  clear bel
  have fz := E.out.row.fz
  have oc := E.out.row.cell (j := 1) rfl
  have rz := E.out.res.fz
  have r0 := E.out.res.cell (j := 0) rfl
  have r1 := E.out.res.cell (j := 1) rfl
  have r2 := E.out.res.cell (j := 2) rfl
  have r3 := E.out.res.cell (j := 3) rfl
  have r4 := E.out.res.cell (j := 4) rfl
  have r5 := E.out.res.cell (j := 5) rfl
  cases q1 : nok s.data.toList (tat s.data.toList 8 8192) with
  | false =>
    have q1 := W_hid q1
    have hA : Hid (decQ s = (2, zc)) := by
      show _ = _
      have hf : okR s.data.toList (rd [116, 110] s.data.toList 8 false) = false := by
        show (!((false || !tok s.data.toList 8 8192) || !nok s.data.toList (tat s.data.toList 8 8192)) && _) = false
        rw [q1.out]; simp
      rw [hR.out, hf]; rfl
    go_wp2_with fail
    refine bodyPost_ret (res_call rfl _ _ rfl (six_blk E.out.res _ _ _ _ _ _)) rfl ⟨by rw [hA.out]; rfl, six_below E.out.below (Nat.le_refl _) _ _ _ _ _ _⟩
  | true =>
  replace q1 := W_hid q1
  clear rz r0 r1 r2 r3 r4 r5
  have cv := conv_i64 (nvl s.data.toList (tat s.data.toList 8 8192)) (nvl_lt _ _)
  replace E := W_hid (E.out.store 1 (.int .i64 (si (nvl s.data.toList (tat s.data.toList 8 8192)))))
  go_wp2_with fail
  clear cv fz oc
  rw [rounds_succ]
  refine wp_world (fun W => QD w W hb s.size c s.data.toList cb _) E.out ?_
  clear E
  intro WW E
  have rz := E.res.fz
  have r0 := E.res.cell (j := 0) rfl
  have r1 := E.res.cell (j := 1) rfl
  have r2 := E.res.cell (j := 2) rfl
  have r3 := E.res.cell (j := 3) rfl
  have r4 := E.res.cell (j := 4) rfl
  have r5 := E.res.cell (j := 5) rfl
  have y0 := E.row.cell (j := 0) rfl
  have y1 := E.row.cell (j := 1) rfl
  have y2 := E.row.cell (j := 2) rfl
  have y3 := E.row.cell (j := 3) rfl
  have y4 := E.row.cell (j := 4) rfl
  have y5 := E.row.cell (j := 5) rfl
  replace E := W_hid E
  obtain ⟨XX, hXX⟩ : ∃ XX, (nat_ s.data.toList (tat s.data.toList 8 8192)) = XX := ⟨_, rfl⟩
  rw [hXX]
  by_cases hx : XX = s.size
  · have hA : Hid (decQ s = (0, callOf k (rd [116, 110] s.data.toList 8 false))) := by
      show _ = _
      have hf : okR s.data.toList (rd [116, 110] s.data.toList 8 false) = true := by
        show (!((false || !tok s.data.toList 8 8192) || !nok s.data.toList (tat s.data.toList 8 8192)) && decide ((nat_ s.data.toList (tat s.data.toList 8 8192)) = s.data.toList.length)) = true
        rw [hXX, hx]
        rw [q0.out, q1.out, hlen.out]; simp
      rw [hR.out, hf]; rfl
    go_wp2_with fail
    refine bodyPost_ret (res_call rfl _ _ rfl (six_blk E.out.res _ _ _ _ _ _)) rfl ⟨by rw [hA.out]; rfl, six_below E.out.below (Nat.le_refl _) _ _ _ _ _ _⟩
  · have hA : Hid (decQ s = (2, zc)) := by
      show _ = _
      have hf : okR s.data.toList (rd [116, 110] s.data.toList 8 false) = false := by
        show (!((false || !tok s.data.toList 8 8192) || !nok s.data.toList (tat s.data.toList 8 8192)) && decide ((nat_ s.data.toList (tat s.data.toList 8 8192)) = s.data.toList.length)) = false
        rw [hXX, hlen.out, decide_eq_false hx, Bool.and_false]
      rw [hR.out, hf]; rfl
    have hne : ¬ ((XX : Int) = (s.size : Int)) := by omega
    go_wp2_with fail
    refine bodyPost_ret (res_call rfl _ _ rfl (six_blk E.out.res _ _ _ _ _ _)) rfl ⟨by rw [hA.out]; rfl, six_below E.out.below (Nat.le_refl _) _ _ _ _ _ _⟩
set_option maxRecDepth 100000 in
set_option maxHeartbeats 4000000 in
theorem rdec_n (s : ByteArray) (k : Nat) (h : shp k = some (bs [110])) (hk : num (s.data.toList.take 8) = k) (hk25 : k ≤ 25) (hs1 : s.size ≤ 8192) (hs2 : 8 ≤ s.size) (w : World) :
    Calls Try.prog 14 #[.string s] w fun e w' => e = .returned (.tuple #[.agg (decQ s).2.toArray, .int .i64 (decQ s).1]) ∧ Below w.heap.size w w' := by
  have hlen : s.data.toList.length = s.size := by rw [Array.length_toList]; rfl
  have hR := decQ_some hs1 hs2 hk h
  have hbs : (bs [110]).data.toList = [110] := rfl
  rw [hbs] at hR
  replace hR := W_hid hR
  have hn0 : nvl s.data.toList 0 = k := by unfold nvl; rw [if_pos (by omega), List.drop_zero, hk]
  have hx0 : nat_ s.data.toList 0 = 8 := by unfold nat_; rw [if_pos (by omega)]
  have hk0 : nok s.data.toList 0 = true := by unfold nok; exact decide_eq_true (by omega)
  have h' : shI (k : Int) = some (bs [110]) := by rw [shI_nat]; exact h
  replace h := W_hid h'
  replace hlen := W_hid hlen
  have hss : s.size ≤ maxLen := by unfold maxLen; omega
  replace hn0 := W_hid hn0
  replace hx0 := W_hid hx0
  replace hk0 := W_hid hk0
  clear hk h'
  have hci : ∀ W, (convert 49 3 (.int .u64 (k : Int))).run Try.prog W = .ok (.int .i64 (k : Int)) W := fun W => by
    have h1 : (convert 49 3 (.int .u64 (k : Int))).run Try.prog W = .ok (.int .i64 (IntKind.i64.wrap (k : Int))) W := by simp [go_sem]
    rw [h1, si_wrap (by omega), si, if_pos (by omega)]
  go_enter Try.func14, Try.ntmps14
  go_wp2_with (with_reducible show wpList _ _ _ _ _ _; refine wpList_bytes rfl _ rfl s rfl hss ?_; intro w1 hb c hBS bel1 hge hlt)
  have hres : Blk w1 w.heap.size 25 zc := (Blk.new w 25 zc rfl).keep bel1
  have bb : Below w.heap.size w w1 := ((Below.refl w.heap.size w).alloc (Nat.le_refl _) (.cells zc.toArray 25)).trans (Below.mono bel1 (by simp))
  have hgr : w.heap.size < hb := by simp at hge; omega
  refine (rTakeN_any _ _ _ _ 0 _ hBS (Nat.zero_le _)).mono ?_
  rintro e w2 ⟨rfl, bel2⟩
  rw [hn0.out, hx0.out, hk0.out]
  have E := pd_start2 hBS hres bb hgr hlt bel2 (k : Int)
  replace E := W_hid E
  clear hres bb bel1 hBS hge hlt bel2 hgr
  go_wp2_with fail
  refine (rShape_some h.out (by omega) (by omega) _).mono ?_
  rintro e w3 ⟨rfl, hw3⟩
  subst hw3
  go_wp2_with fail
  obtain ⟨cb, hcb⟩ : ∃ cb, cb = w2.heap.size := ⟨_, rfl⟩
  rw [← hcb] at E ⊢
  refine wp_world (fun W => QD w W hb s.size c s.data.toList cb [.int .i64 (k : Int), .int .i64 0, .int .i64 0, .int .i64 0, .string { data := #[] }, .string { data := #[] }]) E.out ?_
  clear E hcb
  intro W0 E
  replace E := W_hid E
  refine wp_loop_rounds 3 ?_
  rw [rounds_succ]
  go_wp2_with fail
  refine (rTakeN_any _ _ _ _ _ _ E.out.bytes (by omega)).mono ?_
  rintro e W1 ⟨rfl, bel⟩
  replace E := W_hid (E.out.keep bel)
  clear bel
  have fz := E.out.row.fz
  have oc := E.out.row.cell (j := 1) rfl
  have rz := E.out.res.fz
  have r0 := E.out.res.cell (j := 0) rfl
  have r1 := E.out.res.cell (j := 1) rfl
  have r2 := E.out.res.cell (j := 2) rfl
  have r3 := E.out.res.cell (j := 3) rfl
  have r4 := E.out.res.cell (j := 4) rfl
  have r5 := E.out.res.cell (j := 5) rfl
  cases q0 : nok s.data.toList 8 with
  | false =>
    have q0 := W_hid q0
    have hA : Hid (decQ s = (2, zc)) := by
      show _ = _
      have hf : okR s.data.toList (rd [110] s.data.toList 8 false) = false := by
        show (!(false || !nok s.data.toList 8) && _) = false
        rw [q0.out]; simp
      rw [hR.out, hf]; rfl
    go_wp2_with fail
    refine bodyPost_ret (res_call rfl _ _ rfl (six_blk E.out.res _ _ _ _ _ _)) rfl ⟨by rw [hA.out]; rfl, six_below E.out.below (Nat.le_refl _) _ _ _ _ _ _⟩
  | true =>
  replace q0 := W_hid q0
  clear rz r0 r1 r2 r3 r4 r5
  have cv := conv_i64 (nvl s.data.toList 8) (nvl_lt _ _)
  replace E := W_hid (E.out.store 1 (.int .i64 (si (nvl s.data.toList 8))))
  go_wp2_with fail
  clear cv fz oc
  rw [rounds_succ]
  refine wp_world (fun W => QD w W hb s.size c s.data.toList cb _) E.out ?_
  clear E
  intro WW E
  have rz := E.res.fz
  have r0 := E.res.cell (j := 0) rfl
  have r1 := E.res.cell (j := 1) rfl
  have r2 := E.res.cell (j := 2) rfl
  have r3 := E.res.cell (j := 3) rfl
  have r4 := E.res.cell (j := 4) rfl
  have r5 := E.res.cell (j := 5) rfl
  have y0 := E.row.cell (j := 0) rfl
  have y1 := E.row.cell (j := 1) rfl
  have y2 := E.row.cell (j := 2) rfl
  have y3 := E.row.cell (j := 3) rfl
  have y4 := E.row.cell (j := 4) rfl
  have y5 := E.row.cell (j := 5) rfl
  replace E := W_hid E
  obtain ⟨XX, hXX⟩ : ∃ XX, (nat_ s.data.toList 8) = XX := ⟨_, rfl⟩
  rw [hXX]
  by_cases hx : XX = s.size
  · have hA : Hid (decQ s = (0, callOf k (rd [110] s.data.toList 8 false))) := by
      show _ = _
      have hf : okR s.data.toList (rd [110] s.data.toList 8 false) = true := by
        show (!(false || !nok s.data.toList 8) && decide ((nat_ s.data.toList 8) = s.data.toList.length)) = true
        rw [hXX, hx]
        rw [q0.out, hlen.out]; simp
      rw [hR.out, hf]; rfl
    go_wp2_with fail
    refine bodyPost_ret (res_call rfl _ _ rfl (six_blk E.out.res _ _ _ _ _ _)) rfl ⟨by rw [hA.out]; rfl, six_below E.out.below (Nat.le_refl _) _ _ _ _ _ _⟩
  · have hA : Hid (decQ s = (2, zc)) := by
      show _ = _
      have hf : okR s.data.toList (rd [110] s.data.toList 8 false) = false := by
        show (!(false || !nok s.data.toList 8) && decide ((nat_ s.data.toList 8) = s.data.toList.length)) = false
        rw [hXX, hlen.out, decide_eq_false hx, Bool.and_false]
      rw [hR.out, hf]; rfl
    have hne : ¬ ((XX : Int) = (s.size : Int)) := by omega
    go_wp2_with fail
    refine bodyPost_ret (res_call rfl _ _ rfl (six_blk E.out.res _ _ _ _ _ _)) rfl ⟨by rw [hA.out]; rfl, six_below E.out.below (Nat.le_refl _) _ _ _ _ _ _⟩
set_option maxRecDepth 100000 in
set_option maxHeartbeats 4000000 in
theorem rdec_nn (s : ByteArray) (k : Nat) (h : shp k = some (bs [110, 110])) (hk : num (s.data.toList.take 8) = k) (hk25 : k ≤ 25) (hs1 : s.size ≤ 8192) (hs2 : 8 ≤ s.size) (w : World) :
    Calls Try.prog 14 #[.string s] w fun e w' => e = .returned (.tuple #[.agg (decQ s).2.toArray, .int .i64 (decQ s).1]) ∧ Below w.heap.size w w' := by
  have hlen : s.data.toList.length = s.size := by rw [Array.length_toList]; rfl
  have hR := decQ_some hs1 hs2 hk h
  have hbs : (bs [110, 110]).data.toList = [110, 110] := rfl
  rw [hbs] at hR
  replace hR := W_hid hR
  have hn0 : nvl s.data.toList 0 = k := by unfold nvl; rw [if_pos (by omega), List.drop_zero, hk]
  have hx0 : nat_ s.data.toList 0 = 8 := by unfold nat_; rw [if_pos (by omega)]
  have hk0 : nok s.data.toList 0 = true := by unfold nok; exact decide_eq_true (by omega)
  have h' : shI (k : Int) = some (bs [110, 110]) := by rw [shI_nat]; exact h
  replace h := W_hid h'
  replace hlen := W_hid hlen
  have hss : s.size ≤ maxLen := by unfold maxLen; omega
  replace hn0 := W_hid hn0
  replace hx0 := W_hid hx0
  replace hk0 := W_hid hk0
  clear hk h'
  have hci : ∀ W, (convert 49 3 (.int .u64 (k : Int))).run Try.prog W = .ok (.int .i64 (k : Int)) W := fun W => by
    have h1 : (convert 49 3 (.int .u64 (k : Int))).run Try.prog W = .ok (.int .i64 (IntKind.i64.wrap (k : Int))) W := by simp [go_sem]
    rw [h1, si_wrap (by omega), si, if_pos (by omega)]
  go_enter Try.func14, Try.ntmps14
  go_wp2_with (with_reducible show wpList _ _ _ _ _ _; refine wpList_bytes rfl _ rfl s rfl hss ?_; intro w1 hb c hBS bel1 hge hlt)
  have hres : Blk w1 w.heap.size 25 zc := (Blk.new w 25 zc rfl).keep bel1
  have bb : Below w.heap.size w w1 := ((Below.refl w.heap.size w).alloc (Nat.le_refl _) (.cells zc.toArray 25)).trans (Below.mono bel1 (by simp))
  have hgr : w.heap.size < hb := by simp at hge; omega
  refine (rTakeN_any _ _ _ _ 0 _ hBS (Nat.zero_le _)).mono ?_
  rintro e w2 ⟨rfl, bel2⟩
  rw [hn0.out, hx0.out, hk0.out]
  have E := pd_start2 hBS hres bb hgr hlt bel2 (k : Int)
  replace E := W_hid E
  clear hres bb bel1 hBS hge hlt bel2 hgr
  go_wp2_with fail
  refine (rShape_some h.out (by omega) (by omega) _).mono ?_
  rintro e w3 ⟨rfl, hw3⟩
  subst hw3
  go_wp2_with fail
  obtain ⟨cb, hcb⟩ : ∃ cb, cb = w2.heap.size := ⟨_, rfl⟩
  rw [← hcb] at E ⊢
  refine wp_world (fun W => QD w W hb s.size c s.data.toList cb [.int .i64 (k : Int), .int .i64 0, .int .i64 0, .int .i64 0, .string { data := #[] }, .string { data := #[] }]) E.out ?_
  clear E hcb
  intro W0 E
  replace E := W_hid E
  refine wp_loop_rounds 4 ?_
  rw [rounds_succ]
  go_wp2_with fail
  refine (rTakeN_any _ _ _ _ _ _ E.out.bytes (by omega)).mono ?_
  rintro e W1 ⟨rfl, bel⟩
  replace E := W_hid (E.out.keep bel)
  clear bel
  have fz := E.out.row.fz
  have oc := E.out.row.cell (j := 1) rfl
  have rz := E.out.res.fz
  have r0 := E.out.res.cell (j := 0) rfl
  have r1 := E.out.res.cell (j := 1) rfl
  have r2 := E.out.res.cell (j := 2) rfl
  have r3 := E.out.res.cell (j := 3) rfl
  have r4 := E.out.res.cell (j := 4) rfl
  have r5 := E.out.res.cell (j := 5) rfl
  cases q0 : nok s.data.toList 8 with
  | false =>
    have q0 := W_hid q0
    have hA : Hid (decQ s = (2, zc)) := by
      show _ = _
      have hf : okR s.data.toList (rd [110, 110] s.data.toList 8 false) = false := by
        show (!((false || !nok s.data.toList 8) || !nok s.data.toList (nat_ s.data.toList 8)) && _) = false
        rw [q0.out]; simp
      rw [hR.out, hf]; rfl
    go_wp2_with fail
    refine bodyPost_ret (res_call rfl _ _ rfl (six_blk E.out.res _ _ _ _ _ _)) rfl ⟨by rw [hA.out]; rfl, six_below E.out.below (Nat.le_refl _) _ _ _ _ _ _⟩
  | true =>
  replace q0 := W_hid q0
  clear rz r0 r1 r2 r3 r4 r5
  have cv := conv_i64 (nvl s.data.toList 8) (nvl_lt _ _)
  replace E := W_hid (E.out.store 1 (.int .i64 (si (nvl s.data.toList 8))))
  go_wp2_with fail
  clear cv fz oc
  rw [rounds_succ]
  go_wp2_with fail
  refine (rTakeN_any _ _ _ _ _ _ E.out.bytes (nat_le hlen.out _)).mono ?_
  rintro e W2 ⟨rfl, bel⟩
  replace E := W_hid (E.out.keep bel)
  clear bel
  have fz := E.out.row.fz
  have oc := E.out.row.cell (j := 2) rfl
  have rz := E.out.res.fz
  have r0 := E.out.res.cell (j := 0) rfl
  have r1 := E.out.res.cell (j := 1) rfl
  have r2 := E.out.res.cell (j := 2) rfl
  have r3 := E.out.res.cell (j := 3) rfl
  have r4 := E.out.res.cell (j := 4) rfl
  have r5 := E.out.res.cell (j := 5) rfl
  cases q1 : nok s.data.toList (nat_ s.data.toList 8) with
  | false =>
    have q1 := W_hid q1
    have hA : Hid (decQ s = (2, zc)) := by
      show _ = _
      have hf : okR s.data.toList (rd [110, 110] s.data.toList 8 false) = false := by
        show (!((false || !nok s.data.toList 8) || !nok s.data.toList (nat_ s.data.toList 8)) && _) = false
        rw [q1.out]; simp
      rw [hR.out, hf]; rfl
    go_wp2_with fail
    refine bodyPost_ret (res_call rfl _ _ rfl (six_blk E.out.res _ _ _ _ _ _)) rfl ⟨by rw [hA.out]; rfl, six_below E.out.below (Nat.le_refl _) _ _ _ _ _ _⟩
  | true =>
  replace q1 := W_hid q1
  clear rz r0 r1 r2 r3 r4 r5
  have cv := conv_i64 (nvl s.data.toList (nat_ s.data.toList 8)) (nvl_lt _ _)
  replace E := W_hid (E.out.store 2 (.int .i64 (si (nvl s.data.toList (nat_ s.data.toList 8)))))
  go_wp2_with fail
  clear cv fz oc
  rw [rounds_succ]
  refine wp_world (fun W => QD w W hb s.size c s.data.toList cb _) E.out ?_
  clear E
  intro WW E
  have rz := E.res.fz
  have r0 := E.res.cell (j := 0) rfl
  have r1 := E.res.cell (j := 1) rfl
  have r2 := E.res.cell (j := 2) rfl
  have r3 := E.res.cell (j := 3) rfl
  have r4 := E.res.cell (j := 4) rfl
  have r5 := E.res.cell (j := 5) rfl
  have y0 := E.row.cell (j := 0) rfl
  have y1 := E.row.cell (j := 1) rfl
  have y2 := E.row.cell (j := 2) rfl
  have y3 := E.row.cell (j := 3) rfl
  have y4 := E.row.cell (j := 4) rfl
  have y5 := E.row.cell (j := 5) rfl
  replace E := W_hid E
  obtain ⟨XX, hXX⟩ : ∃ XX, (nat_ s.data.toList (nat_ s.data.toList 8)) = XX := ⟨_, rfl⟩
  rw [hXX]
  by_cases hx : XX = s.size
  · have hA : Hid (decQ s = (0, callOf k (rd [110, 110] s.data.toList 8 false))) := by
      show _ = _
      have hf : okR s.data.toList (rd [110, 110] s.data.toList 8 false) = true := by
        show (!((false || !nok s.data.toList 8) || !nok s.data.toList (nat_ s.data.toList 8)) && decide ((nat_ s.data.toList (nat_ s.data.toList 8)) = s.data.toList.length)) = true
        rw [hXX, hx]
        rw [q0.out, q1.out, hlen.out]; simp
      rw [hR.out, hf]; rfl
    go_wp2_with fail
    refine bodyPost_ret (res_call rfl _ _ rfl (six_blk E.out.res _ _ _ _ _ _)) rfl ⟨by rw [hA.out]; rfl, six_below E.out.below (Nat.le_refl _) _ _ _ _ _ _⟩
  · have hA : Hid (decQ s = (2, zc)) := by
      show _ = _
      have hf : okR s.data.toList (rd [110, 110] s.data.toList 8 false) = false := by
        show (!((false || !nok s.data.toList 8) || !nok s.data.toList (nat_ s.data.toList 8)) && decide ((nat_ s.data.toList (nat_ s.data.toList 8)) = s.data.toList.length)) = false
        rw [hXX, hlen.out, decide_eq_false hx, Bool.and_false]
      rw [hR.out, hf]; rfl
    have hne : ¬ ((XX : Int) = (s.size : Int)) := by omega
    go_wp2_with fail
    refine bodyPost_ret (res_call rfl _ _ rfl (six_blk E.out.res _ _ _ _ _ _)) rfl ⟨by rw [hA.out]; rfl, six_below E.out.below (Nat.le_refl _) _ _ _ _ _ _⟩
set_option maxRecDepth 100000 in
set_option maxHeartbeats 4000000 in
theorem rdec_nt (s : ByteArray) (k : Nat) (h : shp k = some (bs [110, 116])) (hk : num (s.data.toList.take 8) = k) (hk25 : k ≤ 25) (hs1 : s.size ≤ 8192) (hs2 : 8 ≤ s.size) (w : World) :
    Calls Try.prog 14 #[.string s] w fun e w' => e = .returned (.tuple #[.agg (decQ s).2.toArray, .int .i64 (decQ s).1]) ∧ Below w.heap.size w w' := by
  have hlen : s.data.toList.length = s.size := by rw [Array.length_toList]; rfl
  have hR := decQ_some hs1 hs2 hk h
  have hbs : (bs [110, 116]).data.toList = [110, 116] := rfl
  rw [hbs] at hR
  replace hR := W_hid hR
  have hn0 : nvl s.data.toList 0 = k := by unfold nvl; rw [if_pos (by omega), List.drop_zero, hk]
  have hx0 : nat_ s.data.toList 0 = 8 := by unfold nat_; rw [if_pos (by omega)]
  have hk0 : nok s.data.toList 0 = true := by unfold nok; exact decide_eq_true (by omega)
  have h' : shI (k : Int) = some (bs [110, 116]) := by rw [shI_nat]; exact h
  replace h := W_hid h'
  replace hlen := W_hid hlen
  have hss : s.size ≤ maxLen := by unfold maxLen; omega
  replace hn0 := W_hid hn0
  replace hx0 := W_hid hx0
  replace hk0 := W_hid hk0
  clear hk h'
  have hci : ∀ W, (convert 49 3 (.int .u64 (k : Int))).run Try.prog W = .ok (.int .i64 (k : Int)) W := fun W => by
    have h1 : (convert 49 3 (.int .u64 (k : Int))).run Try.prog W = .ok (.int .i64 (IntKind.i64.wrap (k : Int))) W := by simp [go_sem]
    rw [h1, si_wrap (by omega), si, if_pos (by omega)]
  go_enter Try.func14, Try.ntmps14
  go_wp2_with (with_reducible show wpList _ _ _ _ _ _; refine wpList_bytes rfl _ rfl s rfl hss ?_; intro w1 hb c hBS bel1 hge hlt)
  have hres : Blk w1 w.heap.size 25 zc := (Blk.new w 25 zc rfl).keep bel1
  have bb : Below w.heap.size w w1 := ((Below.refl w.heap.size w).alloc (Nat.le_refl _) (.cells zc.toArray 25)).trans (Below.mono bel1 (by simp))
  have hgr : w.heap.size < hb := by simp at hge; omega
  refine (rTakeN_any _ _ _ _ 0 _ hBS (Nat.zero_le _)).mono ?_
  rintro e w2 ⟨rfl, bel2⟩
  rw [hn0.out, hx0.out, hk0.out]
  have E := pd_start2 hBS hres bb hgr hlt bel2 (k : Int)
  replace E := W_hid E
  clear hres bb bel1 hBS hge hlt bel2 hgr
  go_wp2_with fail
  refine (rShape_some h.out (by omega) (by omega) _).mono ?_
  rintro e w3 ⟨rfl, hw3⟩
  subst hw3
  go_wp2_with fail
  obtain ⟨cb, hcb⟩ : ∃ cb, cb = w2.heap.size := ⟨_, rfl⟩
  rw [← hcb] at E ⊢
  refine wp_world (fun W => QD w W hb s.size c s.data.toList cb [.int .i64 (k : Int), .int .i64 0, .int .i64 0, .int .i64 0, .string { data := #[] }, .string { data := #[] }]) E.out ?_
  clear E hcb
  intro W0 E
  replace E := W_hid E
  refine wp_loop_rounds 4 ?_
  rw [rounds_succ]
  go_wp2_with fail
  refine (rTakeN_any _ _ _ _ _ _ E.out.bytes (by omega)).mono ?_
  rintro e W1 ⟨rfl, bel⟩
  replace E := W_hid (E.out.keep bel)
  clear bel
  have fz := E.out.row.fz
  have oc := E.out.row.cell (j := 1) rfl
  have rz := E.out.res.fz
  have r0 := E.out.res.cell (j := 0) rfl
  have r1 := E.out.res.cell (j := 1) rfl
  have r2 := E.out.res.cell (j := 2) rfl
  have r3 := E.out.res.cell (j := 3) rfl
  have r4 := E.out.res.cell (j := 4) rfl
  have r5 := E.out.res.cell (j := 5) rfl
  cases q0 : nok s.data.toList 8 with
  | false =>
    have q0 := W_hid q0
    have hA : Hid (decQ s = (2, zc)) := by
      show _ = _
      have hf : okR s.data.toList (rd [110, 116] s.data.toList 8 false) = false := by
        show (!((false || !nok s.data.toList 8) || !tok s.data.toList (nat_ s.data.toList 8) 8192) && _) = false
        rw [q0.out]; simp
      rw [hR.out, hf]; rfl
    go_wp2_with fail
    refine bodyPost_ret (res_call rfl _ _ rfl (six_blk E.out.res _ _ _ _ _ _)) rfl ⟨by rw [hA.out]; rfl, six_below E.out.below (Nat.le_refl _) _ _ _ _ _ _⟩
  | true =>
  replace q0 := W_hid q0
  clear rz r0 r1 r2 r3 r4 r5
  have cv := conv_i64 (nvl s.data.toList 8) (nvl_lt _ _)
  replace E := W_hid (E.out.store 1 (.int .i64 (si (nvl s.data.toList 8))))
  go_wp2_with fail
  clear cv fz oc
  rw [rounds_succ]
  go_wp2_with fail
  refine (rTakeT_any _ _ _ _ _ 8192 _ E.out.bytes (nat_le hlen.out _)).mono ?_
  rintro e W2 ⟨rfl, bel⟩
  replace E := W_hid (E.out.keep bel)
  clear bel
  have fz := E.out.row.fz
  have oc := E.out.row.cell (j := 4) rfl
  have rz := E.out.res.fz
  have r0 := E.out.res.cell (j := 0) rfl
  have r1 := E.out.res.cell (j := 1) rfl
  have r2 := E.out.res.cell (j := 2) rfl
  have r3 := E.out.res.cell (j := 3) rfl
  have r4 := E.out.res.cell (j := 4) rfl
  have r5 := E.out.res.cell (j := 5) rfl
  cases q1 : tok s.data.toList (nat_ s.data.toList 8) 8192 with
  | false =>
    have q1 := W_hid q1
    have hA : Hid (decQ s = (2, zc)) := by
      show _ = _
      have hf : okR s.data.toList (rd [110, 116] s.data.toList 8 false) = false := by
        show (!((false || !nok s.data.toList 8) || !tok s.data.toList (nat_ s.data.toList 8) 8192) && _) = false
        rw [q1.out]; simp
      rw [hR.out, hf]; rfl
    go_wp2_with fail
    refine bodyPost_ret (res_call rfl _ _ rfl (six_blk E.out.res _ _ _ _ _ _)) rfl ⟨by rw [hA.out]; rfl, six_below E.out.below (Nat.le_refl _) _ _ _ _ _ _⟩
  | true =>
  replace q1 := W_hid q1
  clear rz r0 r1 r2 r3 r4 r5
  replace E := W_hid (E.out.store 4 (.string (tvl s.data.toList (nat_ s.data.toList 8) 8192)))
  go_wp2_with fail
  clear fz oc
  rw [rounds_succ]
  refine wp_world (fun W => QD w W hb s.size c s.data.toList cb _) E.out ?_
  clear E
  intro WW E
  have rz := E.res.fz
  have r0 := E.res.cell (j := 0) rfl
  have r1 := E.res.cell (j := 1) rfl
  have r2 := E.res.cell (j := 2) rfl
  have r3 := E.res.cell (j := 3) rfl
  have r4 := E.res.cell (j := 4) rfl
  have r5 := E.res.cell (j := 5) rfl
  have y0 := E.row.cell (j := 0) rfl
  have y1 := E.row.cell (j := 1) rfl
  have y2 := E.row.cell (j := 2) rfl
  have y3 := E.row.cell (j := 3) rfl
  have y4 := E.row.cell (j := 4) rfl
  have y5 := E.row.cell (j := 5) rfl
  replace E := W_hid E
  obtain ⟨XX, hXX⟩ : ∃ XX, (tat s.data.toList (nat_ s.data.toList 8) 8192) = XX := ⟨_, rfl⟩
  rw [hXX]
  by_cases hx : XX = s.size
  · have hA : Hid (decQ s = (0, callOf k (rd [110, 116] s.data.toList 8 false))) := by
      show _ = _
      have hf : okR s.data.toList (rd [110, 116] s.data.toList 8 false) = true := by
        show (!((false || !nok s.data.toList 8) || !tok s.data.toList (nat_ s.data.toList 8) 8192) && decide ((tat s.data.toList (nat_ s.data.toList 8) 8192) = s.data.toList.length)) = true
        rw [hXX, hx]
        rw [q0.out, q1.out, hlen.out]; simp
      rw [hR.out, hf]; rfl
    go_wp2_with fail
    refine bodyPost_ret (res_call rfl _ _ rfl (six_blk E.out.res _ _ _ _ _ _)) rfl ⟨by rw [hA.out]; rfl, six_below E.out.below (Nat.le_refl _) _ _ _ _ _ _⟩
  · have hA : Hid (decQ s = (2, zc)) := by
      show _ = _
      have hf : okR s.data.toList (rd [110, 116] s.data.toList 8 false) = false := by
        show (!((false || !nok s.data.toList 8) || !tok s.data.toList (nat_ s.data.toList 8) 8192) && decide ((tat s.data.toList (nat_ s.data.toList 8) 8192) = s.data.toList.length)) = false
        rw [hXX, hlen.out, decide_eq_false hx, Bool.and_false]
      rw [hR.out, hf]; rfl
    have hne : ¬ ((XX : Int) = (s.size : Int)) := by omega
    go_wp2_with fail
    refine bodyPost_ret (res_call rfl _ _ rfl (six_blk E.out.res _ _ _ _ _ _)) rfl ⟨by rw [hA.out]; rfl, six_below E.out.below (Nat.le_refl _) _ _ _ _ _ _⟩
set_option maxRecDepth 100000 in
set_option maxHeartbeats 4000000 in
theorem rdec_nnn (s : ByteArray) (k : Nat) (h : shp k = some (bs [110, 110, 110])) (hk : num (s.data.toList.take 8) = k) (hk25 : k ≤ 25) (hs1 : s.size ≤ 8192) (hs2 : 8 ≤ s.size) (w : World) :
    Calls Try.prog 14 #[.string s] w fun e w' => e = .returned (.tuple #[.agg (decQ s).2.toArray, .int .i64 (decQ s).1]) ∧ Below w.heap.size w w' := by
  have hlen : s.data.toList.length = s.size := by rw [Array.length_toList]; rfl
  have hR := decQ_some hs1 hs2 hk h
  have hbs : (bs [110, 110, 110]).data.toList = [110, 110, 110] := rfl
  rw [hbs] at hR
  replace hR := W_hid hR
  have hn0 : nvl s.data.toList 0 = k := by unfold nvl; rw [if_pos (by omega), List.drop_zero, hk]
  have hx0 : nat_ s.data.toList 0 = 8 := by unfold nat_; rw [if_pos (by omega)]
  have hk0 : nok s.data.toList 0 = true := by unfold nok; exact decide_eq_true (by omega)
  have h' : shI (k : Int) = some (bs [110, 110, 110]) := by rw [shI_nat]; exact h
  replace h := W_hid h'
  replace hlen := W_hid hlen
  have hss : s.size ≤ maxLen := by unfold maxLen; omega
  replace hn0 := W_hid hn0
  replace hx0 := W_hid hx0
  replace hk0 := W_hid hk0
  clear hk h'
  have hci : ∀ W, (convert 49 3 (.int .u64 (k : Int))).run Try.prog W = .ok (.int .i64 (k : Int)) W := fun W => by
    have h1 : (convert 49 3 (.int .u64 (k : Int))).run Try.prog W = .ok (.int .i64 (IntKind.i64.wrap (k : Int))) W := by simp [go_sem]
    rw [h1, si_wrap (by omega), si, if_pos (by omega)]
  go_enter Try.func14, Try.ntmps14
  go_wp2_with (with_reducible show wpList _ _ _ _ _ _; refine wpList_bytes rfl _ rfl s rfl hss ?_; intro w1 hb c hBS bel1 hge hlt)
  have hres : Blk w1 w.heap.size 25 zc := (Blk.new w 25 zc rfl).keep bel1
  have bb : Below w.heap.size w w1 := ((Below.refl w.heap.size w).alloc (Nat.le_refl _) (.cells zc.toArray 25)).trans (Below.mono bel1 (by simp))
  have hgr : w.heap.size < hb := by simp at hge; omega
  refine (rTakeN_any _ _ _ _ 0 _ hBS (Nat.zero_le _)).mono ?_
  rintro e w2 ⟨rfl, bel2⟩
  rw [hn0.out, hx0.out, hk0.out]
  have E := pd_start2 hBS hres bb hgr hlt bel2 (k : Int)
  replace E := W_hid E
  clear hres bb bel1 hBS hge hlt bel2 hgr
  go_wp2_with fail
  refine (rShape_some h.out (by omega) (by omega) _).mono ?_
  rintro e w3 ⟨rfl, hw3⟩
  subst hw3
  go_wp2_with fail
  obtain ⟨cb, hcb⟩ : ∃ cb, cb = w2.heap.size := ⟨_, rfl⟩
  rw [← hcb] at E ⊢
  refine wp_world (fun W => QD w W hb s.size c s.data.toList cb [.int .i64 (k : Int), .int .i64 0, .int .i64 0, .int .i64 0, .string { data := #[] }, .string { data := #[] }]) E.out ?_
  clear E hcb
  intro W0 E
  replace E := W_hid E
  refine wp_loop_rounds 5 ?_
  rw [rounds_succ]
  go_wp2_with fail
  refine (rTakeN_any _ _ _ _ _ _ E.out.bytes (by omega)).mono ?_
  rintro e W1 ⟨rfl, bel⟩
  replace E := W_hid (E.out.keep bel)
  clear bel
  have fz := E.out.row.fz
  have oc := E.out.row.cell (j := 1) rfl
  have rz := E.out.res.fz
  have r0 := E.out.res.cell (j := 0) rfl
  have r1 := E.out.res.cell (j := 1) rfl
  have r2 := E.out.res.cell (j := 2) rfl
  have r3 := E.out.res.cell (j := 3) rfl
  have r4 := E.out.res.cell (j := 4) rfl
  have r5 := E.out.res.cell (j := 5) rfl
  cases q0 : nok s.data.toList 8 with
  | false =>
    have q0 := W_hid q0
    have hA : Hid (decQ s = (2, zc)) := by
      show _ = _
      have hf : okR s.data.toList (rd [110, 110, 110] s.data.toList 8 false) = false := by
        show (!(((false || !nok s.data.toList 8) || !nok s.data.toList (nat_ s.data.toList 8)) || !nok s.data.toList (nat_ s.data.toList (nat_ s.data.toList 8))) && _) = false
        rw [q0.out]; simp
      rw [hR.out, hf]; rfl
    go_wp2_with fail
    refine bodyPost_ret (res_call rfl _ _ rfl (six_blk E.out.res _ _ _ _ _ _)) rfl ⟨by rw [hA.out]; rfl, six_below E.out.below (Nat.le_refl _) _ _ _ _ _ _⟩
  | true =>
  replace q0 := W_hid q0
  clear rz r0 r1 r2 r3 r4 r5
  have cv := conv_i64 (nvl s.data.toList 8) (nvl_lt _ _)
  replace E := W_hid (E.out.store 1 (.int .i64 (si (nvl s.data.toList 8))))
  go_wp2_with fail
  clear cv fz oc
  rw [rounds_succ]
  go_wp2_with fail
  refine (rTakeN_any _ _ _ _ _ _ E.out.bytes (nat_le hlen.out _)).mono ?_
  rintro e W2 ⟨rfl, bel⟩
  replace E := W_hid (E.out.keep bel)
  clear bel
  have fz := E.out.row.fz
  have oc := E.out.row.cell (j := 2) rfl
  have rz := E.out.res.fz
  have r0 := E.out.res.cell (j := 0) rfl
  have r1 := E.out.res.cell (j := 1) rfl
  have r2 := E.out.res.cell (j := 2) rfl
  have r3 := E.out.res.cell (j := 3) rfl
  have r4 := E.out.res.cell (j := 4) rfl
  have r5 := E.out.res.cell (j := 5) rfl
  cases q1 : nok s.data.toList (nat_ s.data.toList 8) with
  | false =>
    have q1 := W_hid q1
    have hA : Hid (decQ s = (2, zc)) := by
      show _ = _
      have hf : okR s.data.toList (rd [110, 110, 110] s.data.toList 8 false) = false := by
        show (!(((false || !nok s.data.toList 8) || !nok s.data.toList (nat_ s.data.toList 8)) || !nok s.data.toList (nat_ s.data.toList (nat_ s.data.toList 8))) && _) = false
        rw [q1.out]; simp
      rw [hR.out, hf]; rfl
    go_wp2_with fail
    refine bodyPost_ret (res_call rfl _ _ rfl (six_blk E.out.res _ _ _ _ _ _)) rfl ⟨by rw [hA.out]; rfl, six_below E.out.below (Nat.le_refl _) _ _ _ _ _ _⟩
  | true =>
  replace q1 := W_hid q1
  clear rz r0 r1 r2 r3 r4 r5
  have cv := conv_i64 (nvl s.data.toList (nat_ s.data.toList 8)) (nvl_lt _ _)
  replace E := W_hid (E.out.store 2 (.int .i64 (si (nvl s.data.toList (nat_ s.data.toList 8)))))
  go_wp2_with fail
  clear cv fz oc
  rw [rounds_succ]
  go_wp2_with fail
  refine (rTakeN_any _ _ _ _ _ _ E.out.bytes (nat_le hlen.out _)).mono ?_
  rintro e W3 ⟨rfl, bel⟩
  replace E := W_hid (E.out.keep bel)
  clear bel
  have fz := E.out.row.fz
  have oc := E.out.row.cell (j := 3) rfl
  have rz := E.out.res.fz
  have r0 := E.out.res.cell (j := 0) rfl
  have r1 := E.out.res.cell (j := 1) rfl
  have r2 := E.out.res.cell (j := 2) rfl
  have r3 := E.out.res.cell (j := 3) rfl
  have r4 := E.out.res.cell (j := 4) rfl
  have r5 := E.out.res.cell (j := 5) rfl
  cases q2 : nok s.data.toList (nat_ s.data.toList (nat_ s.data.toList 8)) with
  | false =>
    have q2 := W_hid q2
    have hA : Hid (decQ s = (2, zc)) := by
      show _ = _
      have hf : okR s.data.toList (rd [110, 110, 110] s.data.toList 8 false) = false := by
        show (!(((false || !nok s.data.toList 8) || !nok s.data.toList (nat_ s.data.toList 8)) || !nok s.data.toList (nat_ s.data.toList (nat_ s.data.toList 8))) && _) = false
        rw [q2.out]; simp
      rw [hR.out, hf]; rfl
    go_wp2_with fail
    refine bodyPost_ret (res_call rfl _ _ rfl (six_blk E.out.res _ _ _ _ _ _)) rfl ⟨by rw [hA.out]; rfl, six_below E.out.below (Nat.le_refl _) _ _ _ _ _ _⟩
  | true =>
  replace q2 := W_hid q2
  clear rz r0 r1 r2 r3 r4 r5
  have cv := conv_i64 (nvl s.data.toList (nat_ s.data.toList (nat_ s.data.toList 8))) (nvl_lt _ _)
  replace E := W_hid (E.out.store 3 (.int .i64 (si (nvl s.data.toList (nat_ s.data.toList (nat_ s.data.toList 8))))))
  go_wp2_with fail
  clear cv fz oc
  rw [rounds_succ]
  refine wp_world (fun W => QD w W hb s.size c s.data.toList cb _) E.out ?_
  clear E
  intro WW E
  have rz := E.res.fz
  have r0 := E.res.cell (j := 0) rfl
  have r1 := E.res.cell (j := 1) rfl
  have r2 := E.res.cell (j := 2) rfl
  have r3 := E.res.cell (j := 3) rfl
  have r4 := E.res.cell (j := 4) rfl
  have r5 := E.res.cell (j := 5) rfl
  have y0 := E.row.cell (j := 0) rfl
  have y1 := E.row.cell (j := 1) rfl
  have y2 := E.row.cell (j := 2) rfl
  have y3 := E.row.cell (j := 3) rfl
  have y4 := E.row.cell (j := 4) rfl
  have y5 := E.row.cell (j := 5) rfl
  replace E := W_hid E
  obtain ⟨XX, hXX⟩ : ∃ XX, (nat_ s.data.toList (nat_ s.data.toList (nat_ s.data.toList 8))) = XX := ⟨_, rfl⟩
  rw [hXX]
  by_cases hx : XX = s.size
  · have hA : Hid (decQ s = (0, callOf k (rd [110, 110, 110] s.data.toList 8 false))) := by
      show _ = _
      have hf : okR s.data.toList (rd [110, 110, 110] s.data.toList 8 false) = true := by
        show (!(((false || !nok s.data.toList 8) || !nok s.data.toList (nat_ s.data.toList 8)) || !nok s.data.toList (nat_ s.data.toList (nat_ s.data.toList 8))) && decide ((nat_ s.data.toList (nat_ s.data.toList (nat_ s.data.toList 8))) = s.data.toList.length)) = true
        rw [hXX, hx]
        rw [q0.out, q1.out, q2.out, hlen.out]; simp
      rw [hR.out, hf]; rfl
    go_wp2_with fail
    refine bodyPost_ret (res_call rfl _ _ rfl (six_blk E.out.res _ _ _ _ _ _)) rfl ⟨by rw [hA.out]; rfl, six_below E.out.below (Nat.le_refl _) _ _ _ _ _ _⟩
  · have hA : Hid (decQ s = (2, zc)) := by
      show _ = _
      have hf : okR s.data.toList (rd [110, 110, 110] s.data.toList 8 false) = false := by
        show (!(((false || !nok s.data.toList 8) || !nok s.data.toList (nat_ s.data.toList 8)) || !nok s.data.toList (nat_ s.data.toList (nat_ s.data.toList 8))) && decide ((nat_ s.data.toList (nat_ s.data.toList (nat_ s.data.toList 8))) = s.data.toList.length)) = false
        rw [hXX, hlen.out, decide_eq_false hx, Bool.and_false]
      rw [hR.out, hf]; rfl
    have hne : ¬ ((XX : Int) = (s.size : Int)) := by omega
    go_wp2_with fail
    refine bodyPost_ret (res_call rfl _ _ rfl (six_blk E.out.res _ _ _ _ _ _)) rfl ⟨by rw [hA.out]; rfl, six_below E.out.below (Nat.le_refl _) _ _ _ _ _ _⟩
set_option maxRecDepth 100000 in
set_option maxHeartbeats 4000000 in
theorem rdec_t (s : ByteArray) (k : Nat) (h : shp k = some (bs [116])) (hk : num (s.data.toList.take 8) = k) (hk25 : k ≤ 25) (hs1 : s.size ≤ 8192) (hs2 : 8 ≤ s.size) (w : World) :
    Calls Try.prog 14 #[.string s] w fun e w' => e = .returned (.tuple #[.agg (decQ s).2.toArray, .int .i64 (decQ s).1]) ∧ Below w.heap.size w w' := by
  have hlen : s.data.toList.length = s.size := by rw [Array.length_toList]; rfl
  have hR := decQ_some hs1 hs2 hk h
  have hbs : (bs [116]).data.toList = [116] := rfl
  rw [hbs] at hR
  replace hR := W_hid hR
  have hn0 : nvl s.data.toList 0 = k := by unfold nvl; rw [if_pos (by omega), List.drop_zero, hk]
  have hx0 : nat_ s.data.toList 0 = 8 := by unfold nat_; rw [if_pos (by omega)]
  have hk0 : nok s.data.toList 0 = true := by unfold nok; exact decide_eq_true (by omega)
  have h' : shI (k : Int) = some (bs [116]) := by rw [shI_nat]; exact h
  replace h := W_hid h'
  replace hlen := W_hid hlen
  have hss : s.size ≤ maxLen := by unfold maxLen; omega
  replace hn0 := W_hid hn0
  replace hx0 := W_hid hx0
  replace hk0 := W_hid hk0
  clear hk h'
  have hci : ∀ W, (convert 49 3 (.int .u64 (k : Int))).run Try.prog W = .ok (.int .i64 (k : Int)) W := fun W => by
    have h1 : (convert 49 3 (.int .u64 (k : Int))).run Try.prog W = .ok (.int .i64 (IntKind.i64.wrap (k : Int))) W := by simp [go_sem]
    rw [h1, si_wrap (by omega), si, if_pos (by omega)]
  go_enter Try.func14, Try.ntmps14
  go_wp2_with (with_reducible show wpList _ _ _ _ _ _; refine wpList_bytes rfl _ rfl s rfl hss ?_; intro w1 hb c hBS bel1 hge hlt)
  have hres : Blk w1 w.heap.size 25 zc := (Blk.new w 25 zc rfl).keep bel1
  have bb : Below w.heap.size w w1 := ((Below.refl w.heap.size w).alloc (Nat.le_refl _) (.cells zc.toArray 25)).trans (Below.mono bel1 (by simp))
  have hgr : w.heap.size < hb := by simp at hge; omega
  refine (rTakeN_any _ _ _ _ 0 _ hBS (Nat.zero_le _)).mono ?_
  rintro e w2 ⟨rfl, bel2⟩
  rw [hn0.out, hx0.out, hk0.out]
  have E := pd_start2 hBS hres bb hgr hlt bel2 (k : Int)
  replace E := W_hid E
  clear hres bb bel1 hBS hge hlt bel2 hgr
  go_wp2_with fail
  refine (rShape_some h.out (by omega) (by omega) _).mono ?_
  rintro e w3 ⟨rfl, hw3⟩
  subst hw3
  go_wp2_with fail
  obtain ⟨cb, hcb⟩ : ∃ cb, cb = w2.heap.size := ⟨_, rfl⟩
  rw [← hcb] at E ⊢
  refine wp_world (fun W => QD w W hb s.size c s.data.toList cb [.int .i64 (k : Int), .int .i64 0, .int .i64 0, .int .i64 0, .string { data := #[] }, .string { data := #[] }]) E.out ?_
  clear E hcb
  intro W0 E
  replace E := W_hid E
  refine wp_loop_rounds 3 ?_
  rw [rounds_succ]
  go_wp2_with fail
  refine (rTakeT_any _ _ _ _ _ 8192 _ E.out.bytes (by omega)).mono ?_
  rintro e W1 ⟨rfl, bel⟩
  replace E := W_hid (E.out.keep bel)
  clear bel
  have fz := E.out.row.fz
  have oc := E.out.row.cell (j := 4) rfl
  have rz := E.out.res.fz
  have r0 := E.out.res.cell (j := 0) rfl
  have r1 := E.out.res.cell (j := 1) rfl
  have r2 := E.out.res.cell (j := 2) rfl
  have r3 := E.out.res.cell (j := 3) rfl
  have r4 := E.out.res.cell (j := 4) rfl
  have r5 := E.out.res.cell (j := 5) rfl
  cases q0 : tok s.data.toList 8 8192 with
  | false =>
    have q0 := W_hid q0
    have hA : Hid (decQ s = (2, zc)) := by
      show _ = _
      have hf : okR s.data.toList (rd [116] s.data.toList 8 false) = false := by
        show (!(false || !tok s.data.toList 8 8192) && _) = false
        rw [q0.out]; simp
      rw [hR.out, hf]; rfl
    go_wp2_with fail
    refine bodyPost_ret (res_call rfl _ _ rfl (six_blk E.out.res _ _ _ _ _ _)) rfl ⟨by rw [hA.out]; rfl, six_below E.out.below (Nat.le_refl _) _ _ _ _ _ _⟩
  | true =>
  replace q0 := W_hid q0
  clear rz r0 r1 r2 r3 r4 r5
  replace E := W_hid (E.out.store 4 (.string (tvl s.data.toList 8 8192)))
  go_wp2_with fail
  clear fz oc
  rw [rounds_succ]
  refine wp_world (fun W => QD w W hb s.size c s.data.toList cb _) E.out ?_
  clear E
  intro WW E
  have rz := E.res.fz
  have r0 := E.res.cell (j := 0) rfl
  have r1 := E.res.cell (j := 1) rfl
  have r2 := E.res.cell (j := 2) rfl
  have r3 := E.res.cell (j := 3) rfl
  have r4 := E.res.cell (j := 4) rfl
  have r5 := E.res.cell (j := 5) rfl
  have y0 := E.row.cell (j := 0) rfl
  have y1 := E.row.cell (j := 1) rfl
  have y2 := E.row.cell (j := 2) rfl
  have y3 := E.row.cell (j := 3) rfl
  have y4 := E.row.cell (j := 4) rfl
  have y5 := E.row.cell (j := 5) rfl
  replace E := W_hid E
  obtain ⟨XX, hXX⟩ : ∃ XX, (tat s.data.toList 8 8192) = XX := ⟨_, rfl⟩
  rw [hXX]
  by_cases hx : XX = s.size
  · have hA : Hid (decQ s = (0, callOf k (rd [116] s.data.toList 8 false))) := by
      show _ = _
      have hf : okR s.data.toList (rd [116] s.data.toList 8 false) = true := by
        show (!(false || !tok s.data.toList 8 8192) && decide ((tat s.data.toList 8 8192) = s.data.toList.length)) = true
        rw [hXX, hx]
        rw [q0.out, hlen.out]; simp
      rw [hR.out, hf]; rfl
    go_wp2_with fail
    refine bodyPost_ret (res_call rfl _ _ rfl (six_blk E.out.res _ _ _ _ _ _)) rfl ⟨by rw [hA.out]; rfl, six_below E.out.below (Nat.le_refl _) _ _ _ _ _ _⟩
  · have hA : Hid (decQ s = (2, zc)) := by
      show _ = _
      have hf : okR s.data.toList (rd [116] s.data.toList 8 false) = false := by
        show (!(false || !tok s.data.toList 8 8192) && decide ((tat s.data.toList 8 8192) = s.data.toList.length)) = false
        rw [hXX, hlen.out, decide_eq_false hx, Bool.and_false]
      rw [hR.out, hf]; rfl
    have hne : ¬ ((XX : Int) = (s.size : Int)) := by omega
    go_wp2_with fail
    refine bodyPost_ret (res_call rfl _ _ rfl (six_blk E.out.res _ _ _ _ _ _)) rfl ⟨by rw [hA.out]; rfl, six_below E.out.below (Nat.le_refl _) _ _ _ _ _ _⟩
set_option maxRecDepth 100000 in
set_option maxHeartbeats 4000000 in
theorem rdec_tt (s : ByteArray) (k : Nat) (h : shp k = some (bs [116, 116])) (hk : num (s.data.toList.take 8) = k) (hk25 : k ≤ 25) (hs1 : s.size ≤ 8192) (hs2 : 8 ≤ s.size) (w : World) :
    Calls Try.prog 14 #[.string s] w fun e w' => e = .returned (.tuple #[.agg (decQ s).2.toArray, .int .i64 (decQ s).1]) ∧ Below w.heap.size w w' := by
  have hlen : s.data.toList.length = s.size := by rw [Array.length_toList]; rfl
  have hR := decQ_some hs1 hs2 hk h
  have hbs : (bs [116, 116]).data.toList = [116, 116] := rfl
  rw [hbs] at hR
  replace hR := W_hid hR
  have hn0 : nvl s.data.toList 0 = k := by unfold nvl; rw [if_pos (by omega), List.drop_zero, hk]
  have hx0 : nat_ s.data.toList 0 = 8 := by unfold nat_; rw [if_pos (by omega)]
  have hk0 : nok s.data.toList 0 = true := by unfold nok; exact decide_eq_true (by omega)
  have h' : shI (k : Int) = some (bs [116, 116]) := by rw [shI_nat]; exact h
  replace h := W_hid h'
  replace hlen := W_hid hlen
  have hss : s.size ≤ maxLen := by unfold maxLen; omega
  replace hn0 := W_hid hn0
  replace hx0 := W_hid hx0
  replace hk0 := W_hid hk0
  clear hk h'
  have hci : ∀ W, (convert 49 3 (.int .u64 (k : Int))).run Try.prog W = .ok (.int .i64 (k : Int)) W := fun W => by
    have h1 : (convert 49 3 (.int .u64 (k : Int))).run Try.prog W = .ok (.int .i64 (IntKind.i64.wrap (k : Int))) W := by simp [go_sem]
    rw [h1, si_wrap (by omega), si, if_pos (by omega)]
  go_enter Try.func14, Try.ntmps14
  go_wp2_with (with_reducible show wpList _ _ _ _ _ _; refine wpList_bytes rfl _ rfl s rfl hss ?_; intro w1 hb c hBS bel1 hge hlt)
  have hres : Blk w1 w.heap.size 25 zc := (Blk.new w 25 zc rfl).keep bel1
  have bb : Below w.heap.size w w1 := ((Below.refl w.heap.size w).alloc (Nat.le_refl _) (.cells zc.toArray 25)).trans (Below.mono bel1 (by simp))
  have hgr : w.heap.size < hb := by simp at hge; omega
  refine (rTakeN_any _ _ _ _ 0 _ hBS (Nat.zero_le _)).mono ?_
  rintro e w2 ⟨rfl, bel2⟩
  rw [hn0.out, hx0.out, hk0.out]
  have E := pd_start2 hBS hres bb hgr hlt bel2 (k : Int)
  replace E := W_hid E
  clear hres bb bel1 hBS hge hlt bel2 hgr
  go_wp2_with fail
  refine (rShape_some h.out (by omega) (by omega) _).mono ?_
  rintro e w3 ⟨rfl, hw3⟩
  subst hw3
  go_wp2_with fail
  obtain ⟨cb, hcb⟩ : ∃ cb, cb = w2.heap.size := ⟨_, rfl⟩
  rw [← hcb] at E ⊢
  refine wp_world (fun W => QD w W hb s.size c s.data.toList cb [.int .i64 (k : Int), .int .i64 0, .int .i64 0, .int .i64 0, .string { data := #[] }, .string { data := #[] }]) E.out ?_
  clear E hcb
  intro W0 E
  replace E := W_hid E
  refine wp_loop_rounds 4 ?_
  rw [rounds_succ]
  go_wp2_with fail
  refine (rTakeT_any _ _ _ _ _ 8192 _ E.out.bytes (by omega)).mono ?_
  rintro e W1 ⟨rfl, bel⟩
  replace E := W_hid (E.out.keep bel)
  clear bel
  have fz := E.out.row.fz
  have oc := E.out.row.cell (j := 4) rfl
  have rz := E.out.res.fz
  have r0 := E.out.res.cell (j := 0) rfl
  have r1 := E.out.res.cell (j := 1) rfl
  have r2 := E.out.res.cell (j := 2) rfl
  have r3 := E.out.res.cell (j := 3) rfl
  have r4 := E.out.res.cell (j := 4) rfl
  have r5 := E.out.res.cell (j := 5) rfl
  cases q0 : tok s.data.toList 8 8192 with
  | false =>
    have q0 := W_hid q0
    have hA : Hid (decQ s = (2, zc)) := by
      show _ = _
      have hf : okR s.data.toList (rd [116, 116] s.data.toList 8 false) = false := by
        show (!((false || !tok s.data.toList 8 8192) || !tok s.data.toList (tat s.data.toList 8 8192) 8192) && _) = false
        rw [q0.out]; simp
      rw [hR.out, hf]; rfl
    go_wp2_with fail
    refine bodyPost_ret (res_call rfl _ _ rfl (six_blk E.out.res _ _ _ _ _ _)) rfl ⟨by rw [hA.out]; rfl, six_below E.out.below (Nat.le_refl _) _ _ _ _ _ _⟩
  | true =>
  replace q0 := W_hid q0
  clear rz r0 r1 r2 r3 r4 r5
  replace E := W_hid (E.out.store 4 (.string (tvl s.data.toList 8 8192)))
  go_wp2_with fail
  clear fz oc
  rw [rounds_succ]
  go_wp2_with fail
  refine (rTakeT_any _ _ _ _ _ 8192 _ E.out.bytes (tat_le hlen.out _ _)).mono ?_
  rintro e W2 ⟨rfl, bel⟩
  replace E := W_hid (E.out.keep bel)
  clear bel
  have fz := E.out.row.fz
  have oc := E.out.row.cell (j := 5) rfl
  have rz := E.out.res.fz
  have r0 := E.out.res.cell (j := 0) rfl
  have r1 := E.out.res.cell (j := 1) rfl
  have r2 := E.out.res.cell (j := 2) rfl
  have r3 := E.out.res.cell (j := 3) rfl
  have r4 := E.out.res.cell (j := 4) rfl
  have r5 := E.out.res.cell (j := 5) rfl
  cases q1 : tok s.data.toList (tat s.data.toList 8 8192) 8192 with
  | false =>
    have q1 := W_hid q1
    have hA : Hid (decQ s = (2, zc)) := by
      show _ = _
      have hf : okR s.data.toList (rd [116, 116] s.data.toList 8 false) = false := by
        show (!((false || !tok s.data.toList 8 8192) || !tok s.data.toList (tat s.data.toList 8 8192) 8192) && _) = false
        rw [q1.out]; simp
      rw [hR.out, hf]; rfl
    go_wp2_with fail
    refine bodyPost_ret (res_call rfl _ _ rfl (six_blk E.out.res _ _ _ _ _ _)) rfl ⟨by rw [hA.out]; rfl, six_below E.out.below (Nat.le_refl _) _ _ _ _ _ _⟩
  | true =>
  replace q1 := W_hid q1
  clear rz r0 r1 r2 r3 r4 r5
  replace E := W_hid (E.out.store 5 (.string (tvl s.data.toList (tat s.data.toList 8 8192) 8192)))
  go_wp2_with fail
  clear fz oc
  rw [rounds_succ]
  refine wp_world (fun W => QD w W hb s.size c s.data.toList cb _) E.out ?_
  clear E
  intro WW E
  have rz := E.res.fz
  have r0 := E.res.cell (j := 0) rfl
  have r1 := E.res.cell (j := 1) rfl
  have r2 := E.res.cell (j := 2) rfl
  have r3 := E.res.cell (j := 3) rfl
  have r4 := E.res.cell (j := 4) rfl
  have r5 := E.res.cell (j := 5) rfl
  have y0 := E.row.cell (j := 0) rfl
  have y1 := E.row.cell (j := 1) rfl
  have y2 := E.row.cell (j := 2) rfl
  have y3 := E.row.cell (j := 3) rfl
  have y4 := E.row.cell (j := 4) rfl
  have y5 := E.row.cell (j := 5) rfl
  replace E := W_hid E
  obtain ⟨XX, hXX⟩ : ∃ XX, (tat s.data.toList (tat s.data.toList 8 8192) 8192) = XX := ⟨_, rfl⟩
  rw [hXX]
  by_cases hx : XX = s.size
  · have hA : Hid (decQ s = (0, callOf k (rd [116, 116] s.data.toList 8 false))) := by
      show _ = _
      have hf : okR s.data.toList (rd [116, 116] s.data.toList 8 false) = true := by
        show (!((false || !tok s.data.toList 8 8192) || !tok s.data.toList (tat s.data.toList 8 8192) 8192) && decide ((tat s.data.toList (tat s.data.toList 8 8192) 8192) = s.data.toList.length)) = true
        rw [hXX, hx]
        rw [q0.out, q1.out, hlen.out]; simp
      rw [hR.out, hf]; rfl
    go_wp2_with fail
    refine bodyPost_ret (res_call rfl _ _ rfl (six_blk E.out.res _ _ _ _ _ _)) rfl ⟨by rw [hA.out]; rfl, six_below E.out.below (Nat.le_refl _) _ _ _ _ _ _⟩
  · have hA : Hid (decQ s = (2, zc)) := by
      show _ = _
      have hf : okR s.data.toList (rd [116, 116] s.data.toList 8 false) = false := by
        show (!((false || !tok s.data.toList 8 8192) || !tok s.data.toList (tat s.data.toList 8 8192) 8192) && decide ((tat s.data.toList (tat s.data.toList 8 8192) 8192) = s.data.toList.length)) = false
        rw [hXX, hlen.out, decide_eq_false hx, Bool.and_false]
      rw [hR.out, hf]; rfl
    have hne : ¬ ((XX : Int) = (s.size : Int)) := by omega
    go_wp2_with fail
    refine bodyPost_ret (res_call rfl _ _ rfl (six_blk E.out.res _ _ _ _ _ _)) rfl ⟨by rw [hA.out]; rfl, six_below E.out.below (Nat.le_refl _) _ _ _ _ _ _⟩
set_option maxRecDepth 100000 in
set_option maxHeartbeats 4000000 in
theorem rdec_o (s : ByteArray) (k : Nat) (h : shp k = some (bs [])) (hk : num (s.data.toList.take 8) = k) (hk25 : k ≤ 25) (hs1 : s.size ≤ 8192) (hs2 : 8 ≤ s.size) (w : World) :
    Calls Try.prog 14 #[.string s] w fun e w' => e = .returned (.tuple #[.agg (decQ s).2.toArray, .int .i64 (decQ s).1]) ∧ Below w.heap.size w w' := by
  have hlen : s.data.toList.length = s.size := by rw [Array.length_toList]; rfl
  have hR := decQ_some hs1 hs2 hk h
  have hbs : (bs []).data.toList = [] := rfl
  rw [hbs] at hR
  replace hR := W_hid hR
  have hn0 : nvl s.data.toList 0 = k := by unfold nvl; rw [if_pos (by omega), List.drop_zero, hk]
  have hx0 : nat_ s.data.toList 0 = 8 := by unfold nat_; rw [if_pos (by omega)]
  have hk0 : nok s.data.toList 0 = true := by unfold nok; exact decide_eq_true (by omega)
  have h' : shI (k : Int) = some (bs []) := by rw [shI_nat]; exact h
  replace h := W_hid h'
  replace hlen := W_hid hlen
  have hss : s.size ≤ maxLen := by unfold maxLen; omega
  replace hn0 := W_hid hn0
  replace hx0 := W_hid hx0
  replace hk0 := W_hid hk0
  clear hk h'
  have hci : ∀ W, (convert 49 3 (.int .u64 (k : Int))).run Try.prog W = .ok (.int .i64 (k : Int)) W := fun W => by
    have h1 : (convert 49 3 (.int .u64 (k : Int))).run Try.prog W = .ok (.int .i64 (IntKind.i64.wrap (k : Int))) W := by simp [go_sem]
    rw [h1, si_wrap (by omega), si, if_pos (by omega)]
  go_enter Try.func14, Try.ntmps14
  go_wp2_with (with_reducible show wpList _ _ _ _ _ _; refine wpList_bytes rfl _ rfl s rfl hss ?_; intro w1 hb c hBS bel1 hge hlt)
  have hres : Blk w1 w.heap.size 25 zc := (Blk.new w 25 zc rfl).keep bel1
  have bb : Below w.heap.size w w1 := ((Below.refl w.heap.size w).alloc (Nat.le_refl _) (.cells zc.toArray 25)).trans (Below.mono bel1 (by simp))
  have hgr : w.heap.size < hb := by simp at hge; omega
  refine (rTakeN_any _ _ _ _ 0 _ hBS (Nat.zero_le _)).mono ?_
  rintro e w2 ⟨rfl, bel2⟩
  rw [hn0.out, hx0.out, hk0.out]
  have E := pd_start2 hBS hres bb hgr hlt bel2 (k : Int)
  replace E := W_hid E
  clear hres bb bel1 hBS hge hlt bel2 hgr
  go_wp2_with fail
  refine (rShape_some h.out (by omega) (by omega) _).mono ?_
  rintro e w3 ⟨rfl, hw3⟩
  subst hw3
  go_wp2_with fail
  obtain ⟨cb, hcb⟩ : ∃ cb, cb = w2.heap.size := ⟨_, rfl⟩
  rw [← hcb] at E ⊢
  refine wp_world (fun W => QD w W hb s.size c s.data.toList cb [.int .i64 (k : Int), .int .i64 0, .int .i64 0, .int .i64 0, .string { data := #[] }, .string { data := #[] }]) E.out ?_
  clear E hcb
  intro W0 E
  replace E := W_hid E
  refine wp_loop_rounds 2 ?_
  rw [rounds_succ]
  refine wp_world (fun W => QD w W hb s.size c s.data.toList cb _) E.out ?_
  clear E
  intro WW E
  have rz := E.res.fz
  have r0 := E.res.cell (j := 0) rfl
  have r1 := E.res.cell (j := 1) rfl
  have r2 := E.res.cell (j := 2) rfl
  have r3 := E.res.cell (j := 3) rfl
  have r4 := E.res.cell (j := 4) rfl
  have r5 := E.res.cell (j := 5) rfl
  have y0 := E.row.cell (j := 0) rfl
  have y1 := E.row.cell (j := 1) rfl
  have y2 := E.row.cell (j := 2) rfl
  have y3 := E.row.cell (j := 3) rfl
  have y4 := E.row.cell (j := 4) rfl
  have y5 := E.row.cell (j := 5) rfl
  replace E := W_hid E
  obtain ⟨XX, hXX⟩ : ∃ XX, 8 = XX := ⟨_, rfl⟩
  have h8 : ((8 : Nat) : Int) = (XX : Int) := by omega
  replace h8 := W_hid h8
  by_cases hx : XX = s.size
  · have hA : Hid (decQ s = (0, callOf k (rd [] s.data.toList 8 false))) := by
      show _ = _
      have hf : okR s.data.toList (rd [] s.data.toList 8 false) = true := by
        show (!false && decide (8 = s.data.toList.length)) = true
        rw [hXX, hx]
        rw [hlen.out]; simp
      rw [hR.out, hf]; rfl
    have hs8 : (s.size : Int) = 8 := by omega
    replace hXX := W_hid hXX
    clear hx
    go_wp2_with fail
    refine bodyPost_ret (res_call rfl _ _ rfl (six_blk E.out.res _ _ _ _ _ _)) rfl ⟨by rw [hA.out]; rfl, six_below E.out.below (Nat.le_refl _) _ _ _ _ _ _⟩
  · have hA : Hid (decQ s = (2, zc)) := by
      show _ = _
      have hf : okR s.data.toList (rd [] s.data.toList 8 false) = false := by
        show (!false && decide (8 = s.data.toList.length)) = false
        rw [hXX, hlen.out, decide_eq_false hx, Bool.and_false]
      rw [hR.out, hf]; rfl
    have hne : ¬ ((XX : Int) = (s.size : Int)) := by omega
    have hne8 : ¬ ((8 : Int) = (s.size : Int)) := by omega
    replace hXX := W_hid hXX
    go_wp2_with fail
    refine bodyPost_ret (res_call rfl _ _ rfl (six_blk E.out.res _ _ _ _ _ _)) rfl ⟨by rw [hA.out]; rfl, six_below E.out.below (Nat.le_refl _) _ _ _ _ _ _⟩
end CA
end Go.Proofs.Ytmhikoblaejhhaa

/- The program's Decode, for each shape. -/
import Derived.Test.YtmhikoblaejhhaaCalDec
namespace Go.Proofs.Ytmhikoblaejhhaa
open Go.ChangeShapes Go.WideShapes Go.ChangeAt Go.RowKit Go.Maps
set_option linter.unusedVariables false
set_option linter.unusedSimpArgs false
set_option maxRecDepth 100000
namespace CA
set_option maxRecDepth 100000 in
set_option maxHeartbeats 4000000 in
theorem dec_tn (s : ByteArray) (k : Nat) (h : shp k = some (bs [116, 110])) (hk : num (s.data.toList.take 8) = k) (hk25 : k ≤ 25) (hs1 : s.size ≤ 8192) (hs2 : 8 ≤ s.size) (w : World) :
    Calls Try.prog 13 #[.string s] w fun e w' => e = .returned (.tuple #[.agg (decQ s).2.toArray, .int .i64 (decQ s).1]) ∧ Below w.heap.size w w' := by
  have hlen : s.data.toList.length = s.size := by rw [Array.length_toList]; rfl
  have hR := decQ_some hs1 hs2 hk h
  have hbs : (bs [116, 110]).data.toList = [116, 110] := rfl
  rw [hbs] at hR
  replace hR := W_hid hR
  have hn0 : nvl s.data.toList 0 = k := by unfold nvl; rw [if_pos (by omega), List.drop_zero, hk]
  have hx0 : nat_ s.data.toList 0 = 8 := by unfold nat_; rw [if_pos (by omega)]
  have hk0 : nok s.data.toList 0 = true := by unfold nok; exact decide_eq_true (by omega)
  have tt := fun x => (tvl_m s.data.toList x (m := s.size) (m' := 8192) (by omega) (by omega))
  have ta := fun x => (tat_m s.data.toList x (m := s.size) (m' := 8192) (by omega) (by omega))
  have tk := fun x => (tok_m s.data.toList x (m := s.size) (m' := 8192) (by omega) (by omega))
  replace h := W_hid h
  replace hlen := W_hid hlen
  have hss : s.size ≤ maxLen := by unfold maxLen; omega
  obtain ⟨l, hl⟩ : ∃ l, l = s.data.toList := ⟨_, rfl⟩
  replace tt := W_hid tt
  replace ta := W_hid ta
  replace tk := W_hid tk
  replace hn0 := W_hid hn0
  replace hx0 := W_hid hx0
  replace hk0 := W_hid hk0
  clear hk
  have hci : ∀ W, (convert 49 3 (.int .u64 (k : Int))).run Try.prog W = .ok (.int .i64 (k : Int)) W := fun W => by
    have h1 : (convert 49 3 (.int .u64 (k : Int))).run Try.prog W = .ok (.int .i64 (IntKind.i64.wrap (k : Int))) W := by simp [go_sem]
    rw [h1, si_wrap (by omega), si, if_pos (by omega)]
  go_enter Try.func13, Try.ntmps13
  go_wp2_with (with_reducible show wpList _ _ _ _ _ _; refine wpList_bytes rfl _ rfl s rfl hss ?_; intro w1 hb c hBS bel1 hge hlt)
  have hres : Blk w1 w.heap.size 25 zc := (Blk.new w 25 zc rfl).keep bel1
  have bb : Below w.heap.size w w1 := ((Below.refl w.heap.size w).alloc (Nat.le_refl _) (.cells zc.toArray 25)).trans (Below.mono bel1 (by simp))
  have hgr : w.heap.size < hb := by simp at hge; omega
  obtain ⟨g, hg⟩ : ∃ g, g = w1.heap.size := ⟨_, rfl⟩
  have hrb : RB (w1.alloc (.cells #[.slice (some ⟨hb, 0, none⟩) s.size c, .int .i64 0, .bool false] 58)) w1.heap.size hb s.size c s.data.toList 0 false :=
    ⟨Blk.new w1 _ [.slice (some ⟨hb, 0, none⟩) s.size c, .int .i64 ((0 : Nat) : Int), .bool false] rfl, hBS.below ((Below.refl _ _).alloc (Nat.le_refl _) _) (Nat.le_refl _), by omega, Nat.zero_le _⟩
  have hres1 := hres.alloc (.cells #[.slice (some ⟨hb, 0, none⟩) s.size c, .int .i64 0, .bool false] 58)
  have bb1 := bb.alloc bb.size (.cells #[.slice (some ⟨hb, 0, none⟩) s.size c, .int .i64 0, .bool false] 58)
  refine (number_any hrb).mono ?_
  rintro e w2 ⟨rfl, hr2, two2⟩
  rw [hn0.out]
  rw [hx0.out, hk0.out] at hr2
  replace hr2 : RB w2 w1.heap.size hb s.size c s.data.toList 8 false := hr2
  have hres2 := hres1.two two2 (by have := hlt; omega) (by omega)
  have bb2 := bb1.trans (two2.below bb1.size (by have := bb.size; omega) (by have := bb.size; omega))
  have hw2 : w1.heap.size < w2.heap.size := hr2.lt
  rw [← hg] at hr2 hw2 ⊢
  have hgb : hb < g := by omega
  clear hres hres1 bb bb1 hrb two2 bel1 hBS hge hlt hg
  have z2 := hr2.row.cell (j := 2) rfl
  replace hr2 := W_hid hr2
  replace hres2 := W_hid hres2
  replace bb2 := W_hid bb2
  go_wp2_with fail
  refine (shapes_any w2).mono ?_
  rintro e w3 ⟨mb, rfl, hs, bel3⟩
  have hlk := hs.look_ok k (by omega)
  rw [h.out] at hlk
  simp only [sv, Option.getD_some, Option.isSome_some] at hlk
  clear hs z2
  replace hr2 := W_hid (hr2.out.keep bel3)
  replace hres2 := W_hid (hres2.out.keep bel3)
  replace bb2 := W_hid (bb2.out.trans (bel3.mono bb2.out.size))
  have hw3 : g < w3.heap.size := hr2.out.lt
  clear bel3 hw2
  go_wp2_with fail
  go_quiet (fail)
  go_wp2_with fail
  refine wp_world (fun W => ∃ cb gi, cb = w3.heap.size + 1 ∧ gi = w3.heap.size + 1 + 1 ∧ PD w W g hb s.size c s.data.toList 8 false cb [.int .i64 (k : Int), .int .i64 0, .int .i64 0, .int .i64 0, .string { data := #[] }, .string { data := #[] }] gi (bs [116, 110]) 0) ⟨_, _, rfl, rfl, pd_start hr2.out hres2.out bb2.out hgr hgb _ nq _ _⟩ ?_
  rintro W0 ⟨cb, gi, hcb, hgi, E⟩
  rw [← hgi, ← hcb]
  replace E := W_hid E
  clear hr2 hres2 bb2 hgr hgb hw3 hcb hgi hlk
  refine wp_loop_rounds 4 ?_
  rw [rounds_succ]
  go_wp2_with (with_reducible show wpList _ _ _ _ _ _; refine wpList_next gi _ 0 E.out.it rfl _ rfl rfl 116 rfl (by decide) ?_; intro W0i i0 gr0; replace E := W_hid (E.out.next i0 gr0); clear i0 gr0)
  have cv := True.intro
  refine (text_any E.out.rb s.size (by omega)).mono ?_
  rintro e W0 ⟨rfl, hr, two⟩
  rw [tt.out]
  rw [ta.out, tk.out] at hr
  replace E := W_hid (E.out.call hr two)
  have fz := E.out.row.fz
  have oc := E.out.row.cell (j := 4) rfl
  replace E := W_hid (E.out.store 4 (.string (tvl s.data.toList 8 8192)))
  clear hr two
  go_wp2_with fail
  clear cv fz oc
  rw [rounds_succ]
  go_wp2_with (with_reducible show wpList _ _ _ _ _ _; refine wpList_next gi _ 1 E.out.it rfl _ rfl rfl 110 rfl (by decide) ?_; intro W1i i1 gr1; replace E := W_hid (E.out.next i1 gr1); clear i1 gr1)
  have cv := conv_i64 (nvl s.data.toList (tat s.data.toList 8 8192)) (nvl_lt _ _)
  refine (number_any E.out.rb).mono ?_
  rintro e W1 ⟨rfl, hr, two⟩
  replace E := W_hid (E.out.call hr two)
  have fz := E.out.row.fz
  have oc := E.out.row.cell (j := 1) rfl
  replace E := W_hid (E.out.store 1 (.int .i64 (si (nvl s.data.toList (tat s.data.toList 8 8192)))))
  clear hr two
  go_wp2_with fail
  clear cv fz oc
  rw [rounds_succ]
  refine wp_world (fun W => PD w W g hb s.size c s.data.toList (nat_ s.data.toList (tat s.data.toList 8 8192)) ((false || !tok s.data.toList 8 8192) || !nok s.data.toList (tat s.data.toList 8 8192)) cb _ gi (bs [116, 110]) 2) E.out ?_
  clear E
  intro WW E
  have he := fun t => run_next_e (P := Try.prog) WW gi (bs [116, 110]) 2 t E.it (by decide)
  replace E := W_hid E
  go_wp2_with fail
  refine (whole_any E.out.rb).mono ?_
  rintro e WX ⟨rfl, bel⟩
  replace E := W_hid (E.out.keep bel)
  clear he bel
  obtain ⟨q, hq⟩ : ∃ q, (!((false || !tok s.data.toList 8 8192) || !nok s.data.toList (tat s.data.toList 8 8192)) && decide ((nat_ s.data.toList (tat s.data.toList 8 8192)) = s.size)) = q := ⟨_, rfl⟩
  rw [hq]
  have hok : Hid (okR s.data.toList (rd [116, 110] s.data.toList 8 false) = q) := by
    show (!((false || !tok s.data.toList 8 8192) || !nok s.data.toList (tat s.data.toList 8 8192)) && decide ((nat_ s.data.toList (tat s.data.toList 8 8192)) = s.data.toList.length)) = q
    rw [hlen.out]; exact hq
  clear hq
  have fz := E.out.res.fz
  have z0 := E.out.res.cell (j := 0) rfl
  have z1 := E.out.res.cell (j := 1) rfl
  have z2 := E.out.res.cell (j := 2) rfl
  have z3 := E.out.res.cell (j := 3) rfl
  have z4 := E.out.res.cell (j := 4) rfl
  have z5 := E.out.res.cell (j := 5) rfl
  have y0 := E.out.row.cell (j := 0) rfl
  have y1 := E.out.row.cell (j := 1) rfl
  have y2 := E.out.row.cell (j := 2) rfl
  have y3 := E.out.row.cell (j := 3) rfl
  have y4 := E.out.row.cell (j := 4) rfl
  have y5 := E.out.row.cell (j := 5) rfl
  cases q with
  | false =>
    have hA : Hid (decQ s = (2, zc)) := by show _ = _; rw [hR.out, hok.out]; rfl
    go_wp2_with fail
    refine bodyPost_ret (res_call rfl _ _ rfl (six_blk E.out.res _ _ _ _ _ _)) rfl ⟨by rw [hA.out]; rfl, six_below E.out.below (Nat.le_refl _) _ _ _ _ _ _⟩
  | true =>
    have hA : Hid (decQ s = (0, callOf k (rd [116, 110] s.data.toList 8 false))) := by show _ = _; rw [hR.out, hok.out]; rfl
    go_wp2_with fail
    refine bodyPost_ret (res_call rfl _ _ rfl (six_blk E.out.res _ _ _ _ _ _)) rfl ⟨by rw [hA.out]; rfl, six_below E.out.below (Nat.le_refl _) _ _ _ _ _ _⟩
set_option maxRecDepth 100000 in
set_option maxHeartbeats 4000000 in
theorem dec_n (s : ByteArray) (k : Nat) (h : shp k = some (bs [110])) (hk : num (s.data.toList.take 8) = k) (hk25 : k ≤ 25) (hs1 : s.size ≤ 8192) (hs2 : 8 ≤ s.size) (w : World) :
    Calls Try.prog 13 #[.string s] w fun e w' => e = .returned (.tuple #[.agg (decQ s).2.toArray, .int .i64 (decQ s).1]) ∧ Below w.heap.size w w' := by
  have hlen : s.data.toList.length = s.size := by rw [Array.length_toList]; rfl
  have hR := decQ_some hs1 hs2 hk h
  have hbs : (bs [110]).data.toList = [110] := rfl
  rw [hbs] at hR
  replace hR := W_hid hR
  have hn0 : nvl s.data.toList 0 = k := by unfold nvl; rw [if_pos (by omega), List.drop_zero, hk]
  have hx0 : nat_ s.data.toList 0 = 8 := by unfold nat_; rw [if_pos (by omega)]
  have hk0 : nok s.data.toList 0 = true := by unfold nok; exact decide_eq_true (by omega)
  have tt := fun x => (tvl_m s.data.toList x (m := s.size) (m' := 8192) (by omega) (by omega))
  have ta := fun x => (tat_m s.data.toList x (m := s.size) (m' := 8192) (by omega) (by omega))
  have tk := fun x => (tok_m s.data.toList x (m := s.size) (m' := 8192) (by omega) (by omega))
  replace h := W_hid h
  replace hlen := W_hid hlen
  have hss : s.size ≤ maxLen := by unfold maxLen; omega
  obtain ⟨l, hl⟩ : ∃ l, l = s.data.toList := ⟨_, rfl⟩
  replace tt := W_hid tt
  replace ta := W_hid ta
  replace tk := W_hid tk
  replace hn0 := W_hid hn0
  replace hx0 := W_hid hx0
  replace hk0 := W_hid hk0
  clear hk
  have hci : ∀ W, (convert 49 3 (.int .u64 (k : Int))).run Try.prog W = .ok (.int .i64 (k : Int)) W := fun W => by
    have h1 : (convert 49 3 (.int .u64 (k : Int))).run Try.prog W = .ok (.int .i64 (IntKind.i64.wrap (k : Int))) W := by simp [go_sem]
    rw [h1, si_wrap (by omega), si, if_pos (by omega)]
  go_enter Try.func13, Try.ntmps13
  go_wp2_with (with_reducible show wpList _ _ _ _ _ _; refine wpList_bytes rfl _ rfl s rfl hss ?_; intro w1 hb c hBS bel1 hge hlt)
  have hres : Blk w1 w.heap.size 25 zc := (Blk.new w 25 zc rfl).keep bel1
  have bb : Below w.heap.size w w1 := ((Below.refl w.heap.size w).alloc (Nat.le_refl _) (.cells zc.toArray 25)).trans (Below.mono bel1 (by simp))
  have hgr : w.heap.size < hb := by simp at hge; omega
  obtain ⟨g, hg⟩ : ∃ g, g = w1.heap.size := ⟨_, rfl⟩
  have hrb : RB (w1.alloc (.cells #[.slice (some ⟨hb, 0, none⟩) s.size c, .int .i64 0, .bool false] 58)) w1.heap.size hb s.size c s.data.toList 0 false :=
    ⟨Blk.new w1 _ [.slice (some ⟨hb, 0, none⟩) s.size c, .int .i64 ((0 : Nat) : Int), .bool false] rfl, hBS.below ((Below.refl _ _).alloc (Nat.le_refl _) _) (Nat.le_refl _), by omega, Nat.zero_le _⟩
  have hres1 := hres.alloc (.cells #[.slice (some ⟨hb, 0, none⟩) s.size c, .int .i64 0, .bool false] 58)
  have bb1 := bb.alloc bb.size (.cells #[.slice (some ⟨hb, 0, none⟩) s.size c, .int .i64 0, .bool false] 58)
  refine (number_any hrb).mono ?_
  rintro e w2 ⟨rfl, hr2, two2⟩
  rw [hn0.out]
  rw [hx0.out, hk0.out] at hr2
  replace hr2 : RB w2 w1.heap.size hb s.size c s.data.toList 8 false := hr2
  have hres2 := hres1.two two2 (by have := hlt; omega) (by omega)
  have bb2 := bb1.trans (two2.below bb1.size (by have := bb.size; omega) (by have := bb.size; omega))
  have hw2 : w1.heap.size < w2.heap.size := hr2.lt
  rw [← hg] at hr2 hw2 ⊢
  have hgb : hb < g := by omega
  clear hres hres1 bb bb1 hrb two2 bel1 hBS hge hlt hg
  have z2 := hr2.row.cell (j := 2) rfl
  replace hr2 := W_hid hr2
  replace hres2 := W_hid hres2
  replace bb2 := W_hid bb2
  go_wp2_with fail
  refine (shapes_any w2).mono ?_
  rintro e w3 ⟨mb, rfl, hs, bel3⟩
  have hlk := hs.look_ok k (by omega)
  rw [h.out] at hlk
  simp only [sv, Option.getD_some, Option.isSome_some] at hlk
  clear hs z2
  replace hr2 := W_hid (hr2.out.keep bel3)
  replace hres2 := W_hid (hres2.out.keep bel3)
  replace bb2 := W_hid (bb2.out.trans (bel3.mono bb2.out.size))
  have hw3 : g < w3.heap.size := hr2.out.lt
  clear bel3 hw2
  go_wp2_with fail
  go_quiet (fail)
  go_wp2_with fail
  refine wp_world (fun W => ∃ cb gi, cb = w3.heap.size + 1 ∧ gi = w3.heap.size + 1 + 1 ∧ PD w W g hb s.size c s.data.toList 8 false cb [.int .i64 (k : Int), .int .i64 0, .int .i64 0, .int .i64 0, .string { data := #[] }, .string { data := #[] }] gi (bs [110]) 0) ⟨_, _, rfl, rfl, pd_start hr2.out hres2.out bb2.out hgr hgb _ nq _ _⟩ ?_
  rintro W0 ⟨cb, gi, hcb, hgi, E⟩
  rw [← hgi, ← hcb]
  replace E := W_hid E
  clear hr2 hres2 bb2 hgr hgb hw3 hcb hgi hlk
  refine wp_loop_rounds 3 ?_
  rw [rounds_succ]
  go_wp2_with (with_reducible show wpList _ _ _ _ _ _; refine wpList_next gi _ 0 E.out.it rfl _ rfl rfl 110 rfl (by decide) ?_; intro W0i i0 gr0; replace E := W_hid (E.out.next i0 gr0); clear i0 gr0)
  have cv := conv_i64 (nvl s.data.toList 8) (nvl_lt _ _)
  refine (number_any E.out.rb).mono ?_
  rintro e W0 ⟨rfl, hr, two⟩
  replace E := W_hid (E.out.call hr two)
  have fz := E.out.row.fz
  have oc := E.out.row.cell (j := 1) rfl
  replace E := W_hid (E.out.store 1 (.int .i64 (si (nvl s.data.toList 8))))
  clear hr two
  go_wp2_with fail
  clear cv fz oc
  rw [rounds_succ]
  refine wp_world (fun W => PD w W g hb s.size c s.data.toList (nat_ s.data.toList 8) (false || !nok s.data.toList 8) cb _ gi (bs [110]) 1) E.out ?_
  clear E
  intro WW E
  have he := fun t => run_next_e (P := Try.prog) WW gi (bs [110]) 1 t E.it (by decide)
  replace E := W_hid E
  go_wp2_with fail
  refine (whole_any E.out.rb).mono ?_
  rintro e WX ⟨rfl, bel⟩
  replace E := W_hid (E.out.keep bel)
  clear he bel
  obtain ⟨q, hq⟩ : ∃ q, (!(false || !nok s.data.toList 8) && decide ((nat_ s.data.toList 8) = s.size)) = q := ⟨_, rfl⟩
  rw [hq]
  have hok : Hid (okR s.data.toList (rd [110] s.data.toList 8 false) = q) := by
    show (!(false || !nok s.data.toList 8) && decide ((nat_ s.data.toList 8) = s.data.toList.length)) = q
    rw [hlen.out]; exact hq
  clear hq
  have fz := E.out.res.fz
  have z0 := E.out.res.cell (j := 0) rfl
  have z1 := E.out.res.cell (j := 1) rfl
  have z2 := E.out.res.cell (j := 2) rfl
  have z3 := E.out.res.cell (j := 3) rfl
  have z4 := E.out.res.cell (j := 4) rfl
  have z5 := E.out.res.cell (j := 5) rfl
  have y0 := E.out.row.cell (j := 0) rfl
  have y1 := E.out.row.cell (j := 1) rfl
  have y2 := E.out.row.cell (j := 2) rfl
  have y3 := E.out.row.cell (j := 3) rfl
  have y4 := E.out.row.cell (j := 4) rfl
  have y5 := E.out.row.cell (j := 5) rfl
  cases q with
  | false =>
    have hA : Hid (decQ s = (2, zc)) := by show _ = _; rw [hR.out, hok.out]; rfl
    go_wp2_with fail
    refine bodyPost_ret (res_call rfl _ _ rfl (six_blk E.out.res _ _ _ _ _ _)) rfl ⟨by rw [hA.out]; rfl, six_below E.out.below (Nat.le_refl _) _ _ _ _ _ _⟩
  | true =>
    have hA : Hid (decQ s = (0, callOf k (rd [110] s.data.toList 8 false))) := by show _ = _; rw [hR.out, hok.out]; rfl
    go_wp2_with fail
    refine bodyPost_ret (res_call rfl _ _ rfl (six_blk E.out.res _ _ _ _ _ _)) rfl ⟨by rw [hA.out]; rfl, six_below E.out.below (Nat.le_refl _) _ _ _ _ _ _⟩
set_option maxRecDepth 100000 in
set_option maxHeartbeats 4000000 in
theorem dec_nn (s : ByteArray) (k : Nat) (h : shp k = some (bs [110, 110])) (hk : num (s.data.toList.take 8) = k) (hk25 : k ≤ 25) (hs1 : s.size ≤ 8192) (hs2 : 8 ≤ s.size) (w : World) :
    Calls Try.prog 13 #[.string s] w fun e w' => e = .returned (.tuple #[.agg (decQ s).2.toArray, .int .i64 (decQ s).1]) ∧ Below w.heap.size w w' := by
  have hlen : s.data.toList.length = s.size := by rw [Array.length_toList]; rfl
  have hR := decQ_some hs1 hs2 hk h
  have hbs : (bs [110, 110]).data.toList = [110, 110] := rfl
  rw [hbs] at hR
  replace hR := W_hid hR
  have hn0 : nvl s.data.toList 0 = k := by unfold nvl; rw [if_pos (by omega), List.drop_zero, hk]
  have hx0 : nat_ s.data.toList 0 = 8 := by unfold nat_; rw [if_pos (by omega)]
  have hk0 : nok s.data.toList 0 = true := by unfold nok; exact decide_eq_true (by omega)
  have tt := fun x => (tvl_m s.data.toList x (m := s.size) (m' := 8192) (by omega) (by omega))
  have ta := fun x => (tat_m s.data.toList x (m := s.size) (m' := 8192) (by omega) (by omega))
  have tk := fun x => (tok_m s.data.toList x (m := s.size) (m' := 8192) (by omega) (by omega))
  replace h := W_hid h
  replace hlen := W_hid hlen
  have hss : s.size ≤ maxLen := by unfold maxLen; omega
  obtain ⟨l, hl⟩ : ∃ l, l = s.data.toList := ⟨_, rfl⟩
  replace tt := W_hid tt
  replace ta := W_hid ta
  replace tk := W_hid tk
  replace hn0 := W_hid hn0
  replace hx0 := W_hid hx0
  replace hk0 := W_hid hk0
  clear hk
  have hci : ∀ W, (convert 49 3 (.int .u64 (k : Int))).run Try.prog W = .ok (.int .i64 (k : Int)) W := fun W => by
    have h1 : (convert 49 3 (.int .u64 (k : Int))).run Try.prog W = .ok (.int .i64 (IntKind.i64.wrap (k : Int))) W := by simp [go_sem]
    rw [h1, si_wrap (by omega), si, if_pos (by omega)]
  go_enter Try.func13, Try.ntmps13
  go_wp2_with (with_reducible show wpList _ _ _ _ _ _; refine wpList_bytes rfl _ rfl s rfl hss ?_; intro w1 hb c hBS bel1 hge hlt)
  have hres : Blk w1 w.heap.size 25 zc := (Blk.new w 25 zc rfl).keep bel1
  have bb : Below w.heap.size w w1 := ((Below.refl w.heap.size w).alloc (Nat.le_refl _) (.cells zc.toArray 25)).trans (Below.mono bel1 (by simp))
  have hgr : w.heap.size < hb := by simp at hge; omega
  obtain ⟨g, hg⟩ : ∃ g, g = w1.heap.size := ⟨_, rfl⟩
  have hrb : RB (w1.alloc (.cells #[.slice (some ⟨hb, 0, none⟩) s.size c, .int .i64 0, .bool false] 58)) w1.heap.size hb s.size c s.data.toList 0 false :=
    ⟨Blk.new w1 _ [.slice (some ⟨hb, 0, none⟩) s.size c, .int .i64 ((0 : Nat) : Int), .bool false] rfl, hBS.below ((Below.refl _ _).alloc (Nat.le_refl _) _) (Nat.le_refl _), by omega, Nat.zero_le _⟩
  have hres1 := hres.alloc (.cells #[.slice (some ⟨hb, 0, none⟩) s.size c, .int .i64 0, .bool false] 58)
  have bb1 := bb.alloc bb.size (.cells #[.slice (some ⟨hb, 0, none⟩) s.size c, .int .i64 0, .bool false] 58)
  refine (number_any hrb).mono ?_
  rintro e w2 ⟨rfl, hr2, two2⟩
  rw [hn0.out]
  rw [hx0.out, hk0.out] at hr2
  replace hr2 : RB w2 w1.heap.size hb s.size c s.data.toList 8 false := hr2
  have hres2 := hres1.two two2 (by have := hlt; omega) (by omega)
  have bb2 := bb1.trans (two2.below bb1.size (by have := bb.size; omega) (by have := bb.size; omega))
  have hw2 : w1.heap.size < w2.heap.size := hr2.lt
  rw [← hg] at hr2 hw2 ⊢
  have hgb : hb < g := by omega
  clear hres hres1 bb bb1 hrb two2 bel1 hBS hge hlt hg
  have z2 := hr2.row.cell (j := 2) rfl
  replace hr2 := W_hid hr2
  replace hres2 := W_hid hres2
  replace bb2 := W_hid bb2
  go_wp2_with fail
  refine (shapes_any w2).mono ?_
  rintro e w3 ⟨mb, rfl, hs, bel3⟩
  have hlk := hs.look_ok k (by omega)
  rw [h.out] at hlk
  simp only [sv, Option.getD_some, Option.isSome_some] at hlk
  clear hs z2
  replace hr2 := W_hid (hr2.out.keep bel3)
  replace hres2 := W_hid (hres2.out.keep bel3)
  replace bb2 := W_hid (bb2.out.trans (bel3.mono bb2.out.size))
  have hw3 : g < w3.heap.size := hr2.out.lt
  clear bel3 hw2
  go_wp2_with fail
  go_quiet (fail)
  go_wp2_with fail
  refine wp_world (fun W => ∃ cb gi, cb = w3.heap.size + 1 ∧ gi = w3.heap.size + 1 + 1 ∧ PD w W g hb s.size c s.data.toList 8 false cb [.int .i64 (k : Int), .int .i64 0, .int .i64 0, .int .i64 0, .string { data := #[] }, .string { data := #[] }] gi (bs [110, 110]) 0) ⟨_, _, rfl, rfl, pd_start hr2.out hres2.out bb2.out hgr hgb _ nq _ _⟩ ?_
  rintro W0 ⟨cb, gi, hcb, hgi, E⟩
  rw [← hgi, ← hcb]
  replace E := W_hid E
  clear hr2 hres2 bb2 hgr hgb hw3 hcb hgi hlk
  refine wp_loop_rounds 4 ?_
  rw [rounds_succ]
  go_wp2_with (with_reducible show wpList _ _ _ _ _ _; refine wpList_next gi _ 0 E.out.it rfl _ rfl rfl 110 rfl (by decide) ?_; intro W0i i0 gr0; replace E := W_hid (E.out.next i0 gr0); clear i0 gr0)
  have cv := conv_i64 (nvl s.data.toList 8) (nvl_lt _ _)
  refine (number_any E.out.rb).mono ?_
  rintro e W0 ⟨rfl, hr, two⟩
  replace E := W_hid (E.out.call hr two)
  have fz := E.out.row.fz
  have oc := E.out.row.cell (j := 1) rfl
  replace E := W_hid (E.out.store 1 (.int .i64 (si (nvl s.data.toList 8))))
  clear hr two
  go_wp2_with fail
  clear cv fz oc
  rw [rounds_succ]
  go_wp2_with (with_reducible show wpList _ _ _ _ _ _; refine wpList_next gi _ 1 E.out.it rfl _ rfl rfl 110 rfl (by decide) ?_; intro W1i i1 gr1; replace E := W_hid (E.out.next i1 gr1); clear i1 gr1)
  have cv := conv_i64 (nvl s.data.toList (nat_ s.data.toList 8)) (nvl_lt _ _)
  refine (number_any E.out.rb).mono ?_
  rintro e W1 ⟨rfl, hr, two⟩
  replace E := W_hid (E.out.call hr two)
  have fz := E.out.row.fz
  have oc := E.out.row.cell (j := 2) rfl
  replace E := W_hid (E.out.store 2 (.int .i64 (si (nvl s.data.toList (nat_ s.data.toList 8)))))
  clear hr two
  go_wp2_with fail
  clear cv fz oc
  rw [rounds_succ]
  refine wp_world (fun W => PD w W g hb s.size c s.data.toList (nat_ s.data.toList (nat_ s.data.toList 8)) ((false || !nok s.data.toList 8) || !nok s.data.toList (nat_ s.data.toList 8)) cb _ gi (bs [110, 110]) 2) E.out ?_
  clear E
  intro WW E
  have he := fun t => run_next_e (P := Try.prog) WW gi (bs [110, 110]) 2 t E.it (by decide)
  replace E := W_hid E
  go_wp2_with fail
  refine (whole_any E.out.rb).mono ?_
  rintro e WX ⟨rfl, bel⟩
  replace E := W_hid (E.out.keep bel)
  clear he bel
  obtain ⟨q, hq⟩ : ∃ q, (!((false || !nok s.data.toList 8) || !nok s.data.toList (nat_ s.data.toList 8)) && decide ((nat_ s.data.toList (nat_ s.data.toList 8)) = s.size)) = q := ⟨_, rfl⟩
  rw [hq]
  have hok : Hid (okR s.data.toList (rd [110, 110] s.data.toList 8 false) = q) := by
    show (!((false || !nok s.data.toList 8) || !nok s.data.toList (nat_ s.data.toList 8)) && decide ((nat_ s.data.toList (nat_ s.data.toList 8)) = s.data.toList.length)) = q
    rw [hlen.out]; exact hq
  clear hq
  have fz := E.out.res.fz
  have z0 := E.out.res.cell (j := 0) rfl
  have z1 := E.out.res.cell (j := 1) rfl
  have z2 := E.out.res.cell (j := 2) rfl
  have z3 := E.out.res.cell (j := 3) rfl
  have z4 := E.out.res.cell (j := 4) rfl
  have z5 := E.out.res.cell (j := 5) rfl
  have y0 := E.out.row.cell (j := 0) rfl
  have y1 := E.out.row.cell (j := 1) rfl
  have y2 := E.out.row.cell (j := 2) rfl
  have y3 := E.out.row.cell (j := 3) rfl
  have y4 := E.out.row.cell (j := 4) rfl
  have y5 := E.out.row.cell (j := 5) rfl
  cases q with
  | false =>
    have hA : Hid (decQ s = (2, zc)) := by show _ = _; rw [hR.out, hok.out]; rfl
    go_wp2_with fail
    refine bodyPost_ret (res_call rfl _ _ rfl (six_blk E.out.res _ _ _ _ _ _)) rfl ⟨by rw [hA.out]; rfl, six_below E.out.below (Nat.le_refl _) _ _ _ _ _ _⟩
  | true =>
    have hA : Hid (decQ s = (0, callOf k (rd [110, 110] s.data.toList 8 false))) := by show _ = _; rw [hR.out, hok.out]; rfl
    go_wp2_with fail
    refine bodyPost_ret (res_call rfl _ _ rfl (six_blk E.out.res _ _ _ _ _ _)) rfl ⟨by rw [hA.out]; rfl, six_below E.out.below (Nat.le_refl _) _ _ _ _ _ _⟩
set_option maxRecDepth 100000 in
set_option maxHeartbeats 4000000 in
theorem dec_nt (s : ByteArray) (k : Nat) (h : shp k = some (bs [110, 116])) (hk : num (s.data.toList.take 8) = k) (hk25 : k ≤ 25) (hs1 : s.size ≤ 8192) (hs2 : 8 ≤ s.size) (w : World) :
    Calls Try.prog 13 #[.string s] w fun e w' => e = .returned (.tuple #[.agg (decQ s).2.toArray, .int .i64 (decQ s).1]) ∧ Below w.heap.size w w' := by
  have hlen : s.data.toList.length = s.size := by rw [Array.length_toList]; rfl
  have hR := decQ_some hs1 hs2 hk h
  have hbs : (bs [110, 116]).data.toList = [110, 116] := rfl
  rw [hbs] at hR
  replace hR := W_hid hR
  have hn0 : nvl s.data.toList 0 = k := by unfold nvl; rw [if_pos (by omega), List.drop_zero, hk]
  have hx0 : nat_ s.data.toList 0 = 8 := by unfold nat_; rw [if_pos (by omega)]
  have hk0 : nok s.data.toList 0 = true := by unfold nok; exact decide_eq_true (by omega)
  have tt := fun x => (tvl_m s.data.toList x (m := s.size) (m' := 8192) (by omega) (by omega))
  have ta := fun x => (tat_m s.data.toList x (m := s.size) (m' := 8192) (by omega) (by omega))
  have tk := fun x => (tok_m s.data.toList x (m := s.size) (m' := 8192) (by omega) (by omega))
  replace h := W_hid h
  replace hlen := W_hid hlen
  have hss : s.size ≤ maxLen := by unfold maxLen; omega
  obtain ⟨l, hl⟩ : ∃ l, l = s.data.toList := ⟨_, rfl⟩
  replace tt := W_hid tt
  replace ta := W_hid ta
  replace tk := W_hid tk
  replace hn0 := W_hid hn0
  replace hx0 := W_hid hx0
  replace hk0 := W_hid hk0
  clear hk
  have hci : ∀ W, (convert 49 3 (.int .u64 (k : Int))).run Try.prog W = .ok (.int .i64 (k : Int)) W := fun W => by
    have h1 : (convert 49 3 (.int .u64 (k : Int))).run Try.prog W = .ok (.int .i64 (IntKind.i64.wrap (k : Int))) W := by simp [go_sem]
    rw [h1, si_wrap (by omega), si, if_pos (by omega)]
  go_enter Try.func13, Try.ntmps13
  go_wp2_with (with_reducible show wpList _ _ _ _ _ _; refine wpList_bytes rfl _ rfl s rfl hss ?_; intro w1 hb c hBS bel1 hge hlt)
  have hres : Blk w1 w.heap.size 25 zc := (Blk.new w 25 zc rfl).keep bel1
  have bb : Below w.heap.size w w1 := ((Below.refl w.heap.size w).alloc (Nat.le_refl _) (.cells zc.toArray 25)).trans (Below.mono bel1 (by simp))
  have hgr : w.heap.size < hb := by simp at hge; omega
  obtain ⟨g, hg⟩ : ∃ g, g = w1.heap.size := ⟨_, rfl⟩
  have hrb : RB (w1.alloc (.cells #[.slice (some ⟨hb, 0, none⟩) s.size c, .int .i64 0, .bool false] 58)) w1.heap.size hb s.size c s.data.toList 0 false :=
    ⟨Blk.new w1 _ [.slice (some ⟨hb, 0, none⟩) s.size c, .int .i64 ((0 : Nat) : Int), .bool false] rfl, hBS.below ((Below.refl _ _).alloc (Nat.le_refl _) _) (Nat.le_refl _), by omega, Nat.zero_le _⟩
  have hres1 := hres.alloc (.cells #[.slice (some ⟨hb, 0, none⟩) s.size c, .int .i64 0, .bool false] 58)
  have bb1 := bb.alloc bb.size (.cells #[.slice (some ⟨hb, 0, none⟩) s.size c, .int .i64 0, .bool false] 58)
  refine (number_any hrb).mono ?_
  rintro e w2 ⟨rfl, hr2, two2⟩
  rw [hn0.out]
  rw [hx0.out, hk0.out] at hr2
  replace hr2 : RB w2 w1.heap.size hb s.size c s.data.toList 8 false := hr2
  have hres2 := hres1.two two2 (by have := hlt; omega) (by omega)
  have bb2 := bb1.trans (two2.below bb1.size (by have := bb.size; omega) (by have := bb.size; omega))
  have hw2 : w1.heap.size < w2.heap.size := hr2.lt
  rw [← hg] at hr2 hw2 ⊢
  have hgb : hb < g := by omega
  clear hres hres1 bb bb1 hrb two2 bel1 hBS hge hlt hg
  have z2 := hr2.row.cell (j := 2) rfl
  replace hr2 := W_hid hr2
  replace hres2 := W_hid hres2
  replace bb2 := W_hid bb2
  go_wp2_with fail
  refine (shapes_any w2).mono ?_
  rintro e w3 ⟨mb, rfl, hs, bel3⟩
  have hlk := hs.look_ok k (by omega)
  rw [h.out] at hlk
  simp only [sv, Option.getD_some, Option.isSome_some] at hlk
  clear hs z2
  replace hr2 := W_hid (hr2.out.keep bel3)
  replace hres2 := W_hid (hres2.out.keep bel3)
  replace bb2 := W_hid (bb2.out.trans (bel3.mono bb2.out.size))
  have hw3 : g < w3.heap.size := hr2.out.lt
  clear bel3 hw2
  go_wp2_with fail
  go_quiet (fail)
  go_wp2_with fail
  refine wp_world (fun W => ∃ cb gi, cb = w3.heap.size + 1 ∧ gi = w3.heap.size + 1 + 1 ∧ PD w W g hb s.size c s.data.toList 8 false cb [.int .i64 (k : Int), .int .i64 0, .int .i64 0, .int .i64 0, .string { data := #[] }, .string { data := #[] }] gi (bs [110, 116]) 0) ⟨_, _, rfl, rfl, pd_start hr2.out hres2.out bb2.out hgr hgb _ nq _ _⟩ ?_
  rintro W0 ⟨cb, gi, hcb, hgi, E⟩
  rw [← hgi, ← hcb]
  replace E := W_hid E
  clear hr2 hres2 bb2 hgr hgb hw3 hcb hgi hlk
  refine wp_loop_rounds 4 ?_
  rw [rounds_succ]
  go_wp2_with (with_reducible show wpList _ _ _ _ _ _; refine wpList_next gi _ 0 E.out.it rfl _ rfl rfl 110 rfl (by decide) ?_; intro W0i i0 gr0; replace E := W_hid (E.out.next i0 gr0); clear i0 gr0)
  have cv := conv_i64 (nvl s.data.toList 8) (nvl_lt _ _)
  refine (number_any E.out.rb).mono ?_
  rintro e W0 ⟨rfl, hr, two⟩
  replace E := W_hid (E.out.call hr two)
  have fz := E.out.row.fz
  have oc := E.out.row.cell (j := 1) rfl
  replace E := W_hid (E.out.store 1 (.int .i64 (si (nvl s.data.toList 8))))
  clear hr two
  go_wp2_with fail
  clear cv fz oc
  rw [rounds_succ]
  go_wp2_with (with_reducible show wpList _ _ _ _ _ _; refine wpList_next gi _ 1 E.out.it rfl _ rfl rfl 116 rfl (by decide) ?_; intro W1i i1 gr1; replace E := W_hid (E.out.next i1 gr1); clear i1 gr1)
  have cv := True.intro
  refine (text_any E.out.rb s.size (by omega)).mono ?_
  rintro e W1 ⟨rfl, hr, two⟩
  rw [tt.out]
  rw [ta.out, tk.out] at hr
  replace E := W_hid (E.out.call hr two)
  have fz := E.out.row.fz
  have oc := E.out.row.cell (j := 4) rfl
  replace E := W_hid (E.out.store 4 (.string (tvl s.data.toList (nat_ s.data.toList 8) 8192)))
  clear hr two
  go_wp2_with fail
  clear cv fz oc
  rw [rounds_succ]
  refine wp_world (fun W => PD w W g hb s.size c s.data.toList (tat s.data.toList (nat_ s.data.toList 8) 8192) ((false || !nok s.data.toList 8) || !tok s.data.toList (nat_ s.data.toList 8) 8192) cb _ gi (bs [110, 116]) 2) E.out ?_
  clear E
  intro WW E
  have he := fun t => run_next_e (P := Try.prog) WW gi (bs [110, 116]) 2 t E.it (by decide)
  replace E := W_hid E
  go_wp2_with fail
  refine (whole_any E.out.rb).mono ?_
  rintro e WX ⟨rfl, bel⟩
  replace E := W_hid (E.out.keep bel)
  clear he bel
  obtain ⟨q, hq⟩ : ∃ q, (!((false || !nok s.data.toList 8) || !tok s.data.toList (nat_ s.data.toList 8) 8192) && decide ((tat s.data.toList (nat_ s.data.toList 8) 8192) = s.size)) = q := ⟨_, rfl⟩
  rw [hq]
  have hok : Hid (okR s.data.toList (rd [110, 116] s.data.toList 8 false) = q) := by
    show (!((false || !nok s.data.toList 8) || !tok s.data.toList (nat_ s.data.toList 8) 8192) && decide ((tat s.data.toList (nat_ s.data.toList 8) 8192) = s.data.toList.length)) = q
    rw [hlen.out]; exact hq
  clear hq
  have fz := E.out.res.fz
  have z0 := E.out.res.cell (j := 0) rfl
  have z1 := E.out.res.cell (j := 1) rfl
  have z2 := E.out.res.cell (j := 2) rfl
  have z3 := E.out.res.cell (j := 3) rfl
  have z4 := E.out.res.cell (j := 4) rfl
  have z5 := E.out.res.cell (j := 5) rfl
  have y0 := E.out.row.cell (j := 0) rfl
  have y1 := E.out.row.cell (j := 1) rfl
  have y2 := E.out.row.cell (j := 2) rfl
  have y3 := E.out.row.cell (j := 3) rfl
  have y4 := E.out.row.cell (j := 4) rfl
  have y5 := E.out.row.cell (j := 5) rfl
  cases q with
  | false =>
    have hA : Hid (decQ s = (2, zc)) := by show _ = _; rw [hR.out, hok.out]; rfl
    go_wp2_with fail
    refine bodyPost_ret (res_call rfl _ _ rfl (six_blk E.out.res _ _ _ _ _ _)) rfl ⟨by rw [hA.out]; rfl, six_below E.out.below (Nat.le_refl _) _ _ _ _ _ _⟩
  | true =>
    have hA : Hid (decQ s = (0, callOf k (rd [110, 116] s.data.toList 8 false))) := by show _ = _; rw [hR.out, hok.out]; rfl
    go_wp2_with fail
    refine bodyPost_ret (res_call rfl _ _ rfl (six_blk E.out.res _ _ _ _ _ _)) rfl ⟨by rw [hA.out]; rfl, six_below E.out.below (Nat.le_refl _) _ _ _ _ _ _⟩
set_option maxRecDepth 100000 in
set_option maxHeartbeats 4000000 in
theorem dec_nnn (s : ByteArray) (k : Nat) (h : shp k = some (bs [110, 110, 110])) (hk : num (s.data.toList.take 8) = k) (hk25 : k ≤ 25) (hs1 : s.size ≤ 8192) (hs2 : 8 ≤ s.size) (w : World) :
    Calls Try.prog 13 #[.string s] w fun e w' => e = .returned (.tuple #[.agg (decQ s).2.toArray, .int .i64 (decQ s).1]) ∧ Below w.heap.size w w' := by
  have hlen : s.data.toList.length = s.size := by rw [Array.length_toList]; rfl
  have hR := decQ_some hs1 hs2 hk h
  have hbs : (bs [110, 110, 110]).data.toList = [110, 110, 110] := rfl
  rw [hbs] at hR
  replace hR := W_hid hR
  have hn0 : nvl s.data.toList 0 = k := by unfold nvl; rw [if_pos (by omega), List.drop_zero, hk]
  have hx0 : nat_ s.data.toList 0 = 8 := by unfold nat_; rw [if_pos (by omega)]
  have hk0 : nok s.data.toList 0 = true := by unfold nok; exact decide_eq_true (by omega)
  have tt := fun x => (tvl_m s.data.toList x (m := s.size) (m' := 8192) (by omega) (by omega))
  have ta := fun x => (tat_m s.data.toList x (m := s.size) (m' := 8192) (by omega) (by omega))
  have tk := fun x => (tok_m s.data.toList x (m := s.size) (m' := 8192) (by omega) (by omega))
  replace h := W_hid h
  replace hlen := W_hid hlen
  have hss : s.size ≤ maxLen := by unfold maxLen; omega
  obtain ⟨l, hl⟩ : ∃ l, l = s.data.toList := ⟨_, rfl⟩
  replace tt := W_hid tt
  replace ta := W_hid ta
  replace tk := W_hid tk
  replace hn0 := W_hid hn0
  replace hx0 := W_hid hx0
  replace hk0 := W_hid hk0
  clear hk
  have hci : ∀ W, (convert 49 3 (.int .u64 (k : Int))).run Try.prog W = .ok (.int .i64 (k : Int)) W := fun W => by
    have h1 : (convert 49 3 (.int .u64 (k : Int))).run Try.prog W = .ok (.int .i64 (IntKind.i64.wrap (k : Int))) W := by simp [go_sem]
    rw [h1, si_wrap (by omega), si, if_pos (by omega)]
  go_enter Try.func13, Try.ntmps13
  go_wp2_with (with_reducible show wpList _ _ _ _ _ _; refine wpList_bytes rfl _ rfl s rfl hss ?_; intro w1 hb c hBS bel1 hge hlt)
  have hres : Blk w1 w.heap.size 25 zc := (Blk.new w 25 zc rfl).keep bel1
  have bb : Below w.heap.size w w1 := ((Below.refl w.heap.size w).alloc (Nat.le_refl _) (.cells zc.toArray 25)).trans (Below.mono bel1 (by simp))
  have hgr : w.heap.size < hb := by simp at hge; omega
  obtain ⟨g, hg⟩ : ∃ g, g = w1.heap.size := ⟨_, rfl⟩
  have hrb : RB (w1.alloc (.cells #[.slice (some ⟨hb, 0, none⟩) s.size c, .int .i64 0, .bool false] 58)) w1.heap.size hb s.size c s.data.toList 0 false :=
    ⟨Blk.new w1 _ [.slice (some ⟨hb, 0, none⟩) s.size c, .int .i64 ((0 : Nat) : Int), .bool false] rfl, hBS.below ((Below.refl _ _).alloc (Nat.le_refl _) _) (Nat.le_refl _), by omega, Nat.zero_le _⟩
  have hres1 := hres.alloc (.cells #[.slice (some ⟨hb, 0, none⟩) s.size c, .int .i64 0, .bool false] 58)
  have bb1 := bb.alloc bb.size (.cells #[.slice (some ⟨hb, 0, none⟩) s.size c, .int .i64 0, .bool false] 58)
  refine (number_any hrb).mono ?_
  rintro e w2 ⟨rfl, hr2, two2⟩
  rw [hn0.out]
  rw [hx0.out, hk0.out] at hr2
  replace hr2 : RB w2 w1.heap.size hb s.size c s.data.toList 8 false := hr2
  have hres2 := hres1.two two2 (by have := hlt; omega) (by omega)
  have bb2 := bb1.trans (two2.below bb1.size (by have := bb.size; omega) (by have := bb.size; omega))
  have hw2 : w1.heap.size < w2.heap.size := hr2.lt
  rw [← hg] at hr2 hw2 ⊢
  have hgb : hb < g := by omega
  clear hres hres1 bb bb1 hrb two2 bel1 hBS hge hlt hg
  have z2 := hr2.row.cell (j := 2) rfl
  replace hr2 := W_hid hr2
  replace hres2 := W_hid hres2
  replace bb2 := W_hid bb2
  go_wp2_with fail
  refine (shapes_any w2).mono ?_
  rintro e w3 ⟨mb, rfl, hs, bel3⟩
  have hlk := hs.look_ok k (by omega)
  rw [h.out] at hlk
  simp only [sv, Option.getD_some, Option.isSome_some] at hlk
  clear hs z2
  replace hr2 := W_hid (hr2.out.keep bel3)
  replace hres2 := W_hid (hres2.out.keep bel3)
  replace bb2 := W_hid (bb2.out.trans (bel3.mono bb2.out.size))
  have hw3 : g < w3.heap.size := hr2.out.lt
  clear bel3 hw2
  go_wp2_with fail
  go_quiet (fail)
  go_wp2_with fail
  refine wp_world (fun W => ∃ cb gi, cb = w3.heap.size + 1 ∧ gi = w3.heap.size + 1 + 1 ∧ PD w W g hb s.size c s.data.toList 8 false cb [.int .i64 (k : Int), .int .i64 0, .int .i64 0, .int .i64 0, .string { data := #[] }, .string { data := #[] }] gi (bs [110, 110, 110]) 0) ⟨_, _, rfl, rfl, pd_start hr2.out hres2.out bb2.out hgr hgb _ nq _ _⟩ ?_
  rintro W0 ⟨cb, gi, hcb, hgi, E⟩
  rw [← hgi, ← hcb]
  replace E := W_hid E
  clear hr2 hres2 bb2 hgr hgb hw3 hcb hgi hlk
  refine wp_loop_rounds 5 ?_
  rw [rounds_succ]
  go_wp2_with (with_reducible show wpList _ _ _ _ _ _; refine wpList_next gi _ 0 E.out.it rfl _ rfl rfl 110 rfl (by decide) ?_; intro W0i i0 gr0; replace E := W_hid (E.out.next i0 gr0); clear i0 gr0)
  have cv := conv_i64 (nvl s.data.toList 8) (nvl_lt _ _)
  refine (number_any E.out.rb).mono ?_
  rintro e W0 ⟨rfl, hr, two⟩
  replace E := W_hid (E.out.call hr two)
  have fz := E.out.row.fz
  have oc := E.out.row.cell (j := 1) rfl
  replace E := W_hid (E.out.store 1 (.int .i64 (si (nvl s.data.toList 8))))
  clear hr two
  go_wp2_with fail
  clear cv fz oc
  rw [rounds_succ]
  go_wp2_with (with_reducible show wpList _ _ _ _ _ _; refine wpList_next gi _ 1 E.out.it rfl _ rfl rfl 110 rfl (by decide) ?_; intro W1i i1 gr1; replace E := W_hid (E.out.next i1 gr1); clear i1 gr1)
  have cv := conv_i64 (nvl s.data.toList (nat_ s.data.toList 8)) (nvl_lt _ _)
  refine (number_any E.out.rb).mono ?_
  rintro e W1 ⟨rfl, hr, two⟩
  replace E := W_hid (E.out.call hr two)
  have fz := E.out.row.fz
  have oc := E.out.row.cell (j := 2) rfl
  replace E := W_hid (E.out.store 2 (.int .i64 (si (nvl s.data.toList (nat_ s.data.toList 8)))))
  clear hr two
  go_wp2_with fail
  clear cv fz oc
  rw [rounds_succ]
  go_wp2_with (with_reducible show wpList _ _ _ _ _ _; refine wpList_next gi _ 2 E.out.it rfl _ rfl rfl 110 rfl (by decide) ?_; intro W2i i2 gr2; replace E := W_hid (E.out.next i2 gr2); clear i2 gr2)
  have cv := conv_i64 (nvl s.data.toList (nat_ s.data.toList (nat_ s.data.toList 8))) (nvl_lt _ _)
  refine (number_any E.out.rb).mono ?_
  rintro e W2 ⟨rfl, hr, two⟩
  replace E := W_hid (E.out.call hr two)
  have fz := E.out.row.fz
  have oc := E.out.row.cell (j := 3) rfl
  replace E := W_hid (E.out.store 3 (.int .i64 (si (nvl s.data.toList (nat_ s.data.toList (nat_ s.data.toList 8))))))
  clear hr two
  go_wp2_with fail
  clear cv fz oc
  rw [rounds_succ]
  refine wp_world (fun W => PD w W g hb s.size c s.data.toList (nat_ s.data.toList (nat_ s.data.toList (nat_ s.data.toList 8))) (((false || !nok s.data.toList 8) || !nok s.data.toList (nat_ s.data.toList 8)) || !nok s.data.toList (nat_ s.data.toList (nat_ s.data.toList 8))) cb _ gi (bs [110, 110, 110]) 3) E.out ?_
  clear E
  intro WW E
  have he := fun t => run_next_e (P := Try.prog) WW gi (bs [110, 110, 110]) 3 t E.it (by decide)
  replace E := W_hid E
  go_wp2_with fail
  refine (whole_any E.out.rb).mono ?_
  rintro e WX ⟨rfl, bel⟩
  replace E := W_hid (E.out.keep bel)
  clear he bel
  obtain ⟨q, hq⟩ : ∃ q, (!(((false || !nok s.data.toList 8) || !nok s.data.toList (nat_ s.data.toList 8)) || !nok s.data.toList (nat_ s.data.toList (nat_ s.data.toList 8))) && decide ((nat_ s.data.toList (nat_ s.data.toList (nat_ s.data.toList 8))) = s.size)) = q := ⟨_, rfl⟩
  rw [hq]
  have hok : Hid (okR s.data.toList (rd [110, 110, 110] s.data.toList 8 false) = q) := by
    show (!(((false || !nok s.data.toList 8) || !nok s.data.toList (nat_ s.data.toList 8)) || !nok s.data.toList (nat_ s.data.toList (nat_ s.data.toList 8))) && decide ((nat_ s.data.toList (nat_ s.data.toList (nat_ s.data.toList 8))) = s.data.toList.length)) = q
    rw [hlen.out]; exact hq
  clear hq
  have fz := E.out.res.fz
  have z0 := E.out.res.cell (j := 0) rfl
  have z1 := E.out.res.cell (j := 1) rfl
  have z2 := E.out.res.cell (j := 2) rfl
  have z3 := E.out.res.cell (j := 3) rfl
  have z4 := E.out.res.cell (j := 4) rfl
  have z5 := E.out.res.cell (j := 5) rfl
  have y0 := E.out.row.cell (j := 0) rfl
  have y1 := E.out.row.cell (j := 1) rfl
  have y2 := E.out.row.cell (j := 2) rfl
  have y3 := E.out.row.cell (j := 3) rfl
  have y4 := E.out.row.cell (j := 4) rfl
  have y5 := E.out.row.cell (j := 5) rfl
  cases q with
  | false =>
    have hA : Hid (decQ s = (2, zc)) := by show _ = _; rw [hR.out, hok.out]; rfl
    go_wp2_with fail
    refine bodyPost_ret (res_call rfl _ _ rfl (six_blk E.out.res _ _ _ _ _ _)) rfl ⟨by rw [hA.out]; rfl, six_below E.out.below (Nat.le_refl _) _ _ _ _ _ _⟩
  | true =>
    have hA : Hid (decQ s = (0, callOf k (rd [110, 110, 110] s.data.toList 8 false))) := by show _ = _; rw [hR.out, hok.out]; rfl
    go_wp2_with fail
    refine bodyPost_ret (res_call rfl _ _ rfl (six_blk E.out.res _ _ _ _ _ _)) rfl ⟨by rw [hA.out]; rfl, six_below E.out.below (Nat.le_refl _) _ _ _ _ _ _⟩
set_option maxRecDepth 100000 in
set_option maxHeartbeats 4000000 in
theorem dec_t (s : ByteArray) (k : Nat) (h : shp k = some (bs [116])) (hk : num (s.data.toList.take 8) = k) (hk25 : k ≤ 25) (hs1 : s.size ≤ 8192) (hs2 : 8 ≤ s.size) (w : World) :
    Calls Try.prog 13 #[.string s] w fun e w' => e = .returned (.tuple #[.agg (decQ s).2.toArray, .int .i64 (decQ s).1]) ∧ Below w.heap.size w w' := by
  have hlen : s.data.toList.length = s.size := by rw [Array.length_toList]; rfl
  have hR := decQ_some hs1 hs2 hk h
  have hbs : (bs [116]).data.toList = [116] := rfl
  rw [hbs] at hR
  replace hR := W_hid hR
  have hn0 : nvl s.data.toList 0 = k := by unfold nvl; rw [if_pos (by omega), List.drop_zero, hk]
  have hx0 : nat_ s.data.toList 0 = 8 := by unfold nat_; rw [if_pos (by omega)]
  have hk0 : nok s.data.toList 0 = true := by unfold nok; exact decide_eq_true (by omega)
  have tt := fun x => (tvl_m s.data.toList x (m := s.size) (m' := 8192) (by omega) (by omega))
  have ta := fun x => (tat_m s.data.toList x (m := s.size) (m' := 8192) (by omega) (by omega))
  have tk := fun x => (tok_m s.data.toList x (m := s.size) (m' := 8192) (by omega) (by omega))
  replace h := W_hid h
  replace hlen := W_hid hlen
  have hss : s.size ≤ maxLen := by unfold maxLen; omega
  obtain ⟨l, hl⟩ : ∃ l, l = s.data.toList := ⟨_, rfl⟩
  replace tt := W_hid tt
  replace ta := W_hid ta
  replace tk := W_hid tk
  replace hn0 := W_hid hn0
  replace hx0 := W_hid hx0
  replace hk0 := W_hid hk0
  clear hk
  have hci : ∀ W, (convert 49 3 (.int .u64 (k : Int))).run Try.prog W = .ok (.int .i64 (k : Int)) W := fun W => by
    have h1 : (convert 49 3 (.int .u64 (k : Int))).run Try.prog W = .ok (.int .i64 (IntKind.i64.wrap (k : Int))) W := by simp [go_sem]
    rw [h1, si_wrap (by omega), si, if_pos (by omega)]
  go_enter Try.func13, Try.ntmps13
  go_wp2_with (with_reducible show wpList _ _ _ _ _ _; refine wpList_bytes rfl _ rfl s rfl hss ?_; intro w1 hb c hBS bel1 hge hlt)
  have hres : Blk w1 w.heap.size 25 zc := (Blk.new w 25 zc rfl).keep bel1
  have bb : Below w.heap.size w w1 := ((Below.refl w.heap.size w).alloc (Nat.le_refl _) (.cells zc.toArray 25)).trans (Below.mono bel1 (by simp))
  have hgr : w.heap.size < hb := by simp at hge; omega
  obtain ⟨g, hg⟩ : ∃ g, g = w1.heap.size := ⟨_, rfl⟩
  have hrb : RB (w1.alloc (.cells #[.slice (some ⟨hb, 0, none⟩) s.size c, .int .i64 0, .bool false] 58)) w1.heap.size hb s.size c s.data.toList 0 false :=
    ⟨Blk.new w1 _ [.slice (some ⟨hb, 0, none⟩) s.size c, .int .i64 ((0 : Nat) : Int), .bool false] rfl, hBS.below ((Below.refl _ _).alloc (Nat.le_refl _) _) (Nat.le_refl _), by omega, Nat.zero_le _⟩
  have hres1 := hres.alloc (.cells #[.slice (some ⟨hb, 0, none⟩) s.size c, .int .i64 0, .bool false] 58)
  have bb1 := bb.alloc bb.size (.cells #[.slice (some ⟨hb, 0, none⟩) s.size c, .int .i64 0, .bool false] 58)
  refine (number_any hrb).mono ?_
  rintro e w2 ⟨rfl, hr2, two2⟩
  rw [hn0.out]
  rw [hx0.out, hk0.out] at hr2
  replace hr2 : RB w2 w1.heap.size hb s.size c s.data.toList 8 false := hr2
  have hres2 := hres1.two two2 (by have := hlt; omega) (by omega)
  have bb2 := bb1.trans (two2.below bb1.size (by have := bb.size; omega) (by have := bb.size; omega))
  have hw2 : w1.heap.size < w2.heap.size := hr2.lt
  rw [← hg] at hr2 hw2 ⊢
  have hgb : hb < g := by omega
  clear hres hres1 bb bb1 hrb two2 bel1 hBS hge hlt hg
  have z2 := hr2.row.cell (j := 2) rfl
  replace hr2 := W_hid hr2
  replace hres2 := W_hid hres2
  replace bb2 := W_hid bb2
  go_wp2_with fail
  refine (shapes_any w2).mono ?_
  rintro e w3 ⟨mb, rfl, hs, bel3⟩
  have hlk := hs.look_ok k (by omega)
  rw [h.out] at hlk
  simp only [sv, Option.getD_some, Option.isSome_some] at hlk
  clear hs z2
  replace hr2 := W_hid (hr2.out.keep bel3)
  replace hres2 := W_hid (hres2.out.keep bel3)
  replace bb2 := W_hid (bb2.out.trans (bel3.mono bb2.out.size))
  have hw3 : g < w3.heap.size := hr2.out.lt
  clear bel3 hw2
  go_wp2_with fail
  go_quiet (fail)
  go_wp2_with fail
  refine wp_world (fun W => ∃ cb gi, cb = w3.heap.size + 1 ∧ gi = w3.heap.size + 1 + 1 ∧ PD w W g hb s.size c s.data.toList 8 false cb [.int .i64 (k : Int), .int .i64 0, .int .i64 0, .int .i64 0, .string { data := #[] }, .string { data := #[] }] gi (bs [116]) 0) ⟨_, _, rfl, rfl, pd_start hr2.out hres2.out bb2.out hgr hgb _ nq _ _⟩ ?_
  rintro W0 ⟨cb, gi, hcb, hgi, E⟩
  rw [← hgi, ← hcb]
  replace E := W_hid E
  clear hr2 hres2 bb2 hgr hgb hw3 hcb hgi hlk
  refine wp_loop_rounds 3 ?_
  rw [rounds_succ]
  go_wp2_with (with_reducible show wpList _ _ _ _ _ _; refine wpList_next gi _ 0 E.out.it rfl _ rfl rfl 116 rfl (by decide) ?_; intro W0i i0 gr0; replace E := W_hid (E.out.next i0 gr0); clear i0 gr0)
  have cv := True.intro
  refine (text_any E.out.rb s.size (by omega)).mono ?_
  rintro e W0 ⟨rfl, hr, two⟩
  rw [tt.out]
  rw [ta.out, tk.out] at hr
  replace E := W_hid (E.out.call hr two)
  have fz := E.out.row.fz
  have oc := E.out.row.cell (j := 4) rfl
  replace E := W_hid (E.out.store 4 (.string (tvl s.data.toList 8 8192)))
  clear hr two
  go_wp2_with fail
  clear cv fz oc
  rw [rounds_succ]
  refine wp_world (fun W => PD w W g hb s.size c s.data.toList (tat s.data.toList 8 8192) (false || !tok s.data.toList 8 8192) cb _ gi (bs [116]) 1) E.out ?_
  clear E
  intro WW E
  have he := fun t => run_next_e (P := Try.prog) WW gi (bs [116]) 1 t E.it (by decide)
  replace E := W_hid E
  go_wp2_with fail
  refine (whole_any E.out.rb).mono ?_
  rintro e WX ⟨rfl, bel⟩
  replace E := W_hid (E.out.keep bel)
  clear he bel
  obtain ⟨q, hq⟩ : ∃ q, (!(false || !tok s.data.toList 8 8192) && decide ((tat s.data.toList 8 8192) = s.size)) = q := ⟨_, rfl⟩
  rw [hq]
  have hok : Hid (okR s.data.toList (rd [116] s.data.toList 8 false) = q) := by
    show (!(false || !tok s.data.toList 8 8192) && decide ((tat s.data.toList 8 8192) = s.data.toList.length)) = q
    rw [hlen.out]; exact hq
  clear hq
  have fz := E.out.res.fz
  have z0 := E.out.res.cell (j := 0) rfl
  have z1 := E.out.res.cell (j := 1) rfl
  have z2 := E.out.res.cell (j := 2) rfl
  have z3 := E.out.res.cell (j := 3) rfl
  have z4 := E.out.res.cell (j := 4) rfl
  have z5 := E.out.res.cell (j := 5) rfl
  have y0 := E.out.row.cell (j := 0) rfl
  have y1 := E.out.row.cell (j := 1) rfl
  have y2 := E.out.row.cell (j := 2) rfl
  have y3 := E.out.row.cell (j := 3) rfl
  have y4 := E.out.row.cell (j := 4) rfl
  have y5 := E.out.row.cell (j := 5) rfl
  cases q with
  | false =>
    have hA : Hid (decQ s = (2, zc)) := by show _ = _; rw [hR.out, hok.out]; rfl
    go_wp2_with fail
    refine bodyPost_ret (res_call rfl _ _ rfl (six_blk E.out.res _ _ _ _ _ _)) rfl ⟨by rw [hA.out]; rfl, six_below E.out.below (Nat.le_refl _) _ _ _ _ _ _⟩
  | true =>
    have hA : Hid (decQ s = (0, callOf k (rd [116] s.data.toList 8 false))) := by show _ = _; rw [hR.out, hok.out]; rfl
    go_wp2_with fail
    refine bodyPost_ret (res_call rfl _ _ rfl (six_blk E.out.res _ _ _ _ _ _)) rfl ⟨by rw [hA.out]; rfl, six_below E.out.below (Nat.le_refl _) _ _ _ _ _ _⟩
set_option maxRecDepth 100000 in
set_option maxHeartbeats 4000000 in
theorem dec_tt (s : ByteArray) (k : Nat) (h : shp k = some (bs [116, 116])) (hk : num (s.data.toList.take 8) = k) (hk25 : k ≤ 25) (hs1 : s.size ≤ 8192) (hs2 : 8 ≤ s.size) (w : World) :
    Calls Try.prog 13 #[.string s] w fun e w' => e = .returned (.tuple #[.agg (decQ s).2.toArray, .int .i64 (decQ s).1]) ∧ Below w.heap.size w w' := by
  have hlen : s.data.toList.length = s.size := by rw [Array.length_toList]; rfl
  have hR := decQ_some hs1 hs2 hk h
  have hbs : (bs [116, 116]).data.toList = [116, 116] := rfl
  rw [hbs] at hR
  replace hR := W_hid hR
  have hn0 : nvl s.data.toList 0 = k := by unfold nvl; rw [if_pos (by omega), List.drop_zero, hk]
  have hx0 : nat_ s.data.toList 0 = 8 := by unfold nat_; rw [if_pos (by omega)]
  have hk0 : nok s.data.toList 0 = true := by unfold nok; exact decide_eq_true (by omega)
  have tt := fun x => (tvl_m s.data.toList x (m := s.size) (m' := 8192) (by omega) (by omega))
  have ta := fun x => (tat_m s.data.toList x (m := s.size) (m' := 8192) (by omega) (by omega))
  have tk := fun x => (tok_m s.data.toList x (m := s.size) (m' := 8192) (by omega) (by omega))
  replace h := W_hid h
  replace hlen := W_hid hlen
  have hss : s.size ≤ maxLen := by unfold maxLen; omega
  obtain ⟨l, hl⟩ : ∃ l, l = s.data.toList := ⟨_, rfl⟩
  replace tt := W_hid tt
  replace ta := W_hid ta
  replace tk := W_hid tk
  replace hn0 := W_hid hn0
  replace hx0 := W_hid hx0
  replace hk0 := W_hid hk0
  clear hk
  have hci : ∀ W, (convert 49 3 (.int .u64 (k : Int))).run Try.prog W = .ok (.int .i64 (k : Int)) W := fun W => by
    have h1 : (convert 49 3 (.int .u64 (k : Int))).run Try.prog W = .ok (.int .i64 (IntKind.i64.wrap (k : Int))) W := by simp [go_sem]
    rw [h1, si_wrap (by omega), si, if_pos (by omega)]
  go_enter Try.func13, Try.ntmps13
  go_wp2_with (with_reducible show wpList _ _ _ _ _ _; refine wpList_bytes rfl _ rfl s rfl hss ?_; intro w1 hb c hBS bel1 hge hlt)
  have hres : Blk w1 w.heap.size 25 zc := (Blk.new w 25 zc rfl).keep bel1
  have bb : Below w.heap.size w w1 := ((Below.refl w.heap.size w).alloc (Nat.le_refl _) (.cells zc.toArray 25)).trans (Below.mono bel1 (by simp))
  have hgr : w.heap.size < hb := by simp at hge; omega
  obtain ⟨g, hg⟩ : ∃ g, g = w1.heap.size := ⟨_, rfl⟩
  have hrb : RB (w1.alloc (.cells #[.slice (some ⟨hb, 0, none⟩) s.size c, .int .i64 0, .bool false] 58)) w1.heap.size hb s.size c s.data.toList 0 false :=
    ⟨Blk.new w1 _ [.slice (some ⟨hb, 0, none⟩) s.size c, .int .i64 ((0 : Nat) : Int), .bool false] rfl, hBS.below ((Below.refl _ _).alloc (Nat.le_refl _) _) (Nat.le_refl _), by omega, Nat.zero_le _⟩
  have hres1 := hres.alloc (.cells #[.slice (some ⟨hb, 0, none⟩) s.size c, .int .i64 0, .bool false] 58)
  have bb1 := bb.alloc bb.size (.cells #[.slice (some ⟨hb, 0, none⟩) s.size c, .int .i64 0, .bool false] 58)
  refine (number_any hrb).mono ?_
  rintro e w2 ⟨rfl, hr2, two2⟩
  rw [hn0.out]
  rw [hx0.out, hk0.out] at hr2
  replace hr2 : RB w2 w1.heap.size hb s.size c s.data.toList 8 false := hr2
  have hres2 := hres1.two two2 (by have := hlt; omega) (by omega)
  have bb2 := bb1.trans (two2.below bb1.size (by have := bb.size; omega) (by have := bb.size; omega))
  have hw2 : w1.heap.size < w2.heap.size := hr2.lt
  rw [← hg] at hr2 hw2 ⊢
  have hgb : hb < g := by omega
  clear hres hres1 bb bb1 hrb two2 bel1 hBS hge hlt hg
  have z2 := hr2.row.cell (j := 2) rfl
  replace hr2 := W_hid hr2
  replace hres2 := W_hid hres2
  replace bb2 := W_hid bb2
  go_wp2_with fail
  refine (shapes_any w2).mono ?_
  rintro e w3 ⟨mb, rfl, hs, bel3⟩
  have hlk := hs.look_ok k (by omega)
  rw [h.out] at hlk
  simp only [sv, Option.getD_some, Option.isSome_some] at hlk
  clear hs z2
  replace hr2 := W_hid (hr2.out.keep bel3)
  replace hres2 := W_hid (hres2.out.keep bel3)
  replace bb2 := W_hid (bb2.out.trans (bel3.mono bb2.out.size))
  have hw3 : g < w3.heap.size := hr2.out.lt
  clear bel3 hw2
  go_wp2_with fail
  go_quiet (fail)
  go_wp2_with fail
  refine wp_world (fun W => ∃ cb gi, cb = w3.heap.size + 1 ∧ gi = w3.heap.size + 1 + 1 ∧ PD w W g hb s.size c s.data.toList 8 false cb [.int .i64 (k : Int), .int .i64 0, .int .i64 0, .int .i64 0, .string { data := #[] }, .string { data := #[] }] gi (bs [116, 116]) 0) ⟨_, _, rfl, rfl, pd_start hr2.out hres2.out bb2.out hgr hgb _ nq _ _⟩ ?_
  rintro W0 ⟨cb, gi, hcb, hgi, E⟩
  rw [← hgi, ← hcb]
  replace E := W_hid E
  clear hr2 hres2 bb2 hgr hgb hw3 hcb hgi hlk
  refine wp_loop_rounds 4 ?_
  rw [rounds_succ]
  go_wp2_with (with_reducible show wpList _ _ _ _ _ _; refine wpList_next gi _ 0 E.out.it rfl _ rfl rfl 116 rfl (by decide) ?_; intro W0i i0 gr0; replace E := W_hid (E.out.next i0 gr0); clear i0 gr0)
  have cv := True.intro
  refine (text_any E.out.rb s.size (by omega)).mono ?_
  rintro e W0 ⟨rfl, hr, two⟩
  rw [tt.out]
  rw [ta.out, tk.out] at hr
  replace E := W_hid (E.out.call hr two)
  have fz := E.out.row.fz
  have oc := E.out.row.cell (j := 4) rfl
  replace E := W_hid (E.out.store 4 (.string (tvl s.data.toList 8 8192)))
  clear hr two
  go_wp2_with fail
  clear cv fz oc
  rw [rounds_succ]
  go_wp2_with (with_reducible show wpList _ _ _ _ _ _; refine wpList_next gi _ 1 E.out.it rfl _ rfl rfl 116 rfl (by decide) ?_; intro W1i i1 gr1; replace E := W_hid (E.out.next i1 gr1); clear i1 gr1)
  have cv := True.intro
  refine (text_any E.out.rb s.size (by omega)).mono ?_
  rintro e W1 ⟨rfl, hr, two⟩
  rw [tt.out]
  rw [ta.out, tk.out] at hr
  replace E := W_hid (E.out.call hr two)
  have fz := E.out.row.fz
  have oc := E.out.row.cell (j := 5) rfl
  replace E := W_hid (E.out.store 5 (.string (tvl s.data.toList (tat s.data.toList 8 8192) 8192)))
  clear hr two
  go_wp2_with fail
  clear cv fz oc
  rw [rounds_succ]
  refine wp_world (fun W => PD w W g hb s.size c s.data.toList (tat s.data.toList (tat s.data.toList 8 8192) 8192) ((false || !tok s.data.toList 8 8192) || !tok s.data.toList (tat s.data.toList 8 8192) 8192) cb _ gi (bs [116, 116]) 2) E.out ?_
  clear E
  intro WW E
  have he := fun t => run_next_e (P := Try.prog) WW gi (bs [116, 116]) 2 t E.it (by decide)
  replace E := W_hid E
  go_wp2_with fail
  refine (whole_any E.out.rb).mono ?_
  rintro e WX ⟨rfl, bel⟩
  replace E := W_hid (E.out.keep bel)
  clear he bel
  obtain ⟨q, hq⟩ : ∃ q, (!((false || !tok s.data.toList 8 8192) || !tok s.data.toList (tat s.data.toList 8 8192) 8192) && decide ((tat s.data.toList (tat s.data.toList 8 8192) 8192) = s.size)) = q := ⟨_, rfl⟩
  rw [hq]
  have hok : Hid (okR s.data.toList (rd [116, 116] s.data.toList 8 false) = q) := by
    show (!((false || !tok s.data.toList 8 8192) || !tok s.data.toList (tat s.data.toList 8 8192) 8192) && decide ((tat s.data.toList (tat s.data.toList 8 8192) 8192) = s.data.toList.length)) = q
    rw [hlen.out]; exact hq
  clear hq
  have fz := E.out.res.fz
  have z0 := E.out.res.cell (j := 0) rfl
  have z1 := E.out.res.cell (j := 1) rfl
  have z2 := E.out.res.cell (j := 2) rfl
  have z3 := E.out.res.cell (j := 3) rfl
  have z4 := E.out.res.cell (j := 4) rfl
  have z5 := E.out.res.cell (j := 5) rfl
  have y0 := E.out.row.cell (j := 0) rfl
  have y1 := E.out.row.cell (j := 1) rfl
  have y2 := E.out.row.cell (j := 2) rfl
  have y3 := E.out.row.cell (j := 3) rfl
  have y4 := E.out.row.cell (j := 4) rfl
  have y5 := E.out.row.cell (j := 5) rfl
  cases q with
  | false =>
    have hA : Hid (decQ s = (2, zc)) := by show _ = _; rw [hR.out, hok.out]; rfl
    go_wp2_with fail
    refine bodyPost_ret (res_call rfl _ _ rfl (six_blk E.out.res _ _ _ _ _ _)) rfl ⟨by rw [hA.out]; rfl, six_below E.out.below (Nat.le_refl _) _ _ _ _ _ _⟩
  | true =>
    have hA : Hid (decQ s = (0, callOf k (rd [116, 116] s.data.toList 8 false))) := by show _ = _; rw [hR.out, hok.out]; rfl
    go_wp2_with fail
    refine bodyPost_ret (res_call rfl _ _ rfl (six_blk E.out.res _ _ _ _ _ _)) rfl ⟨by rw [hA.out]; rfl, six_below E.out.below (Nat.le_refl _) _ _ _ _ _ _⟩
set_option maxRecDepth 100000 in
set_option maxHeartbeats 4000000 in
theorem dec_o (s : ByteArray) (k : Nat) (h : shp k = some (bs [])) (hk : num (s.data.toList.take 8) = k) (hk25 : k ≤ 25) (hs1 : s.size ≤ 8192) (hs2 : 8 ≤ s.size) (w : World) :
    Calls Try.prog 13 #[.string s] w fun e w' => e = .returned (.tuple #[.agg (decQ s).2.toArray, .int .i64 (decQ s).1]) ∧ Below w.heap.size w w' := by
  have hlen : s.data.toList.length = s.size := by rw [Array.length_toList]; rfl
  have hR := decQ_some hs1 hs2 hk h
  have hbs : (bs []).data.toList = [] := rfl
  rw [hbs] at hR
  replace hR := W_hid hR
  have hn0 : nvl s.data.toList 0 = k := by unfold nvl; rw [if_pos (by omega), List.drop_zero, hk]
  have hx0 : nat_ s.data.toList 0 = 8 := by unfold nat_; rw [if_pos (by omega)]
  have hk0 : nok s.data.toList 0 = true := by unfold nok; exact decide_eq_true (by omega)
  have tt := fun x => (tvl_m s.data.toList x (m := s.size) (m' := 8192) (by omega) (by omega))
  have ta := fun x => (tat_m s.data.toList x (m := s.size) (m' := 8192) (by omega) (by omega))
  have tk := fun x => (tok_m s.data.toList x (m := s.size) (m' := 8192) (by omega) (by omega))
  replace h := W_hid h
  replace hlen := W_hid hlen
  have hss : s.size ≤ maxLen := by unfold maxLen; omega
  obtain ⟨l, hl⟩ : ∃ l, l = s.data.toList := ⟨_, rfl⟩
  replace tt := W_hid tt
  replace ta := W_hid ta
  replace tk := W_hid tk
  replace hn0 := W_hid hn0
  replace hx0 := W_hid hx0
  replace hk0 := W_hid hk0
  clear hk
  have hci : ∀ W, (convert 49 3 (.int .u64 (k : Int))).run Try.prog W = .ok (.int .i64 (k : Int)) W := fun W => by
    have h1 : (convert 49 3 (.int .u64 (k : Int))).run Try.prog W = .ok (.int .i64 (IntKind.i64.wrap (k : Int))) W := by simp [go_sem]
    rw [h1, si_wrap (by omega), si, if_pos (by omega)]
  go_enter Try.func13, Try.ntmps13
  go_wp2_with (with_reducible show wpList _ _ _ _ _ _; refine wpList_bytes rfl _ rfl s rfl hss ?_; intro w1 hb c hBS bel1 hge hlt)
  have hres : Blk w1 w.heap.size 25 zc := (Blk.new w 25 zc rfl).keep bel1
  have bb : Below w.heap.size w w1 := ((Below.refl w.heap.size w).alloc (Nat.le_refl _) (.cells zc.toArray 25)).trans (Below.mono bel1 (by simp))
  have hgr : w.heap.size < hb := by simp at hge; omega
  obtain ⟨g, hg⟩ : ∃ g, g = w1.heap.size := ⟨_, rfl⟩
  have hrb : RB (w1.alloc (.cells #[.slice (some ⟨hb, 0, none⟩) s.size c, .int .i64 0, .bool false] 58)) w1.heap.size hb s.size c s.data.toList 0 false :=
    ⟨Blk.new w1 _ [.slice (some ⟨hb, 0, none⟩) s.size c, .int .i64 ((0 : Nat) : Int), .bool false] rfl, hBS.below ((Below.refl _ _).alloc (Nat.le_refl _) _) (Nat.le_refl _), by omega, Nat.zero_le _⟩
  have hres1 := hres.alloc (.cells #[.slice (some ⟨hb, 0, none⟩) s.size c, .int .i64 0, .bool false] 58)
  have bb1 := bb.alloc bb.size (.cells #[.slice (some ⟨hb, 0, none⟩) s.size c, .int .i64 0, .bool false] 58)
  refine (number_any hrb).mono ?_
  rintro e w2 ⟨rfl, hr2, two2⟩
  rw [hn0.out]
  rw [hx0.out, hk0.out] at hr2
  replace hr2 : RB w2 w1.heap.size hb s.size c s.data.toList 8 false := hr2
  have hres2 := hres1.two two2 (by have := hlt; omega) (by omega)
  have bb2 := bb1.trans (two2.below bb1.size (by have := bb.size; omega) (by have := bb.size; omega))
  have hw2 : w1.heap.size < w2.heap.size := hr2.lt
  rw [← hg] at hr2 hw2 ⊢
  have hgb : hb < g := by omega
  clear hres hres1 bb bb1 hrb two2 bel1 hBS hge hlt hg
  have z2 := hr2.row.cell (j := 2) rfl
  replace hr2 := W_hid hr2
  replace hres2 := W_hid hres2
  replace bb2 := W_hid bb2
  go_wp2_with fail
  refine (shapes_any w2).mono ?_
  rintro e w3 ⟨mb, rfl, hs, bel3⟩
  have hlk := hs.look_ok k (by omega)
  rw [h.out] at hlk
  simp only [sv, Option.getD_some, Option.isSome_some] at hlk
  clear hs z2
  replace hr2 := W_hid (hr2.out.keep bel3)
  replace hres2 := W_hid (hres2.out.keep bel3)
  replace bb2 := W_hid (bb2.out.trans (bel3.mono bb2.out.size))
  have hw3 : g < w3.heap.size := hr2.out.lt
  clear bel3 hw2
  go_wp2_with fail
  go_quiet (fail)
  go_wp2_with fail
  refine wp_world (fun W => ∃ cb gi, cb = w3.heap.size + 1 ∧ gi = w3.heap.size + 1 + 1 ∧ PD w W g hb s.size c s.data.toList 8 false cb [.int .i64 (k : Int), .int .i64 0, .int .i64 0, .int .i64 0, .string { data := #[] }, .string { data := #[] }] gi (bs []) 0) ⟨_, _, rfl, rfl, pd_start hr2.out hres2.out bb2.out hgr hgb _ nq _ _⟩ ?_
  rintro W0 ⟨cb, gi, hcb, hgi, E⟩
  rw [← hgi, ← hcb]
  replace E := W_hid E
  clear hr2 hres2 bb2 hgr hgb hw3 hcb hgi hlk
  refine wp_loop_rounds 2 ?_
  rw [rounds_succ]
  refine wp_world (fun W => PD w W g hb s.size c s.data.toList 8 false cb _ gi (bs []) 0) E.out ?_
  clear E
  intro WW E
  have he := fun t => run_next_e (P := Try.prog) WW gi (bs []) 0 t E.it (by decide)
  replace E := W_hid E
  go_wp2_with fail
  refine (whole_any E.out.rb).mono ?_
  rintro e WX ⟨rfl, bel⟩
  replace E := W_hid (E.out.keep bel)
  clear he bel
  obtain ⟨q, hq⟩ : ∃ q, (!false && decide (8 = s.size)) = q := ⟨_, rfl⟩
  rw [hq]
  have hok : Hid (okR s.data.toList (rd [] s.data.toList 8 false) = q) := by
    show (!false && decide (8 = s.data.toList.length)) = q
    rw [hlen.out]; exact hq
  clear hq
  have fz := E.out.res.fz
  have z0 := E.out.res.cell (j := 0) rfl
  have z1 := E.out.res.cell (j := 1) rfl
  have z2 := E.out.res.cell (j := 2) rfl
  have z3 := E.out.res.cell (j := 3) rfl
  have z4 := E.out.res.cell (j := 4) rfl
  have z5 := E.out.res.cell (j := 5) rfl
  have y0 := E.out.row.cell (j := 0) rfl
  have y1 := E.out.row.cell (j := 1) rfl
  have y2 := E.out.row.cell (j := 2) rfl
  have y3 := E.out.row.cell (j := 3) rfl
  have y4 := E.out.row.cell (j := 4) rfl
  have y5 := E.out.row.cell (j := 5) rfl
  cases q with
  | false =>
    have hA : Hid (decQ s = (2, zc)) := by show _ = _; rw [hR.out, hok.out]; rfl
    go_wp2_with fail
    refine bodyPost_ret (res_call rfl _ _ rfl (six_blk E.out.res _ _ _ _ _ _)) rfl ⟨by rw [hA.out]; rfl, six_below E.out.below (Nat.le_refl _) _ _ _ _ _ _⟩
  | true =>
    have hA : Hid (decQ s = (0, callOf k (rd [] s.data.toList 8 false))) := by show _ = _; rw [hR.out, hok.out]; rfl
    go_wp2_with fail
    refine bodyPost_ret (res_call rfl _ _ rfl (six_blk E.out.res _ _ _ _ _ _)) rfl ⟨by rw [hA.out]; rfl, six_below E.out.below (Nat.le_refl _) _ _ _ _ _ _⟩
end CA
end Go.Proofs.Ytmhikoblaejhhaa

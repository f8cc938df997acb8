/- Stage 18: a thread's step, op 4. -/
import Derived.Test.YtjafjjfcmcpaoaaMmSound
import Derived.Test.YtjafjjfcmcpaoaaHeldTil
import Derived.Test.YtjafjjfcmcpaoaaMmKit
namespace Go.Proofs.Ytjafjjfcmcpaoaa
open Go.ChangeShapes Go.WideShapes Go.ChangeAt Go.RowKit
set_option linter.unusedVariables false
set_option linter.unusedSimpArgs false
set_option maxRecDepth 100000
namespace MC
open IN (lt_of_some)
section
variable {lo a b : Nat} {w : World} {gc g n cap : Nat} {c : List Int} {L : List (Value × Th)} {i : Nat} {v : Value} {p : List In} {r : List Int} {k : Nat} {op cell ia ib it : Int} {q qa qb qc : Nat}
set_option maxRecDepth 100000 in
set_option maxHeartbeats 4000000 in
theorem step_nocas (h : Raw TT lo a b w gc (.slice (some ⟨g, 0, none⟩) n cap) c L) (hi : L[i]? = some (v, ⟨p, r, k⟩)) (hx : p[k]? = some ⟨4, (qc : Int), (qa : Int), (qb : Int), (q : Int)⟩) (ht : ThFit ⟨p, r, k⟩) (hs : snd ⟨4, (qc : Int), (qa : Int), (qb : Int), (q : Int)⟩ c.length = true) (hq8 : q < 8) (hqa8 : qa < 8) (hqb8 : qb < 8) (hqc : qc < c.length) (hXY : ¬ c.getD qc 0 = r.getD qa 0) :
    Calls Try.prog 29 #[.pointer (some ⟨g, i * 10, none⟩), .slice (some ⟨gc, 0, none⟩) c.length c.length] w fun e w' => e = .returned (.tuple #[]) ∧ Raw TT lo a b w' gc (.slice (some ⟨g, 0, none⟩) n cap) (c) (L.set i (v, ⟨p, r.set q 0, (k : Int) + 1⟩)) ∧ Two g gc w w' := by
  obtain ⟨g', cap', hv0, hn, hcap, hil, hga, hgb, hT⟩ := h.opened hi
  simp only [Value.slice.injEq, Option.some.injEq, Addr.mk.injEq, and_true, true_and] at hv0
  obtain ⟨rfl, hn0, rfl⟩ := hv0
  subst hn0
  have hgn : g ≠ gc := h.ne (by decide) rfl
  have hgn2 : gc ≠ g := fun e => hgn e.symm
  have hgl := hT.lt
  have hcl := h.cel.lt
  have h8 : r.length = 8 := ht.r8
  have hpr : Own.Src w 5 v p.length (xcl p) := h.prg _ (List.mem_of_getElem? hi)
  obtain ⟨pb, po, pcap, rfl, hpl, hkl, x0, x1, x2, x3, x4⟩ := src_at hpr hx
  clear hpr
  simp only at x0 x1 x2 x3 x4
  obtain ⟨o, ho⟩ : ∃ o, i * 10 = o := ⟨_, rfl⟩
  obtain ⟨N, hN⟩ : ∃ N, c.length = N := ⟨_, rfl⟩
  obtain ⟨M, hM⟩ : ∃ M, p.length = M := ⟨_, rfl⟩
  rw [ho] at hT ⊢
  rw [hN]
  have c0 := hT.p
  have c9 := hT.pc
  simp only [hM] at c0 c9
  have hkM : (k : Int) < (M : Int) := by omega
  have hMx : M ≤ 3518437208880 := by have := ht.n; simp only at this; omega
  have hkp : IntKind.i64.wrap ((k : Int) + 1) = (k : Int) + 1 := IntWalk.i64_in _ (by omega)
  have HS := W_hid (fun W => sound_any W ⟨4, (qc : Int), (qa : Int), (qb : Int), (q : Int)⟩ (some ⟨gc, 0, none⟩) N N)
  rw [hN] at hs
  rw [hs] at HS
  have hfz := hT.fz
  have H := W_hid h
  have HT := W_hid hT
  replace ht := W_hid ht
  replace hx := W_hid hx
  replace ho := W_hid ho
  replace hN := W_hid hN
  replace hM := W_hid hM
  replace hi := W_hid hi
  replace h8 := W_hid h8
  replace hs := W_hid hs
  clear h hT
  unfold inv at HS
  go_enter Try.func29, Try.ntmps29
  go_wp2_with fail
  go_region
  go_wp2_with fail
  obtain ⟨W, hW⟩ : ∃ W, (w.alloc (.cells #[.int .i64 4, .int .i64 (qc : Int), .int .i64 (qa : Int), .int .i64 (qb : Int), .int .i64 (q : Int)] TX)).drew = W := ⟨_, rfl⟩
  have b0 : Below w.heap.size w W := by rw [← hW]; exact ((Below.refl _ _).alloc (Nat.le_refl _) _).drew
  have hbk : Blk W w.heap.size TX [.int .i64 4, .int .i64 (qc : Int), .int .i64 (qa : Int), .int .i64 (qb : Int), .int .i64 (q : Int)] := by rw [← hW]; exact Blk.new w _ _ rfl
  rw [hW]
  clear hW x0 x1 x2 x3 x4 c0 c9 hfz
  refine (HS.out W).mono ?_
  rintro e w1 ⟨rfl, b1⟩
  replace hbk := hbk.keep b1
  replace b1 : Below w.heap.size w w1 := b0.trans (b1.mono b0.size)
  have H1 := W_hid (H.out.keep b1)
  have T1 := HT.out.below b1
  have hib : w.heap.size ≠ g := by omega
  have hib2 : w.heap.size ≠ gc := by omega
  obtain ⟨ib0, hib0⟩ : ∃ x, w.heap.size = x := ⟨_, rfl⟩
  rw [hib0] at hbk hib hib2 ⊢
  have e9 := T1.pc
  simp only at e9
  have hfz := T1.fz
  have d0 := hbk.cell (j := 0) rfl
  have d1 := hbk.cell (j := 1) rfl
  have d2 := hbk.cell (j := 2) rfl
  have d3 := hbk.cell (j := 3) rfl
  have d4 := hbk.cell (j := 4) rfl
  replace hib0 := W_hid hib0
  replace b1 := W_hid b1
  clear HS b0 W
  have g9 : ∀ j : Nat, j < 8 → w1.cell? ⟨g, o + 1 + j, none⟩ = some (.int .i64 (r.getD j 0)) := T1.r
  obtain ⟨w2, hw2⟩ : ∃ w2, w1.setCell ⟨g, o + 9, none⟩ (.int .i64 ((k : Int) + 1)) = w2 := ⟨_, rfl⟩
  have H2 := H1.out.setT rfl (by decide) (by decide) hi.out 9 (.int .i64 ((k : Int) + 1)) (by omega) (u := ⟨p, r, (k : Int) + 1⟩) (trow_pc h8.out _) h8.out rfl
  rw [ho.out, hw2] at H2
  replace H2 := W_hid H2
  have B2 : Two g gc w w2 := by rw [← hw2]; exact (Two.of b1.out).setCell (p := ⟨g, o + 9, none⟩) (.inl rfl) _
  replace B2 := W_hid B2
  have hi2 : Hid ((L.set i (.slice (some ⟨pb, po, none⟩) p.length pcap, (⟨p, r, (k : Int) + 1⟩ : Th)))[i]? = some (.slice (some ⟨pb, po, none⟩) p.length pcap, ⟨p, r, (k : Int) + 1⟩)) := W_hid (by rw [List.getElem?_set_self hil])
  have hbk2 : Blk w2 ib0 TX [.int .i64 4, .int .i64 (qc : Int), .int .i64 (qa : Int), .int .i64 (qb : Int), .int .i64 (q : Int)] := by rw [← hw2]; exact hbk.far (p := ⟨g, o + 9, none⟩) hib _
  have T2 : TCell w2 g o (.slice (some ⟨pb, po, none⟩) p.length pcap) ⟨p, r, (k : Int) + 1⟩ := by
    obtain ⟨g2, cap2, hv2, -, -, -, -, -, hT2⟩ := H2.out.opened hi2.out
    simp only [Value.slice.injEq, Option.some.injEq, Addr.mk.injEq, and_true, true_and] at hv2
    obtain ⟨rfl, -, -⟩ := hv2
    rwa [ho.out] at hT2
  have C2 : Blk w2 gc TC (icl c) := H2.out.cel
  have k0 := hbk2.cell (j := 0) rfl
  have k1 := hbk2.cell (j := 1) rfl
  have k2 := hbk2.cell (j := 2) rfl
  have k3 := hbk2.cell (j := 3) rfl
  have k4 := hbk2.cell (j := 4) rfl
  have kf := T2.fz
  have cf := C2.fz
  have kqa := T2.r qa hqa8
  have hqa8' : (qa : Int) < 8 := by omega
  obtain ⟨RA, hRA⟩ : ∃ X, r.getD qa 0 = X := ⟨_, rfl⟩
  simp only at kqa
  rw [hRA] at kqa
  replace hRA := W_hid hRA
  have kqb := T2.r qb hqb8
  have hqb8' : (qb : Int) < 8 := by omega
  obtain ⟨RB, hRB⟩ : ∃ X, r.getD qb 0 = X := ⟨_, rfl⟩
  simp only at kqb
  rw [hRB] at kqb
  replace hRB := W_hid hRB
  have kc : w2.cell? ⟨gc, qc, none⟩ = some (.int .i64 (c.getD qc 0)) := C2.cell (by rw [icl_get, List.getD_eq_getElem?_getD, List.getElem?_eq_getElem hqc]; rfl)
  have hqN : (qc : Int) < (N : Int) := by have := hN.out; omega
  have kcf : ∀ j, w2.frozen? ⟨gc, j, none⟩ = false := C2.fz
  obtain ⟨X, hX⟩ : ∃ X, c.getD qc 0 = X := ⟨_, rfl⟩
  rw [hX] at kc
  replace hX := W_hid hX
  have hbkd : Blk w2.drew ib0 TX [.int .i64 4, .int .i64 (qc : Int), .int .i64 (qa : Int), .int .i64 (qb : Int), .int .i64 (q : Int)] := hbk2
  have hq8' : (q : Int) < 8 := by omega
  rw [hX.out, hRA.out] at hXY
  have hXA := hXY
  replace hXY := W_hid hXY
  go_wp2_with fail
  try rw [hw2]
  clear hw2 hbk hbk2 d0 d1 d2 d3 d4 hfz e9 g9 T1 H1
  refine UpTil.region (S := fun w' => w'.cell? ⟨ib0, 1, none⟩ = some (.int .i64 (qc : Int)) ∧ w'.cell? ⟨ib0, 2, none⟩ = some (.int .i64 (qa : Int)) ∧ w'.cell? ⟨ib0, 3, none⟩ = some (.int .i64 (qb : Int)) ∧ w'.cell? ⟨ib0, 4, none⟩ = some (.int .i64 (q : Int)) ∧ w'.cell? ⟨g, o + 1 + qa, none⟩ = some (.int .i64 RA) ∧ w'.cell? ⟨g, o + 1 + qb, none⟩ = some (.int .i64 RB)) (m := 25) (by kernel_rfl) ⟨k1, k2, k3, k4, kqa, kqb⟩ (fun hHeld => ?_)
  refine ul (i := 0) (v := .pointer (some ⟨g, o, none⟩)) hHeld ?_
  refine ul (i := 1) (v := .pointer (some ⟨ib0, 4, none⟩)) hHeld ?_
  refine ul (i := 2) (v := .int .i64 (q : Int)) hHeld ?_
  refine ul (i := 3) (v := .slice (some ⟨gc, 0, none⟩) N N) hHeld ?_
  refine ul (i := 4) (v := .pointer (some ⟨ib0, 1, none⟩)) hHeld ?_
  refine ul (i := 5) (v := .int .i64 (qc : Int)) hHeld ?_
  refine ul (i := 6) (v := .pointer (some ⟨gc, qc, none⟩)) hHeld ?_
  refine ul (i := 7) (v := .pointer (some ⟨g, o, none⟩)) hHeld ?_
  refine ul (i := 8) (v := .pointer (some ⟨ib0, 2, none⟩)) hHeld ?_
  refine ul (i := 9) (v := .int .i64 (qa : Int)) hHeld ?_
  refine ul (i := 10) (v := .pointer (some ⟨g, o, none⟩)) hHeld ?_
  refine ul (i := 11) (v := .pointer (some ⟨g, o + 1, none⟩)) hHeld ?_
  refine ul (i := 12) (v := .pointer (some ⟨g, o + 1 + qa, none⟩)) hHeld ?_
  refine ul (i := 13) (v := .int .i64 RA) hHeld ?_
  refine ul (i := 14) (v := .pointer (some ⟨g, o, none⟩)) hHeld ?_
  refine ul (i := 15) (v := .pointer (some ⟨ib0, 3, none⟩)) hHeld ?_
  refine ul (i := 16) (v := .int .i64 (qb : Int)) hHeld ?_
  refine ul (i := 17) (v := .pointer (some ⟨g, o, none⟩)) hHeld ?_
  refine ul (i := 18) (v := .pointer (some ⟨g, o + 1, none⟩)) hHeld ?_
  refine ul (i := 19) (v := .pointer (some ⟨g, o + 1 + qb, none⟩)) hHeld ?_
  refine ul (i := 20) (v := .int .i64 RB) hHeld ?_
  refine up (i := 22) (v := .pointer (some ⟨g, o, none⟩)) hHeld ?_
  refine up (i := 23) (v := .pointer (some ⟨g, o + 1, none⟩)) hHeld ?_
  refine UpTil.one (i := 21) (by kernel_rfl) rfl rfl (fun K hK => ?_)
  go_simp
  refine (swap_any (w := w2.drew) kc (kcf qc) RA RB).mono ?_
  rintro e w3 ⟨rfl, rfl⟩
  rw [if_neg hXA, if_neg hXA]
  obtain ⟨W3, hW3⟩ : ∃ W3, w2.drew = W3 := ⟨_, rfl⟩
  rw [hW3]
  have H3 := H2.out.drewN 1
  rw [show w2.drewN 1 = w2.drew from rfl, hW3] at H3
  replace H3 := W_hid H3
  have hbk3 : Blk W3 ib0 TX [.int .i64 4, .int .i64 (qc : Int), .int .i64 (qa : Int), .int .i64 (qb : Int), .int .i64 (q : Int)] := by rw [← hW3]; exact hbkd
  have B3 : Hid (Two g gc w W3) := W_hid (by rw [← hW3]; exact B2.out.drew 1)
  have T3 : TCell W3 g o (.slice (some ⟨pb, po, none⟩) p.length pcap) ⟨p, r, (k : Int) + 1⟩ := by
    obtain ⟨g2, cap2, hv2, -, -, -, -, -, hT2⟩ := H3.out.opened hi2.out
    simp only [Value.slice.injEq, Option.some.injEq, Addr.mk.injEq, and_true, true_and] at hv2
    obtain ⟨rfl, -, -⟩ := hv2
    rwa [ho.out] at hT2
  have kq3 := T3.r q hq8
  have kf3 := T3.fz
  simp only at kq3
  have kqa3 := T3.r qa hqa8
  simp only at kqa3
  rw [hRA.out] at kqa3
  have kqb3 := T3.r qb hqb8
  simp only at kqb3
  rw [hRB.out] at kqb3
  have hS3 : W3.cell? ⟨ib0, 1, none⟩ = some (.int .i64 (qc : Int)) ∧ W3.cell? ⟨ib0, 2, none⟩ = some (.int .i64 (qa : Int)) ∧ W3.cell? ⟨ib0, 3, none⟩ = some (.int .i64 (qb : Int)) ∧ W3.cell? ⟨ib0, 4, none⟩ = some (.int .i64 (q : Int)) ∧ W3.cell? ⟨g, o + 1 + qa, none⟩ = some (.int .i64 RA) ∧ W3.cell? ⟨g, o + 1 + qb, none⟩ = some (.int .i64 RB) := ⟨hbk3.cell (j := 1) rfl, hbk3.cell (j := 2) rfl, hbk3.cell (j := 3) rfl, hbk3.cell (j := 4) rfl, kqa3, kqb3⟩
  refine hK.out _ _ (fun _ => hS3) ?_
  clear hK hHeld
  try simp only [Act.put, List.setIfInBounds_toArray, List.set_cons_zero, List.set_cons_succ, List.getElem_toArray, List.getElem_cons_zero, List.getElem_cons_succ]
  refine ul (i := 24) (v := .pointer (some ⟨g, o + 1 + q, none⟩)) hS3 ?_
  refine UpTil.last (by kernel_rfl) rfl rfl (by kernel_rfl) ?_
  go_simp
  go_wp2_with fail
  go_end0
  refine ⟨rfl, ?_, ?_⟩
  · skip
    have := H3.out.setT (by simp) (by decide) (by decide) hi2.out (1 + q) (.int .i64 0) (by omega) (u := ⟨p, r.set q 0, (k : Int) + 1⟩) (trow_r h8.out hq8 _) (by simp [h8.out]) rfl
    rw [List.set_set, ho.out, ← Nat.add_assoc] at this
    exact this
  · exact B3.out.setCell (p := ⟨g, o + 1 + q, none⟩) (.inl rfl) _
end
end MC
end Go.Proofs.Ytjafjjfcmcpaoaa
/- Stage 18, the document: Step, op 5. -/
import Derived.Test.YtjafjjfcmcpaoaaRefMmK
namespace Go.Proofs.Ytjafjjfcmcpaoaa
open Go.ChangeShapes Go.WideShapes Go.ChangeAt Go.RowKit
set_option linter.unusedVariables false
set_option linter.unusedSimpArgs false
set_option maxRecDepth 100000
namespace MC
open IN (lt_of_some)
section
variable {lo a b : Nat} {w : World} {gm : Nat} {c : List Int} {T : List Th} {N i k : Nat} {q : Int} {p : List In} {r : List Int} {op cell ia ib it : Int} {qt qa qb qc : Nat}
set_option maxRecDepth 100000 in
set_option maxHeartbeats 8000000 in
theorem rstep_add (h : DW lo a b w gm ⟨c, T⟩) (hF : Fit N ⟨c, T⟩) (hq : I64 q) (hi : pick ⟨c, T⟩ q = some i) (ht : T[i]? = some ⟨p, r, k⟩) (hx : p[k]? = some ⟨5, (qc : Int), (qa : Int), ib, (qt : Int)⟩) (hs : snd ⟨5, (qc : Int), (qa : Int), ib, (qt : Int)⟩ c.length = true) (hqt8 : qt < 8) (hqa8 : qa < 8) (hqc : qc < c.length) :
    Calls Try.prog 13 #[ptr gm, .int .i64 q] w fun e w' => e = .returned (.int .i64 (i : Int)) ∧ DW lo a b w' gm ⟨c.set qc (wr (c.getD qc 0 + r.getD qa 0)), T.set i ⟨p, r.set qt (c.getD qc 0), (k : Int) + 1⟩⟩ ∧ Win a b w w' := by
  have hLv := rLive_any h hF.n
  have hlen64 : (live T).length ≤ 64 := Nat.le_trans (live_len _) hF.n
  obtain ⟨gc, vt, L, h⟩ := h
  have hTF : ThFit ⟨p, r, k⟩ := hF.t _ (List.mem_of_getElem? ht)
  obtain ⟨v, hv⟩ := h.at_ ht
  have hj : (live T)[turn q (live T).length]? = some i := hi
  have hjl := (List.getElem?_eq_some_iff.1 hj).1
  obtain ⟨g, cap, hvt, hLc, hcap, hiL, hga, hgb, hT⟩ := h.raw.opened hv
  subst hvt
  have hgm := h.mg (g := g) rfl
  have hgmc := h.mgc
  have hgn : g ≠ gc := h.raw.ne (by decide) rfl
  have h8 : r.length = 8 := hTF.r8
  have hpr : Own.Src w 5 v p.length (xcl p) := h.raw.prg _ (List.mem_of_getElem? hv)
  obtain ⟨pb, po, pcap, rfl, hpl, hkl, x0, x1, x2, x3, x4⟩ := src_at hpr hx
  simp only at x0 x1 x2 x3 x4
  clear hpr
  obtain ⟨j, hjj⟩ : ∃ j, turn q (live T).length = j := ⟨_, rfl⟩
  have htm := tmod_turn (q := q) (n := (live T).length) (by omega)
  rw [hjj] at hj hjl htm
  obtain ⟨n, hn⟩ : ∃ n, (live T).length = n := ⟨_, rfl⟩
  obtain ⟨M, hM⟩ : ∃ M, c.length = M := ⟨_, rfl⟩
  obtain ⟨pn, hpn⟩ : ∃ pn, p.length = pn := ⟨_, rfl⟩
  obtain ⟨Ln, hLn⟩ : ∃ x, L.length = x := ⟨_, rfl⟩
  have c0 := hT.p
  have c9 := hT.pc
  simp only [hpn] at c0 c9
  have m0 := h.box.cell (j := 0) rfl
  have m1 := h.box.cell (j := 1) rfl
  simp only [hM] at m0
  rw [hLn] at m1
  have hkM : (k : Int) < (pn : Int) := by omega
  have hMx : pn ≤ 3518437208880 := by have := hTF.n; simp only at this; omega
  have hkp : IntKind.i64.wrap ((k : Int) + 1) = (k : Int) + 1 := IntWalk.i64_in _ (by omega)
  have hi1 : (i : Int) < (Ln : Int) := by omega
  have hbl : gm < w.heap.size ∧ g < w.heap.size ∧ gc < w.heap.size := ⟨h.box.lt, hT.lt, h.raw.cel.lt⟩
  have hR : Hid (∀ (W : World), W.cell? ⟨gm, 0, none⟩ = some (.slice (some ⟨gc, 0, none⟩) M M) → Calls Try.prog 31 #[ptr gm, inv ⟨5, (qc : Int), (qa : Int), ib, (qt : Int)⟩] W fun e w' => e = .returned (.bool (snd ⟨5, (qc : Int), (qa : Int), ib, (qt : Int)⟩ M)) ∧ Below W.heap.size W w') := W_hid fun W hW => right_any hW _
  rw [hM] at hs
  rw [hs] at hR
  have H := W_hid h
  have hLv := W_hid hLv
  replace hF := W_hid hF
  replace hTF := W_hid hTF
  replace hi := W_hid hi
  replace ht := W_hid ht
  replace hx := W_hid hx
  replace hv := W_hid hv
  replace hj := W_hid hj
  replace hn := W_hid hn
  replace hM := W_hid hM
  replace hpn := W_hid hpn
  replace hLn := W_hid hLn
  replace h8 := W_hid h8
  replace hs := W_hid hs
  have hjl2 : (j : Int) < (n : Int) := by have := hn.out; omega
  have hn64 : n ≤ 64 := by have := hn.out; omega
  rw [show (live T).length = n from hn.out] at hLv htm
  have hnz : ¬ ((n : Int) = 0) := by omega
  clear hjl hlen64 hjj
  have T0 := W_hid hT
  clear h hT
  unfold inv at hR
  have hqq : (q < 0 ∧ IntKind.i64.wrap (-1 - q) = -1 - q ∧ (-1 - q).tmod (n : Int) = (j : Int)) ∨ (¬ q < 0 ∧ q.tmod (n : Int) = (j : Int)) := by
    by_cases h0 : q < 0
    · unfold I64 at hq
      exact .inl ⟨h0, IntWalk.i64_in _ (by omega), htm.1 h0⟩
    · exact .inr ⟨h0, htm.2 h0⟩
  clear htm
  go_enter Try.func13, Try.ntmps13
  go_wp2_with fail
  refine hLv.out.mono ?_
  rintro e w1 ⟨v1, rfl, ho1, hb1⟩
  obtain ⟨la, lc, rfl⟩ := Own.form ho1
  obtain ⟨gl, hla⟩ : ∃ gl, la = some ⟨gl, 0, none⟩ := by
    rcases ho1.2 with ⟨h1, h2⟩ | ⟨gl, cap', cur, h1, -⟩
    · simp only [Value.slice.injEq] at h1; omega
    · simp only [Value.slice.injEq] at h1; exact ⟨gl, h1.1⟩
  subst hla
  have l0 : w1.cell? ⟨gl, j, none⟩ = some (.int .i64 (i : Int)) := by
    have := ho1.cells (g := gl) rfl j (.int .i64 (i : Int)) (by rw [ncl_get, hj.out]; rfl)
    rwa [Addr.add_lit, Nat.zero_add] at this
  have mv : ∀ {B j : Nat} {u : Value}, B < w.heap.size → w.cell? ⟨B, j, none⟩ = some u → w1.cell? ⟨B, j, none⟩ = some u := fun {B j u} hB hu => by rw [World.cell?_of_block (w := w) (hb1.block B hB)]; exact hu
  replace x0 := mv hpl x0
  replace x1 := mv hpl x1
  replace x2 := mv hpl x2
  replace x3 := mv hpl x3
  replace x4 := mv hpl x4
  replace c0 := mv hbl.2.1 c0
  replace c9 := mv hbl.2.1 c9
  replace m0 := mv hbl.1 m0
  replace m1 := mv hbl.1 m1
  have H1 := H.out.keep hb1
  have hb1s := hb1.size
  have hbl1 : Hid (gm < w1.heap.size ∧ g < w1.heap.size ∧ gc < w1.heap.size) := W_hid (by omega)
  have hgl1 : g < w1.heap.size := by omega
  have hpl1 : pb < w1.heap.size := by omega
  replace H1 := W_hid H1
  replace ho1 := W_hid ho1
  replace hb1 := W_hid hb1
  clear mv hbl hLv H T0 hpl hq hb1s
  rcases hqq with ⟨hq0, hq1, hq2⟩ | ⟨hq0, hq2⟩ <;> (
    go_wp2_with fail
    go_region
    go_wp2_with fail
    obtain ⟨W, hW⟩ : ∃ W, (w1.alloc (.cells #[.int .i64 5, .int .i64 (qc : Int), .int .i64 (qa : Int), .int .i64 ib, .int .i64 (qt : Int)] TX)).drew = W := ⟨_, rfl⟩
    have b0 : Below w1.heap.size w1 W := by rw [← hW]; exact ((Below.refl _ _).alloc (Nat.le_refl _) _).drew
    have hbk : Blk W w1.heap.size TX [.int .i64 5, .int .i64 (qc : Int), .int .i64 (qa : Int), .int .i64 ib, .int .i64 (qt : Int)] := by rw [← hW]; exact Blk.new w1 _ _ rfl
    have hm0 : W.cell? ⟨gm, 0, none⟩ = some (.slice (some ⟨gc, 0, none⟩) M M) := by rw [World.cell?_of_block (w := w1) (b0.block gm hbl1.out.1)]; exact m0
    rw [hW]
    refine (hR.out W hm0).mono ?_
    rintro e w2 ⟨rfl, b1⟩
    replace hbk := hbk.keep b1
    replace b1 : Below w1.heap.size w1 w2 := b0.trans (b1.mono b0.size)
    have H2 := H1.out.keep b1
    have hib : w1.heap.size ≠ g := by have := hbl1.out; omega
    have hib2 : w1.heap.size ≠ gc := by have := hbl1.out; omega
    have hib3 : w1.heap.size ≠ gm := by have := hbl1.out; omega
    obtain ⟨ib0, hib0⟩ : ∃ x, w1.heap.size = x := ⟨_, rfl⟩
    rw [hib0] at hbk hib hib2 hib3 ⊢
    replace hib0 := W_hid hib0
    have T2 : TCell w2 g (i * 10) (.slice (some ⟨pb, po, none⟩) p.length pcap) ⟨p, r, k⟩ := by
      obtain ⟨g2, cap2, he2, -, -, -, -, -, hT2⟩ := H2.raw.opened hv.out
      simp only [Value.slice.injEq, Option.some.injEq, Addr.mk.injEq, and_true, true_and] at he2
      obtain ⟨rfl, -, -⟩ := he2
      exact hT2
    have e9 := T2.pc
    simp only at e9
    have hfz := T2.fz
    have d0 := hbk.cell (j := 0) rfl
    have hW2 : Hid (Win a b w w2) := W_hid (Win.of (hb1.out.trans (b1.mono hb1.out.size)))
    replace H2 := W_hid H2
    replace b1 := W_hid b1
    clear hW hR hm0 b0 W x0 x1 x2 x3 x4 c0 c9 m0 m1 l0
    obtain ⟨w3, hw3⟩ : ∃ w3, w2.setCell ⟨g, i * 10 + 9, none⟩ (.int .i64 ((k : Int) + 1)) = w3 := ⟨_, rfl⟩
    have H3 := H2.out.setT hv.out 9 (.int .i64 ((k : Int) + 1)) (by omega) (u := ⟨p, r, (k : Int) + 1⟩) (trow_pc h8.out _) h8.out rfl
    rw [hw3] at H3
    have hv3 : Hid ((L.set i (.slice (some ⟨pb, po, none⟩) p.length pcap, (⟨p, r, (k : Int) + 1⟩ : Th)))[i]? = some (.slice (some ⟨pb, po, none⟩) p.length pcap, ⟨p, r, (k : Int) + 1⟩)) := W_hid (by rw [List.getElem?_set_self hiL])
    have hbk3 : Blk w3 ib0 TX [.int .i64 5, .int .i64 (qc : Int), .int .i64 (qa : Int), .int .i64 ib, .int .i64 (qt : Int)] := by rw [← hw3]; exact hbk.far (p := ⟨g, i * 10 + 9, none⟩) hib _
    have T3 : TCell w3 g (i * 10) (.slice (some ⟨pb, po, none⟩) p.length pcap) ⟨p, r, (k : Int) + 1⟩ := by
      obtain ⟨g2, cap2, he2, -, -, -, -, -, hT2⟩ := H3.raw.opened hv3.out
      simp only [Value.slice.injEq, Option.some.injEq, Addr.mk.injEq, and_true, true_and] at he2
      obtain ⟨rfl, -, -⟩ := he2
      exact hT2
    have C3 : Blk w3 gc TC (icl c) := H3.raw.cel
    have n0 := H3.box.cell (j := 0) rfl
    simp only [hM.out] at n0
    have k0 := hbk3.cell (j := 0) rfl
    have k1 := hbk3.cell (j := 1) rfl
    have k2 := hbk3.cell (j := 2) rfl
    have k3 := hbk3.cell (j := 3) rfl
    have k4 := hbk3.cell (j := 4) rfl
    have kf := T3.fz
    have cf := C3.fz
    have hW3 : Hid (Win a b w w3) := W_hid (by rw [← hw3]; exact hW2.out.set (p := ⟨g, i * 10 + 9, none⟩) ⟨hga, hgb⟩ _)
    have hgc1 := H3.raw.gc1
    have hgc2 := H3.raw.gc2
    replace H3 := W_hid H3
    have kqt := T3.r qt hqt8
    have hqt8' : (qt : Int) < 8 := by omega
    have kqa := T3.r qa hqa8
    have hqa8' : (qa : Int) < 8 := by omega
    obtain ⟨RA, hRA⟩ : ∃ X, r.getD qa 0 = X := ⟨_, rfl⟩
    simp only at kqa
    rw [hRA] at kqa
    replace hRA := W_hid hRA
    have kc : w3.cell? ⟨gc, qc, none⟩ = some (.int .i64 (c.getD qc 0)) := C3.cell (by rw [icl_get, List.getD_eq_getElem?_getD, List.getElem?_eq_getElem hqc]; rfl)
    have hqN : (qc : Int) < (M : Int) := by have := hM.out; omega
    obtain ⟨X, hX⟩ : ∃ X, c.getD qc 0 = X := ⟨_, rfl⟩
    rw [hX] at kc
    replace hX := W_hid hX
    go_wp2_with fail
    try rw [hw3]
    clear hw3 hbk d0 hfz e9 H2
    go_quiet (fail)
    obtain ⟨w4, hw4⟩ : ∃ x, w3.drewN nq = x := ⟨_, rfl⟩
    rw [hw4]
    have H4 := H3.out.drewN nq
    rw [hw4] at H4
    have hbk4 : Blk w4 ib0 TX [.int .i64 5, .int .i64 (qc : Int), .int .i64 (qa : Int), .int .i64 ib, .int .i64 (qt : Int)] := by rw [← hw4]; exact hbk3
    have T4 : TCell w4 g (i * 10) (.slice (some ⟨pb, po, none⟩) p.length pcap) ⟨p, r, (k : Int) + 1⟩ := by
      obtain ⟨g2, cap2, he2, -, -, -, -, -, hT2⟩ := H4.raw.opened hv3.out
      simp only [Value.slice.injEq, Option.some.injEq, Addr.mk.injEq, and_true, true_and] at he2
      obtain ⟨rfl, -, -⟩ := he2
      exact hT2
    have C4 : Blk w4 gc TC (icl c) := H4.raw.cel
    have kc4 : w4.cell? ⟨gc, qc, none⟩ = some (.int .i64 X) := by rw [← hw4]; exact kc
    have p0 := H4.box.cell (j := 0) rfl
    simp only [hM.out] at p0
    have u1 := hbk4.cell (j := 1) rfl
    have u4 := hbk4.cell (j := 4) rfl
    have uf := T4.fz
    have kqt4 := T4.r qt hqt8
    have hW4 : Hid (Win a b w w4) := W_hid (by rw [← hw4]; exact hW3.out.drewN nq)
    replace H4 := W_hid H4
    clear hw4 hbk3 T3 C3 k0 k1 k2 k3 k4 kf cf kc n0 kqa kqt H3
    go_wp2_with fail
    go_region
    go_wp2_with fail
    obtain ⟨w5, hw5⟩ : ∃ x, (w4.setCell ⟨g, i * 10 + 1 + qt, none⟩ (.int .i64 X)).drew = x := ⟨_, rfl⟩
    rw [hw5]
    have H5 := (H4.out.setT hv3.out (1 + qt) (.int .i64 X) (by omega) (u := ⟨p, r.set qt X, (k : Int) + 1⟩) (trow_r h8.out hqt8 _) (by simp [h8.out]) rfl).drewN 1
    rw [← Nat.add_assoc, show (w4.setCell ⟨g, i * 10 + 1 + qt, none⟩ (.int .i64 X)).drewN 1 = w5 from hw5] at H5
    have hbk5 : Blk w5 ib0 TX [.int .i64 5, .int .i64 (qc : Int), .int .i64 (qa : Int), .int .i64 ib, .int .i64 (qt : Int)] := by rw [← hw5]; exact Blk.far (w := w4) hbk4 (p := ⟨g, i * 10 + 1 + qt, none⟩) hib _
    have C5 : Blk w5 gc TC (icl c) := H5.raw.cel
    have kc5 : w5.cell? ⟨gc, qc, none⟩ = some (.int .i64 X) := C5.cell (by rw [icl_get, ← hX.out, List.getD_eq_getElem?_getD, List.getElem?_eq_getElem hqc]; rfl)
    have r0 := H5.box.cell (j := 0) rfl
    simp only [hM.out] at r0
    have z1 := hbk5.cell (j := 1) rfl
    have zf := C5.fz
    have hW5 : Hid (Win a b w w5) := W_hid (by rw [← hw5]; exact (hW4.out.set (p := ⟨g, i * 10 + 1 + qt, none⟩) ⟨hga, hgb⟩ _).drew)
    obtain ⟨Y, hY⟩ : ∃ Y, IntKind.i64.wrap (X + RA) = Y := ⟨_, rfl⟩
    replace H5 := W_hid H5
    clear hw5 hbk4 T4 C4 u1 u4 uf kc4 p0 kqt4 H4
    go_region
    go_wp2_with fail
    go_ret
    have H6 := (H5.out.drewN 1).setC qc Y
    simp only [List.set_set] at H6
    have hW6 := (hW5.out.drewN 1).set (p := ⟨gc, qc, none⟩) ⟨hgc1, hgc2⟩ (.int .i64 Y)
    have hYe : wr (X + RA) = Y := hY
    first | rw [hX.out, hRA.out, hYe] | rw [show c[qc]'hqc = X from by rw [← hX.out, List.getD_eq_getElem?_getD, List.getElem?_eq_getElem hqc]; rfl, show r[qa]?.getD 0 = RA from by rw [← hRA.out, List.getD_eq_getElem?_getD], hYe]
    exact ⟨rfl, ⟨_, _, _, H6⟩, hW6⟩)
end
end MC
end Go.Proofs.Ytjafjjfcmcpaoaa

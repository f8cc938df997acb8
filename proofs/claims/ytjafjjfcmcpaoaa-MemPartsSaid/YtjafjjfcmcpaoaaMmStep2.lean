/- Stage 18: a thread's step, op 2. -/
import Derived.Test.YtjafjjfcmcpaoaaMmSound
import Derived.Test.YtjafjjfcmcpaoaaHeldTil
import Derived.Test.YtjafjjfcmcpaoaaMmKit
namespace Go.Proofs.Ytjafjjfcmcpaoaa
open Go.ChangeShapes Go.WideShapes Go.ChangeAt Go.RowKit
set_option linter.unusedVariables false
set_option linter.unusedSimpArgs false
set_option maxRecDepth 100000
namespace MC
open IN (lt_of_some)
section
variable {lo a b : Nat} {w : World} {gc g n cap : Nat} {c : List Int} {L : List (Value × Th)} {i : Nat} {v : Value} {p : List In} {r : List Int} {k : Nat} {op cell ia ib it : Int} {q qa qb qc : Nat}
set_option maxRecDepth 100000 in
set_option maxHeartbeats 4000000 in
theorem step_load (h : Raw TT lo a b w gc (.slice (some ⟨g, 0, none⟩) n cap) c L) (hi : L[i]? = some (v, ⟨p, r, k⟩)) (hx : p[k]? = some ⟨2, (qc : Int), ia, ib, (q : Int)⟩) (ht : ThFit ⟨p, r, k⟩) (hs : snd ⟨2, (qc : Int), ia, ib, (q : Int)⟩ c.length = true) (hq8 : q < 8) (hqc : qc < c.length) :
    Calls Try.prog 29 #[.pointer (some ⟨g, i * 10, none⟩), .slice (some ⟨gc, 0, none⟩) c.length c.length] w fun e w' => e = .returned (.tuple #[]) ∧ Raw TT lo a b w' gc (.slice (some ⟨g, 0, none⟩) n cap) (c) (L.set i (v, ⟨p, r.set q (c.getD qc 0), (k : Int) + 1⟩)) ∧ Two g gc w w' := by
  obtain ⟨g', cap', hv0, hn, hcap, hil, hga, hgb, hT⟩ := h.opened hi
  simp only [Value.slice.injEq, Option.some.injEq, Addr.mk.injEq, and_true, true_and] at hv0
  obtain ⟨rfl, hn0, rfl⟩ := hv0
  subst hn0
  have hgn : g ≠ gc := h.ne (by decide) rfl
  have hgn2 : gc ≠ g := fun e => hgn e.symm
  have hgl := hT.lt
  have hcl := h.cel.lt
  have h8 : r.length = 8 := ht.r8
  have hpr : Own.Src w 5 v p.length (xcl p) := h.prg _ (List.mem_of_getElem? hi)
  obtain ⟨pb, po, pcap, rfl, hpl, hkl, x0, x1, x2, x3, x4⟩ := src_at hpr hx
  clear hpr
  simp only at x0 x1 x2 x3 x4
  obtain ⟨o, ho⟩ : ∃ o, i * 10 = o := ⟨_, rfl⟩
  obtain ⟨N, hN⟩ : ∃ N, c.length = N := ⟨_, rfl⟩
  obtain ⟨M, hM⟩ : ∃ M, p.length = M := ⟨_, rfl⟩
  rw [ho] at hT ⊢
  rw [hN]
  have c0 := hT.p
  have c9 := hT.pc
  simp only [hM] at c0 c9
  have hkM : (k : Int) < (M : Int) := by omega
  have hMx : M ≤ 3518437208880 := by have := ht.n; simp only at this; omega
  have hkp : IntKind.i64.wrap ((k : Int) + 1) = (k : Int) + 1 := IntWalk.i64_in _ (by omega)
  have HS := W_hid (fun W => sound_any W ⟨2, (qc : Int), ia, ib, (q : Int)⟩ (some ⟨gc, 0, none⟩) N N)
  rw [hN] at hs
  rw [hs] at HS
  have hfz := hT.fz
  have H := W_hid h
  have HT := W_hid hT
  replace ht := W_hid ht
  replace hx := W_hid hx
  replace ho := W_hid ho
  replace hN := W_hid hN
  replace hM := W_hid hM
  replace hi := W_hid hi
  replace h8 := W_hid h8
  replace hs := W_hid hs
  clear h hT
  unfold inv at HS
  go_enter Try.func29, Try.ntmps29
  go_wp2_with fail
  go_region
  go_wp2_with fail
  obtain ⟨W, hW⟩ : ∃ W, (w.alloc (.cells #[.int .i64 2, .int .i64 (qc : Int), .int .i64 ia, .int .i64 ib, .int .i64 (q : Int)] TX)).drew = W := ⟨_, rfl⟩
  have b0 : Below w.heap.size w W := by rw [← hW]; exact ((Below.refl _ _).alloc (Nat.le_refl _) _).drew
  have hbk : Blk W w.heap.size TX [.int .i64 2, .int .i64 (qc : Int), .int .i64 ia, .int .i64 ib, .int .i64 (q : Int)] := by rw [← hW]; exact Blk.new w _ _ rfl
  rw [hW]
  clear hW x0 x1 x2 x3 x4 c0 c9 hfz
  refine (HS.out W).mono ?_
  rintro e w1 ⟨rfl, b1⟩
  replace hbk := hbk.keep b1
  replace b1 : Below w.heap.size w w1 := b0.trans (b1.mono b0.size)
  have H1 := W_hid (H.out.keep b1)
  have T1 := HT.out.below b1
  have hib : w.heap.size ≠ g := by omega
  have hib2 : w.heap.size ≠ gc := by omega
  obtain ⟨ib0, hib0⟩ : ∃ x, w.heap.size = x := ⟨_, rfl⟩
  rw [hib0] at hbk hib hib2 ⊢
  have e9 := T1.pc
  simp only at e9
  have hfz := T1.fz
  have d0 := hbk.cell (j := 0) rfl
  have d1 := hbk.cell (j := 1) rfl
  have d2 := hbk.cell (j := 2) rfl
  have d3 := hbk.cell (j := 3) rfl
  have d4 := hbk.cell (j := 4) rfl
  replace hib0 := W_hid hib0
  replace b1 := W_hid b1
  clear HS b0 W
  have g9 : ∀ j : Nat, j < 8 → w1.cell? ⟨g, o + 1 + j, none⟩ = some (.int .i64 (r.getD j 0)) := T1.r
  obtain ⟨w2, hw2⟩ : ∃ w2, w1.setCell ⟨g, o + 9, none⟩ (.int .i64 ((k : Int) + 1)) = w2 := ⟨_, rfl⟩
  have H2 := H1.out.setT rfl (by decide) (by decide) hi.out 9 (.int .i64 ((k : Int) + 1)) (by omega) (u := ⟨p, r, (k : Int) + 1⟩) (trow_pc h8.out _) h8.out rfl
  rw [ho.out, hw2] at H2
  replace H2 := W_hid H2
  have B2 : Two g gc w w2 := by rw [← hw2]; exact (Two.of b1.out).setCell (p := ⟨g, o + 9, none⟩) (.inl rfl) _
  replace B2 := W_hid B2
  have hi2 : Hid ((L.set i (.slice (some ⟨pb, po, none⟩) p.length pcap, (⟨p, r, (k : Int) + 1⟩ : Th)))[i]? = some (.slice (some ⟨pb, po, none⟩) p.length pcap, ⟨p, r, (k : Int) + 1⟩)) := W_hid (by rw [List.getElem?_set_self hil])
  have hbk2 : Blk w2 ib0 TX [.int .i64 2, .int .i64 (qc : Int), .int .i64 ia, .int .i64 ib, .int .i64 (q : Int)] := by rw [← hw2]; exact hbk.far (p := ⟨g, o + 9, none⟩) hib _
  have T2 : TCell w2 g o (.slice (some ⟨pb, po, none⟩) p.length pcap) ⟨p, r, (k : Int) + 1⟩ := by
    obtain ⟨g2, cap2, hv2, -, -, -, -, -, hT2⟩ := H2.out.opened hi2.out
    simp only [Value.slice.injEq, Option.some.injEq, Addr.mk.injEq, and_true, true_and] at hv2
    obtain ⟨rfl, -, -⟩ := hv2
    rwa [ho.out] at hT2
  have C2 : Blk w2 gc TC (icl c) := H2.out.cel
  have k0 := hbk2.cell (j := 0) rfl
  have k1 := hbk2.cell (j := 1) rfl
  have k2 := hbk2.cell (j := 2) rfl
  have k3 := hbk2.cell (j := 3) rfl
  have k4 := hbk2.cell (j := 4) rfl
  have kf := T2.fz
  have cf := C2.fz
  have kq := T2.r q hq8
  have hq8' : (q : Int) < 8 := by omega
  obtain ⟨RQ, hRQ⟩ : ∃ X, r.getD q 0 = X := ⟨_, rfl⟩
  simp only at kq
  rw [hRQ] at kq
  replace hRQ := W_hid hRQ
  have kc : w2.cell? ⟨gc, qc, none⟩ = some (.int .i64 (c.getD qc 0)) := C2.cell (by rw [icl_get, List.getD_eq_getElem?_getD, List.getElem?_eq_getElem hqc]; rfl)
  have hqN : (qc : Int) < (N : Int) := by have := hN.out; omega
  have kcf : ∀ j, w2.frozen? ⟨gc, j, none⟩ = false := C2.fz
  obtain ⟨X, hX⟩ : ∃ X, c.getD qc 0 = X := ⟨_, rfl⟩
  rw [hX] at kc
  replace hX := W_hid hX
  go_wp2_with fail
  try rw [hw2]
  clear hw2 hbk hbk2 d0 d1 d2 d3 d4 hfz e9 g9 T1 H1
  go_region
  go_wp2_with fail
  go_end0
  refine ⟨rfl, ?_, ?_⟩
  · rw [hX.out]
    have := (H2.out.drewN 1).setT (by simp) (by decide) (by decide) hi2.out (1 + q) (.int .i64 X) (by omega) (u := ⟨p, r.set q X, (k : Int) + 1⟩) (trow_r h8.out hq8 _) (by simp [h8.out]) rfl
    rw [List.set_set, ho.out, ← Nat.add_assoc] at this
    exact this
  · exact (B2.out.drew 1).setCell (p := ⟨g, o + 1 + q, none⟩) (.inl rfl) _
end
end MC
end Go.Proofs.Ytjafjjfcmcpaoaa
/- Stage 18: a thread's step, no instruction. -/
import Derived.Test.YtjafjjfcmcpaoaaMmSound
import Derived.Test.YtjafjjfcmcpaoaaHeldTil
import Derived.Test.YtjafjjfcmcpaoaaMmKit
namespace Go.Proofs.Ytjafjjfcmcpaoaa
open Go.ChangeShapes Go.WideShapes Go.ChangeAt Go.RowKit
set_option linter.unusedVariables false
set_option linter.unusedSimpArgs false
set_option maxRecDepth 100000
namespace MC
open IN (lt_of_some)
section
variable {lo a b : Nat} {w : World} {gc g n cap : Nat} {c : List Int} {L : List (Value × Th)} {i : Nat} {v : Value} {p : List In} {r : List Int} {k : Nat} {op cell ia ib it : Int} {q qa qb qc : Nat}
set_option maxRecDepth 100000 in
set_option maxHeartbeats 4000000 in
theorem step_bad (h : Raw TT lo a b w gc (.slice (some ⟨g, 0, none⟩) n cap) c L) (hi : L[i]? = some (v, ⟨p, r, k⟩)) (hx : p[k]? = some ⟨op, cell, ia, ib, it⟩) (ht : ThFit ⟨p, r, k⟩) (hs : snd ⟨op, cell, ia, ib, it⟩ c.length = false) :
    Calls Try.prog 29 #[.pointer (some ⟨g, i * 10, none⟩), .slice (some ⟨gc, 0, none⟩) c.length c.length] w fun e w' => e = .returned (.tuple #[]) ∧ Raw TT lo a b w' gc (.slice (some ⟨g, 0, none⟩) n cap) (c) (L.set i (v, ⟨p, r, -1⟩)) ∧ Two g gc w w' := by
  obtain ⟨g', cap', hv0, hn, hcap, hil, hga, hgb, hT⟩ := h.opened hi
  simp only [Value.slice.injEq, Option.some.injEq, Addr.mk.injEq, and_true, true_and] at hv0
  obtain ⟨rfl, hn0, rfl⟩ := hv0
  subst hn0
  have hgn : g ≠ gc := h.ne (by decide) rfl
  have hgn2 : gc ≠ g := fun e => hgn e.symm
  have hgl := hT.lt
  have hcl := h.cel.lt
  have h8 : r.length = 8 := ht.r8
  have hpr : Own.Src w 5 v p.length (xcl p) := h.prg _ (List.mem_of_getElem? hi)
  obtain ⟨pb, po, pcap, rfl, hpl, hkl, x0, x1, x2, x3, x4⟩ := src_at hpr hx
  clear hpr
  simp only at x0 x1 x2 x3 x4
  obtain ⟨o, ho⟩ : ∃ o, i * 10 = o := ⟨_, rfl⟩
  obtain ⟨N, hN⟩ : ∃ N, c.length = N := ⟨_, rfl⟩
  obtain ⟨M, hM⟩ : ∃ M, p.length = M := ⟨_, rfl⟩
  rw [ho] at hT ⊢
  rw [hN]
  have c0 := hT.p
  have c9 := hT.pc
  simp only [hM] at c0 c9
  have hkM : (k : Int) < (M : Int) := by omega
  have hMx : M ≤ 3518437208880 := by have := ht.n; simp only at this; omega
  have hkp : IntKind.i64.wrap ((k : Int) + 1) = (k : Int) + 1 := IntWalk.i64_in _ (by omega)
  have HS := W_hid (fun W => sound_any W ⟨op, cell, ia, ib, it⟩ (some ⟨gc, 0, none⟩) N N)
  rw [hN] at hs
  rw [hs] at HS
  have hfz := hT.fz
  have H := W_hid h
  have HT := W_hid hT
  replace ht := W_hid ht
  replace hx := W_hid hx
  replace ho := W_hid ho
  replace hN := W_hid hN
  replace hM := W_hid hM
  replace hi := W_hid hi
  replace h8 := W_hid h8
  replace hs := W_hid hs
  clear h hT
  unfold inv at HS
  go_enter Try.func29, Try.ntmps29
  go_wp2_with fail
  go_region
  go_wp2_with fail
  obtain ⟨W, hW⟩ : ∃ W, (w.alloc (.cells #[.int .i64 op, .int .i64 cell, .int .i64 ia, .int .i64 ib, .int .i64 it] TX)).drew = W := ⟨_, rfl⟩
  have b0 : Below w.heap.size w W := by rw [← hW]; exact ((Below.refl _ _).alloc (Nat.le_refl _) _).drew
  have hbk : Blk W w.heap.size TX [.int .i64 op, .int .i64 cell, .int .i64 ia, .int .i64 ib, .int .i64 it] := by rw [← hW]; exact Blk.new w _ _ rfl
  rw [hW]
  clear hW x0 x1 x2 x3 x4 c0 c9 hfz
  refine (HS.out W).mono ?_
  rintro e w1 ⟨rfl, b1⟩
  replace hbk := hbk.keep b1
  replace b1 : Below w.heap.size w w1 := b0.trans (b1.mono b0.size)
  have H1 := W_hid (H.out.keep b1)
  have T1 := HT.out.below b1
  have hib : w.heap.size ≠ g := by omega
  have hib2 : w.heap.size ≠ gc := by omega
  obtain ⟨ib0, hib0⟩ : ∃ x, w.heap.size = x := ⟨_, rfl⟩
  rw [hib0] at hbk hib hib2 ⊢
  have e9 := T1.pc
  simp only at e9
  have hfz := T1.fz
  have d0 := hbk.cell (j := 0) rfl
  have d1 := hbk.cell (j := 1) rfl
  have d2 := hbk.cell (j := 2) rfl
  have d3 := hbk.cell (j := 3) rfl
  have d4 := hbk.cell (j := 4) rfl
  replace hib0 := W_hid hib0
  replace b1 := W_hid b1
  clear HS b0 W
  go_wp2_with fail
  refine bodyPost_ret (results_none rfl _ _ _) rfl ?_
  refine ⟨rfl, ?_, ?_⟩
  · have := H1.out.setT rfl (by decide) (by decide) hi.out 9 (.int .i64 (-1)) (by omega) (u := ⟨p, r, -1⟩) (trow_pc h8.out _) h8.out rfl
    rw [ho.out] at this
    exact this
  · exact (Two.of b1.out).setCell (p := ⟨g, o + 9, none⟩) (.inl rfl) _
end
end MC
end Go.Proofs.Ytjafjjfcmcpaoaa
/- Stage 18: what the laws show first. -/
import Derived.Test.YtjafjjfcmcpaoaaMmSame
namespace Go.Proofs.Ytjafjjfcmcpaoaa
open Go.ChangeShapes Go.WideShapes Go.ChangeAt Go.RowKit
set_option linter.unusedVariables false
set_option linter.unusedSimpArgs false
set_option maxRecDepth 100000
namespace MC
open IN (lt_of_some)

def addP (n : Int) : List In := [⟨1, 0, n, 0, 1⟩, ⟨5, 0, 1, 0, 2⟩]
theorem addP_fit {n : Int} (h : I64 n) : ∀ y ∈ addP n, InFit y := by
  have h0 : I64 0 := ⟨by decide, by decide⟩
  have h1 : I64 1 := ⟨by decide, by decide⟩
  have h2 : I64 2 := ⟨by decide, by decide⟩
  have h5 : I64 5 := ⟨by decide, by decide⟩
  intro y hy
  simp only [addP, List.mem_cons, List.not_mem_nil, or_false] at hy
  rcases hy with rfl | rfl
  · exact ⟨h1, h0, h, h0, h1⟩
  · exact ⟨h5, h0, h1, h0, h2⟩
theorem add_law (w : World) (n : Int) : Calls Try.prog 23 #[.int .i64 n] w fun e w' => ∃ g, e = .returned (.slice (some ⟨g, 0, none⟩) 2 2) ∧ Own.Src w' 5 (.slice (some ⟨g, 0, none⟩) 2 2) 2 (xcl (addP n)) ∧ Below w.heap.size w w' ∧ w.heap.size ≤ g := by
  go_enter Try.func23, Try.ntmps23
  go_wp2_with fail
  go_ret
  refine ⟨w.heap.size, rfl, .inr ⟨_, _, rfl, rfl, fun j u hu => ?_⟩, (Below.refl _ _).alloc (Nat.le_refl _) _, Nat.le_refl _⟩
  have hb := Blk.new w TX (xcl (addP n)) rfl
  have := hb.cell hu
  rw [Addr.add_lit, Nat.zero_add]
  exact this
def shS : Ma := new 1 [addP 5, addP 5]
theorem sh_run : (go shS [0, 1, 1, 0]).2 = 4 ∧ cellM (go shS [0, 1, 1, 0]).1 0 = 10 ∧ regM (go shS [0, 1, 1, 0]).1 0 2 = 5 := by decide +kernel
theorem i64c : I64 0 ∧ I64 1 ∧ I64 5 ∧ I64 10 := ⟨⟨by decide, by decide⟩, ⟨by decide, by decide⟩, ⟨by decide, by decide⟩, ⟨by decide, by decide⟩⟩
theorem shown_any (w : World) : Calls Try.prog 9 #[] w fun e w' => e = .returned (.bool true) ∧ Below w.heap.size w w' := by
  have ha := W_hid (fun W => add_law W 5)
  have hN := W_hid (fun (W : World) ao cap l (h : PIn W ao 2 l) => New_yes (lo := W.heap.size) (C := 1) (cap := cap) h ⟨by decide, by decide, by omega⟩ (Nat.le_refl _))
  have hR := W_hid (fun (W : World) lo a b gm ao cap l (h : PW lo a b W gm shS) (hl : Nu W ao 4 l) hlo => Run_any (N := 1) (cap := cap) h (new_fit (n := 1) (P := [addP 5, addP 5]) (fun p hp => by
    have : p = addP 5 := by simpa using hp
    subst this
    exact ⟨addP_fit i64c.2.2.1, by simp [addP]⟩) (by simp)) hl hlo)
  have hC := W_hid (fun (W : World) lo a b gm S (h : PW lo a b W gm S) => Cell_any h 0)
  have hG := W_hid (fun (W : World) lo a b gm S (h : PW lo a b W gm S) => Reg_any h 0 2)
  go_enter Try.func9, Try.ntmps9
  go_wp2_with fail
  refine (ha.out _).mono ?_
  rintro e w1 ⟨g1, rfl, s1, b1, l1⟩
  go_wp2_with fail
  refine (ha.out _).mono ?_
  rintro e w2 ⟨g2, rfl, s2, b2, l2⟩
  have hb3 : Below w2.heap.size w2 (w2.alloc (.cells #[.slice (some ⟨g1, 0, none⟩) 2 2, .slice (some ⟨g2, 0, none⟩) 2 2] 39)) := (Below.refl _ _).alloc (Nat.le_refl _) _
  have hP : PIn (w2.alloc (.cells #[.slice (some ⟨g1, 0, none⟩) 2 2, .slice (some ⟨g2, 0, none⟩) 2 2] 39)) (some ⟨w2.heap.size, 0, none⟩) 2 [(.slice (some ⟨g1, 0, none⟩) 2 2, addP 5), (.slice (some ⟨g2, 0, none⟩) 2 2, addP 5)] := by
    have hbk := Blk.new w2 39 [.slice (some ⟨g1, 0, none⟩) 2 2, .slice (some ⟨g2, 0, none⟩) 2 2] rfl
    refine ⟨rfl, by decide, fun j x hj => ?_⟩
    have : j = 0 ∨ j = 1 := by have := (List.getElem?_eq_some_iff.1 hj).1; simp at this; omega
    rcases this with rfl | rfl
    · simp only [List.getElem?_cons_zero, Option.some.injEq] at hj
      subst hj
      exact ⟨w2.heap.size, 0, rfl, by simp, hbk.cell rfl, (s1.keep b2).keep hb3, addP_fit i64c.2.2.1, by simp [addP]⟩
    · simp only [List.getElem?_cons_succ, List.getElem?_cons_zero, Option.some.injEq] at hj
      subst hj
      exact ⟨w2.heap.size, 0, rfl, by simp, hbk.cell rfl, s2.keep hb3, addP_fit i64c.2.2.1, by simp [addP]⟩
  obtain ⟨w3, hw3⟩ : ∃ x, w2.alloc (.cells #[.slice (some ⟨g1, 0, none⟩) 2 2, .slice (some ⟨g2, 0, none⟩) 2 2] 39) = x := ⟨_, rfl⟩
  rw [hw3] at hP hb3
  have B3 : Below w.heap.size w w3 := (b1.trans (b2.mono b1.size)).trans (hb3.mono (b1.trans (b2.mono b1.size)).size)
  replace hP := W_hid hP
  replace B3 := W_hid B3
  clear s1 s2 b1 b2 l1 l2 hb3
  go_wp2_with fail
  refine (hN.out _ _ _ _ hP.out).mono ?_
  rintro e w4 ⟨gm, rfl, hM, b4⟩
  have hM : PW w3.heap.size w3.heap.size w4.heap.size w4 gm shS := hM
  have hb5 : Below w4.heap.size w4 (w4.alloc (.cells #[.int .i64 0, .int .i64 1, .int .i64 1, .int .i64 0] TI)) := (Below.refl _ _).alloc (Nat.le_refl _) _
  have hU : Nu (w4.alloc (.cells #[.int .i64 0, .int .i64 1, .int .i64 1, .int .i64 0] TI)) (some ⟨w4.heap.size, 0, none⟩) 4 [0, 1, 1, 0] := by
    have hbk := Blk.new w4 TI (icl [0, 1, 1, 0]) rfl
    refine ⟨rfl, by decide, fun j x hj => ⟨?_, w4.heap.size, 0, rfl, by simp, ?_⟩⟩
    · have hm := List.mem_of_getElem? hj
      simp only [List.mem_cons, List.not_mem_nil, or_false] at hm
      rcases hm with rfl | rfl | rfl | rfl
      · exact i64c.1
      · exact i64c.2.1
      · exact i64c.2.1
      · exact i64c.1
    · rw [Nat.zero_add]
      exact hbk.cell (by rw [icl_get, hj]; rfl)
  obtain ⟨w5, hw5⟩ : ∃ x, w4.alloc (.cells #[.int .i64 0, .int .i64 1, .int .i64 1, .int .i64 0] TI) = x := ⟨_, rfl⟩
  rw [hw5] at hU hb5
  have hrun := hR.out w5 _ _ _ gm _ 4 _ (hM.keep hb5) hU (fun _ x hx => by simp only [Option.some.injEq] at hx; subst hx; exact .inr (Nat.le_refl _))
  have b45 : Below w.heap.size w w5 := B3.out.trans ((b4.mono B3.out.size).trans (hb5.mono (Nat.le_trans B3.out.size b4.size)))
  have h34 := b4.size
  have h45 := hb5.size
  rw [show (go shS [0, 1, 1, 0]).2 = 4 from sh_run.1] at hrun
  replace hrun := W_hid hrun
  replace b45 := W_hid b45
  have B3s := B3.out.size
  clear hU hb5 hM b4 hR hN ha
  go_wp2_with (first | (go_at_call 24; refine hrun.out.mono ?_; rintro e w6 ⟨rfl, hM6, hW6⟩; have hC6 := hC.out _ _ _ _ _ _ hM6; have hG6 := hG.out _ _ _ _ _ _ hM6; rw [sh_run.2.1] at hC6; rw [sh_run.2.2] at hG6; replace hC6 := W_hid hC6; replace hG6 := W_hid hG6; have b6 := W_hid (b45.out.trans (hW6.below (by omega) (by omega))); clear hM6 hW6) | (go_at_call 19; refine hC6.out.mono ?_; rintro e w7 ⟨rfl, rfl⟩) | (go_at_call 21; refine hG6.out.mono ?_; rintro e w8 ⟨rfl, b8⟩; have b8 := W_hid b8))
  go_ret
  exact ⟨rfl, b6.out.trans (b8.out.mono b6.out.size)⟩
theorem Run_nil {w : World} {ao : Option Addr} {n cap : Nat} {l : List Int} (hl : Nu w ao n l) : Calls Try.prog 24 #[.pointer none, .slice ao n cap] w fun e w' => e = .returned (.int .i64 0) ∧ w = w' := by
  have hn63 := hl.2.1
  have hn := hl.1
  replace hl := W_hid hl
  replace hn := W_hid hn
  go_enter Try.func24, Try.ntmps24
  go_wp2_with fail
  go_loopw [9] (fun i wr => i = .int .i64 ((0 : Nat) : Int) ∧ wr = w) (fun i _ => 0)
  case atStart => exact ⟨rfl, rfl⟩
  case round =>
    obtain ⟨rfl, rfl⟩ := hrel
    by_cases hlt : 0 < n
    · obtain ⟨hi64, g, o, rfl, hgl, hc⟩ := hl.out.2.2 0 _ (List.getElem?_eq_getElem (by have := hn.out; omega))
      rw [Nat.add_zero] at hc
      obtain ⟨x, hx⟩ : ∃ x, l[0]'(by have := hn.out; omega) = x := ⟨_, rfl⟩
      rw [hx] at hc
      have hi1 : (0 : Int) < (n : Int) := by omega
      replace hx := W_hid hx
      go_wp2_with (go_at_call 12; refine (Step_nil _ _).mono ?_; rintro e w2 ⟨rfl, rfl⟩)
      refine bodyPost_ret (results_tmp rfl _ _ _) rfl ?_
      exact ⟨rfl, rfl⟩
    · obtain rfl : n = 0 := by omega
      go_wp2_with fail
      go_ret
      exact ⟨rfl, rfl⟩
set_option maxRecDepth 100000 in
set_option maxHeartbeats 4000000 in
theorem MemNone_walk (pick t : Int) (w : World) (w0 : (Lit.int .i64 pick).wf = true) (w1 : (Lit.int .i64 t).wf = true) : Calls Try.prog 7 #[.int .i64 pick, .int .i64 t] w fun e w' => e = .returned (.bool true) ∧ Below w.heap.size w w' := by
  have p0 : I64 pick := bounds_i64 w0
  have p1 : I64 t := bounds_i64 w1
  have hU := W_hid (fun (W : World) => (⟨rfl, by decide, fun j x hj => ⟨by
      have hm := List.mem_of_getElem? hj
      simp only [List.mem_cons, List.not_mem_nil, or_false] at hm
      rcases hm with rfl | rfl
      · exact p0
      · exact p1, W.heap.size, 0, rfl, by simp, by
      rw [Nat.zero_add]
      exact (Blk.new W TI (icl [pick, t]) rfl).cell (by rw [icl_get, hj]; rfl)⟩⟩ : Nu (W.alloc (.cells #[.int .i64 pick, .int .i64 t] TI)) (some ⟨W.heap.size, 0, none⟩) 2 [pick, t]))
  have hB := W_hid (fun (W : World) => ((Below.refl W.heap.size W).alloc (Nat.le_refl _) (.cells #[.int .i64 pick, .int .i64 t] TI)))
  have hRg := W_hid (fun W => Reg_nil W t t p1)
  have hAt := W_hid (fun W => At_nil W t)
  clear p0 p1 w0 w1
  go_enter Try.func7, Try.ntmps7
  go_wp2_with (first
    | (go_at_call 9; refine (shown_any _).mono ?_; rintro e w1 ⟨rfl, b1⟩; replace b1 := W_hid b1)
    | (go_at_call 12; refine (Step_nil _ _).mono ?_; rintro e w2 ⟨rfl, rfl⟩; have hU2 := W_hid (hU.out w1); have b2 := W_hid (b1.out.trans ((hB.out w1).mono b1.out.size)))
    | (go_at_call 24; refine (Run_nil hU2.out).mono ?_; rintro e w3 ⟨rfl, rfl⟩)
    | (go_at_call 19; refine (Cell_nil _ _).mono ?_; rintro e w4 ⟨rfl, rfl⟩)
    | (go_at_call 21; refine (hRg.out _).mono ?_; rintro e w5 ⟨rfl, b5⟩; replace b5 := W_hid b5)
    | (go_at_call 14; refine (hAt.out _).mono ?_; rintro e w6 ⟨rfl, b6⟩; replace b6 := W_hid b6)
    | (go_at_call 17; refine (Live_nil _).mono ?_; rintro e w7 ⟨rfl, rfl⟩))
  go_ret
  refine ⟨rfl, ?_⟩
  have h3 := b2.out.trans (b5.out.mono b2.out.size)
  exact h3.trans (b6.out.mono h3.size)
end MC
end Go.Proofs.Ytjafjjfcmcpaoaa

/- Stage 18: two machines of the program in one world. -/
import Derived.Test.YtjafjjfcmcpaoaaMmOpen
import Derived.Test.YtjafjjfcmcpaoaaHeldTil
namespace Go.Proofs.Ytjafjjfcmcpaoaa
open Go.ChangeShapes Go.WideShapes Go.ChangeAt Go.RowKit
set_option linter.unusedVariables false
set_option linter.unusedSimpArgs false
set_option maxRecDepth 100000
section
variable {P : Program} {ops : Array Oper} {Q : Exit → Act → World → Prop} {md : Region.Mode} {S : World → Prop} {m : Nat}
/-- One operation alone may come up, and it is wanted. -/
theorem UpTil.oneW {i : Nat} {o : Oper} {k : Nat} {ls : Array Bool} {a : Act} {w : World} (hr : Region.ready md ops ls = [i]) (ho : ops[i]? = some o) (hw : Region.wanted o (yielded ops a.tmps) = true)
    (h : ∀ K' : Act → World → Prop, Hid (∀ a' w', (ls.getD m true = false → S w') → UpTil P md ops Q S m k (ls.setIfInBounds i true) a' w' → K' a' w') → Oper.wp P o a w K' Q) : UpTil P md ops Q S m (k + 1) ls a w := by
  refine ⟨fun e => (by rw [hr] at e; cases e), fun j hj => ?_⟩
  rw [hr] at hj
  obtain rfl : j = i := by simpa using hj
  have h1 := h (fun a' w' => (j ≠ m → ls.getD m true = false → S w') ∧ UpTil P md ops Q S m k (ls.setIfInBounds j true) a' w') (W_hid (fun a' w' hS hU => ⟨fun _ => hS, hU⟩))
  unfold wpOp
  simp only [ho, hw, if_true]
  exact .inl h1
end
namespace MC
open IN (lt_of_some)

structure JJ (w0 w : World) (ga gb : Nat) (N : Nat) (Sa Sb : Ma) : Prop where
  ex : ∃ a1 b1 a2 b2, w0.heap.size ≤ a1 ∧ b1 ≤ a2 ∧ PW w0.heap.size a1 b1 w ga Sa ∧ PW w0.heap.size a2 b2 w gb Sb
  bel : Below w0.heap.size w0 w
  fa : Fit N Sa
  fb : Fit N Sb
theorem PW.ab' {lo a b : Nat} {w : World} {g : Nat} {S : Ma} (h : PW lo a b w g S) : a < b ∧ b ≤ w.heap.size := by
  obtain ⟨gc, vt, vl, L, h⟩ := h
  have := h.gm1
  have := h.gm2
  have := h.raw.top
  omega
theorem Nu.below {w w' : World} {ao : Option Addr} {n : Nat} {l : List Int} (h : Nu w ao n l) (hb : Below w.heap.size w w') : Nu w' ao n l := by
  refine ⟨h.1, h.2.1, fun j x hj => ?_⟩
  obtain ⟨hi, g, o, ha, hl, hc⟩ := h.2.2 j x hj
  exact ⟨hi, g, o, ha, Nat.lt_of_lt_of_le hl hb.size, by rw [World.cell?_of_block (w := w) (hb.block g hl)]; exact hc⟩
theorem Nu.low {w : World} {ao : Option Addr} {n : Nat} {l : List Int} (h : Nu w ao n l) (hn : 0 < n) : ∀ x, ao = some x → x.block < w.heap.size := by
  intro x hx
  have hn0 := h.1
  obtain ⟨hi, g, o, ha, hl, hc⟩ := h.2.2 0 _ (List.getElem?_eq_getElem (by omega))
  rw [ha] at hx
  cases hx
  exact hl
theorem Nu.take {w : World} {ao : Option Addr} {n : Nat} {l : List Int} (h : Nu w ao n l) {k : Nat} (hk : k ≤ n) : Nu w ao k (l.take k) := by
  have hn := h.1
  have hm := h.2.1
  refine ⟨by rw [List.length_take]; omega, by omega, fun j x hj => ?_⟩
  rw [List.getElem?_take] at hj
  split at hj
  · exact h.2.2 j x hj
  · cases hj
section
variable {w0 w w' : World} {ga gb N : Nat} {Sa Sb : Ma}
theorem JJ.keep (h : JJ w0 w ga gb N Sa Sb) (hb : Below w.heap.size w w') : JJ w0 w' ga gb N Sa Sb := by
  obtain ⟨a1, b1, a2, b2, h1, h2, h3, h4⟩ := h.ex
  exact ⟨⟨a1, b1, a2, b2, h1, h2, h3.keep hb, h4.keep hb⟩, h.bel.trans (hb.mono h.bel.size), h.fa, h.fb⟩
theorem JJ.aRun (h : JJ w0 w ga gb N Sa Sb) {ao : Option Addr} {n cap : Nat} {l : List Int} (hl : Nu w0 ao n l) : Calls Try.prog 24 #[ptr ga, .slice ao n cap] w fun e w' => e = .returned (.int .i64 ((go Sa l).2 : Int)) ∧ JJ w0 w' ga gb N (go Sa l).1 Sb := by
  obtain ⟨a1, b1, a2, b2, h1, h2, h3, h4⟩ := h.ex
  refine (Run_any h3 h.fa (hl.below h.bel) (fun hn x hx => .inl (by have := hl.low hn x hx; omega))).mono ?_
  rintro e w' ⟨rfl, h5, hw⟩
  have hs := h.bel.size
  exact ⟨rfl, ⟨a1, b1, a2, b2, h1, h2, h5, h4.win hw (.inr h2) h1⟩, h.bel.trans (hw.below hs h1), go_fit h.fa l, h.fb⟩
theorem JJ.bRun (h : JJ w0 w ga gb N Sa Sb) {ao : Option Addr} {n cap : Nat} {l : List Int} (hl : Nu w ao n l) (hlo : ∀ a b, PW w0.heap.size a b w gb Sb → 0 < n → ∀ x, ao = some x → x.block < w0.heap.size ∨ b ≤ x.block) : Calls Try.prog 24 #[ptr gb, .slice ao n cap] w fun e w' => e = .returned (.int .i64 ((go Sb l).2 : Int)) ∧ JJ w0 w' ga gb N Sa (go Sb l).1 := by
  obtain ⟨a1, b1, a2, b2, h1, h2, h3, h4⟩ := h.ex
  have h3b := h3.ab'
  refine (Run_any h4 h.fb hl (fun hn x hx => (hlo _ _ h4 hn x hx).elim (fun h => .inl (by omega)) .inr)).mono ?_
  rintro e w' ⟨rfl, h5, hw⟩
  have hs := h.bel.size
  exact ⟨rfl, ⟨a1, b1, a2, b2, h1, h2, h3.win hw (.inl h2) (by omega), h5⟩, h.bel.trans (hw.below hs (by omega)), h.fa, go_fit h.fb l⟩
theorem JJ.bRun2 (h : JJ w0 w ga gb N Sa Sb) {W : World} (hb : Below w.heap.size w W) {ao : Option Addr} {n cap : Nat} {l : List Int} (hl : Nu W ao n l) (hlo : 0 < n → ∀ x, ao = some x → w.heap.size ≤ x.block) : Calls Try.prog 24 #[ptr gb, .slice ao n cap] W fun e w' => e = .returned (.int .i64 ((go Sb l).2 : Int)) ∧ JJ w0 w' ga gb N Sa (go Sb l).1 := by
  obtain ⟨a1, b1, a2, b2, h1, h2, h3, h4⟩ := h.ex
  have h3b := h3.ab'
  have h4b := h4.ab'
  refine (Run_any (h4.keep hb) h.fb hl (fun hn x hx => .inr (by have := hlo hn x hx; omega))).mono ?_
  rintro e w' ⟨rfl, h5, hw⟩
  have hs := h.bel.size
  have hs2 := hb.size
  exact ⟨rfl, ⟨a1, b1, a2, b2, h1, h2, (h3.keep hb).win hw (.inl h2) (by omega), h5⟩, (h.bel.trans (hb.mono hs)).trans (hw.below (by omega) (by omega)), h.fa, go_fit h.fb l⟩
theorem JJ.aAt (h : JJ w0 w ga gb N Sa Sb) (t : Int) : Calls Try.prog 14 #[ptr ga, .int .i64 t] w fun e w' => e = .returned (.int .i64 (atM Sa t)) ∧ JJ w0 w' ga gb N Sa Sb := by
  obtain ⟨a1, b1, a2, b2, h1, h2, h3, h4⟩ := h.ex
  refine (At_any h3 t).mono ?_
  rintro e w' ⟨rfl, hb⟩
  exact ⟨rfl, h.keep hb⟩
theorem JJ.bAt (h : JJ w0 w ga gb N Sa Sb) (t : Int) : Calls Try.prog 14 #[ptr gb, .int .i64 t] w fun e w' => e = .returned (.int .i64 (atM Sb t)) ∧ JJ w0 w' ga gb N Sa Sb := by
  obtain ⟨a1, b1, a2, b2, h1, h2, h3, h4⟩ := h.ex
  refine (At_any h4 t).mono ?_
  rintro e w' ⟨rfl, hb⟩
  exact ⟨rfl, h.keep hb⟩
theorem JJ.aReg (h : JJ w0 w ga gb N Sa Sb) (t i : Int) : Calls Try.prog 21 #[ptr ga, .int .i64 t, .int .i64 i] w fun e w' => e = .returned (.int .i64 (regM Sa t i)) ∧ JJ w0 w' ga gb N Sa Sb := by
  obtain ⟨a1, b1, a2, b2, h1, h2, h3, h4⟩ := h.ex
  refine (Reg_any h3 t i).mono ?_
  rintro e w' ⟨rfl, hb⟩
  exact ⟨rfl, h.keep hb⟩
theorem JJ.bReg (h : JJ w0 w ga gb N Sa Sb) (t i : Int) : Calls Try.prog 21 #[ptr gb, .int .i64 t, .int .i64 i] w fun e w' => e = .returned (.int .i64 (regM Sb t i)) ∧ JJ w0 w' ga gb N Sa Sb := by
  obtain ⟨a1, b1, a2, b2, h1, h2, h3, h4⟩ := h.ex
  refine (Reg_any h4 t i).mono ?_
  rintro e w' ⟨rfl, hb⟩
  exact ⟨rfl, h.keep hb⟩
theorem JJ.aCell (h : JJ w0 w ga gb N Sa Sb) (i : Int) : Calls Try.prog 19 #[ptr ga, .int .i64 i] w fun e w' => e = .returned (.int .i64 (cellM Sa i)) ∧ w = w' := by
  obtain ⟨a1, b1, a2, b2, h1, h2, h3, h4⟩ := h.ex
  exact Cell_any h3 i
theorem JJ.bCell (h : JJ w0 w ga gb N Sa Sb) (i : Int) : Calls Try.prog 19 #[ptr gb, .int .i64 i] w fun e w' => e = .returned (.int .i64 (cellM Sb i)) ∧ w = w' := by
  obtain ⟨a1, b1, a2, b2, h1, h2, h3, h4⟩ := h.ex
  exact Cell_any h4 i
theorem JJ.aLive (h : JJ w0 w ga gb N Sa Sb) : Calls Try.prog 17 #[ptr ga] w fun e w' => ∃ ao cap, e = .returned (.slice ao (live Sa.t).length cap) ∧ NuL w' ao (live Sa.t).length (live Sa.t) ∧ JJ w0 w' ga gb N Sa Sb ∧ Below w.heap.size w w' := by
  obtain ⟨a1, b1, a2, b2, h1, h2, h3, h4⟩ := h.ex
  refine (Live_any h3 h.fa.n).mono ?_
  rintro e w' ⟨v, rfl, ho, hb⟩
  obtain ⟨ao, cap, rfl⟩ := Own.form ho
  exact ⟨ao, cap, rfl, nul_own ho, h.keep hb, hb⟩
theorem JJ.bLive (h : JJ w0 w ga gb N Sa Sb) : Calls Try.prog 17 #[ptr gb] w fun e w' => ∃ ao cap, e = .returned (.slice ao (live Sb.t).length cap) ∧ NuL w' ao (live Sb.t).length (live Sb.t) ∧ JJ w0 w' ga gb N Sa Sb ∧ Below w.heap.size w w' := by
  obtain ⟨a1, b1, a2, b2, h1, h2, h3, h4⟩ := h.ex
  refine (Live_any h4 h.fb.n).mono ?_
  rintro e w' ⟨v, rfl, ho, hb⟩
  obtain ⟨ao, cap, rfl⟩ := Own.form ho
  exact ⟨ao, cap, rfl, nul_own ho, h.keep hb, hb⟩
end
theorem nul_below {w w' : World} {ao : Option Addr} {n : Nat} {l : List Nat} (h : NuL w ao n l) (hb : Below w.heap.size w w') : NuL w' ao n l := by
  refine ⟨h.1, fun j x hj => ?_⟩
  obtain ⟨g, o, h1, h2⟩ := h.2 j x hj
  exact ⟨g, o, h1, by rw [hb.cell (cell_lt h2)]; exact h2⟩
theorem cut_ints (a : Option Addr) (n cap k : Nat) (hk : k ≤ n) (hn : n ≤ cap) : ∀ W : World, (Instr.slice 23 (.slice a n cap) none (some (.int .i64 (k : Int))) none).run Try.prog W = .ok (.slice a k cap) W := by
  obtain ⟨i, hi, hz, hsize, hby, hzs, hsz⟩ := info_int
  intro W
  have hel : Try.prog.elem 23 = TI := by kernel_rfl
  have hs : (sizeOf (Try.prog.elem 23)).run Try.prog W = .ok 1 W := by rw [hel]; simp [sizeOf, typeInfo, hi, hsize]
  have hr := run_slice_h (P := Try.prog) W 23 a n cap (by rw [hel]; exact und_ints) .i64 (k : Int) (by omega) (by omega)
  rw [hs] at hr
  simp only [Result.andThen, sliced, Int.toNat_natCast, Nat.zero_mul, Nat.sub_zero] at hr
  rw [hr]
  cases a with
  | none => simp
  | some x => simp [Addr.add]
/-- A thread alone does not see the picks. -/
theorem pick_alone {S : Ma} (h : S.t.length ≤ 1) (q q' : Int) : pick S q = pick S q' := by
  have hl := live_len S.t
  unfold pick
  rcases Nat.eq_zero_or_pos (live S.t).length with h0 | h0
  · rw [List.eq_nil_of_length_eq_zero h0]; simp
  · have h1 : (live S.t).length = 1 := by omega
    have hz : ∀ q : Int, turn q (live S.t).length = 0 := fun q => by have := turn_lt (q := q) h0; omega
    rw [hz, hz]
theorem go_alone : ∀ {l l' : List Int} {S : Ma}, S.t.length ≤ 1 → l.length = l'.length → go S l = go S l'
  | [], [], _, _, _ => rfl
  | q :: l, q' :: l', S, h, hl => by
    simp only [go]
    rw [pick_alone h q q']
    rcases pick S q' with _ | i
    · rfl
    · simp only
      rw [go_alone (l := l) (l' := l') (S := step S i) (by rw [step_len]; exact h) (by simpa using hl)]
end MC
end Go.Proofs.Ytjafjjfcmcpaoaa

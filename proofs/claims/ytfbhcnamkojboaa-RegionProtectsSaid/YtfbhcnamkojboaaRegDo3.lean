/- What goes over the iterators: covers. -/
import Derived.Test.YtfbhcnamkojboaaRegDo2
namespace Go.Proofs.Ytfbhcnamkojboaa
open Go.ChangeShapes Go.WideShapes Go.ChangeAt Go.RowKit Go.Shelf
open SQ
set_option linter.unusedVariables false
set_option linter.unusedSimpArgs false
attribute [local go_sem] Oper.semAt_some
open RG (Rg)

theorem ML.made {ao : Option Addr} {n cap : Nat} {l : List Rg} (lo hi : Nat) {w : World} (h : RS w ao n cap l) (hs : ∀ a, ao = some a → 0 < n → a.block < w.heap.size) :
    ML ao n cap l lo hi w.heap.size (w.heap.size + 1) (w.heap.size + 1 + 1) (((w.alloc (.cells #[.slice ao n cap] 22)).alloc (.cells #[.int .u64 (lo : Int)] 23)).alloc (.cells #[.int .u64 (hi : Int)] 23)) := by
  have hb : Below w.heap.size w (((w.alloc (.cells #[.slice ao n cap] 22)).alloc (.cells #[.int .u64 (lo : Int)] 23)).alloc (.cells #[.int .u64 (hi : Int)] 23)) := (((Below.refl _ _).alloc (Nat.le_refl _) _).alloc (by simp) _).alloc (by simp; omega) _
  exact ⟨((Blk.new w 22 [.slice ao n cap] rfl).alloc _).alloc _, (Blk.new _ 23 [.int .u64 (lo : Int)] (by simp)).alloc _, Blk.new _ 23 [.int .u64 (hi : Int)] (by simp), h.below hb (Nat.le_refl _), fun a e e' => Nat.lt_of_lt_of_le (hs a e e') hb.size⟩
/-- The blocks of a slice that reads as regions are there, unless it is empty. -/
def GL (w : World) (ao : Option Addr) (n cap : Nat) (l : List Rg) : Prop := RS w ao n cap l ∧ ∀ a, ao = some a → 0 < n → a.block < w.heap.size
theorem GL.keep {w w' : World} {ao : Option Addr} {n cap : Nat} {l : List Rg} (h : GL w ao n cap l) (hb : Below w.heap.size w w') : GL w' ao n cap l := ⟨h.1.below hb (Nat.le_refl _), fun a e e' => Nat.lt_of_lt_of_le (h.2 a e e') hb.size⟩
theorem GL_own {w : World} {ao : Option Addr} {n cap base : Nat} {l : List Rg} (h : w.ownsRow base 25 4 (.slice ao n cap) n (rcl l)) : GL w ao n cap l :=
  ⟨RS_own h, fun a e _ => by subst e; exact (gown_cells h a.block rfl).1.lt⟩

set_option maxRecDepth 100000 in
set_option maxHeartbeats 4000000 in
theorem covers_any (ao : Option Addr) (n cap : Nat) (l : List Rg) (lo hi : Nat) (w : World) (h : GL w ao n cap l) :
    Gv 31 #[.slice ao n cap, .int .u64 (lo : Int), .int .u64 (hi : Int)] (.bool (decide (RG.cov hi lo (RG.parts lo hi l)))) w := by
  refine wide_fit ?_
  obtain ⟨w0, hw0⟩ : ∃ w0, (w.alloc (.cells #[.bool false] 4)).alloc (.cells #[.int .u64 (lo : Int)] 23) = w0 := ⟨_, rfl⟩
  have hb0 : Below w.heap.size w w0 := by rw [← hw0]; exact ((Below.refl _ _).alloc (Nat.le_refl _) _).alloc (by simp) _
  have hs0 : w0.heap.size = w.heap.size + 1 + 1 := by rw [← hw0]; simp
  have hR0 : Blk w0 w.heap.size 4 [.bool false] := by rw [← hw0]; exact (Blk.new _ _ [.bool false] rfl).alloc _
  have hQ0 : Blk w0 (w.heap.size + 1) 23 [.int .u64 (lo : Int)] := by rw [← hw0]; exact Blk.new _ _ [.int .u64 (lo : Int)] (by simp)
  have hp := W_hid (parts_any ao n cap lo hi w0)
  have h0 := h.keep hb0
  have hML := ML.made lo hi h0.1 h0.2
  obtain ⟨w1, hw1⟩ : ∃ w1, ((w0.alloc (.cells #[.slice ao n cap] 22)).alloc (.cells #[.int .u64 (lo : Int)] 23)).alloc (.cells #[.int .u64 (hi : Int)] 23) = w1 := ⟨_, rfl⟩
  have hb1 : Below w0.heap.size w0 w1 := by rw [← hw1]; exact (((Below.refl _ _).alloc (Nat.le_refl _) _).alloc (by simp) _).alloc (by simp; omega) _
  rw [hw1] at hML hp
  have hR1 := hR0.keep hb1
  have hQ1 := hQ0.keep hb1
  have hB1 : Below w.heap.size w w1 := hb0.trans (hb1.mono hb0.size)
  have hM : MA (w.heap.size + 1) ao n cap l lo hi w0.heap.size (w0.heap.size + 1) (w0.heap.size + 1 + 1) w1 := hML.ma (by omega) (by omega) (by omega) (fun a e e' => by have := h.2 a e e'; omega) (rowOf_blk hQ1)
  have hs1 : w1.heap.size = w.heap.size + 5 := by rw [← hw1]; simp; omega
  have hG := parts_gives (w.heap.size + 1) ao n cap l lo hi w0.heap.size (w0.heap.size + 1) (w0.heap.size + 1 + 1)
  rw [hs0] at hG hM hp
  obtain ⟨xs, hxs⟩ : ∃ xs, RG.parts lo hi l = xs := ⟨_, rfl⟩
  rw [hxs] at hG ⊢
  refine callsIn_of_wp_marks Try.func31 rfl trivial ?_ rfl
  simp only [Try.ntmps31, List.size_toArray, List.length_cons, List.length_nil, Nat.reduceAdd, Nat.reduceSub, Array.replicate_succ, Array.replicate_zero, List.push_toArray, List.append_toArray, List.nil_append, List.cons_append]
  gi_wp2
  refine ⟨trivial, rfl, ?_⟩
  refine (fit_wide hp.out).mono ?_
  rintro e w2 ⟨rfl, rfl⟩
  gi_wp2
  clear hw0 hw1 hp
  obtain ⟨B, hBs⟩ : ∃ B, w2.heap.size = B := ⟨_, rfl⟩
  have hBs' := W_hid hBs
  have hs1' : Hid (B = w.heap.size + 5) := by show _ = _; rw [← hBs, hs1]
  clear hs1
  refine range_gives (gf := 40) rfl enters_parts hG hM (fun V V' _ hk h => h.kp hk) (fun _ => rfl)
    (fun k V => ∃ a : Nat, Blk V (w.heap.size + 1) 23 [.int .u64 (a : Int)] ∧ Hid (RG.cov hi lo xs ↔ RG.cov hi a (xs.drop k)) ∧ Blk V w.heap.size 4 [.bool false] ∧ Below w.heap.size w V)
    (fun c k V => (c = .ret ∧ Hid (¬ RG.cov hi lo xs)) ∧ (∃ a : Nat, Blk V (w.heap.size + 1) 23 [.int .u64 (a : Int)]) ∧ Blk V w.heap.size 4 [.bool false] ∧ Below w.heap.size w V)
    (fun k V V' row ⟨a, h1, h2, h3, h4⟩ hg hr => ⟨a, h1.own2 hg (by have := hs1'.out; omega) hr, h2, h3.own2 hg (by have := hs1'.out; omega) hr, Below.own2 h4 hg (Nat.le_refl _) (by have := hs1'.out; omega) hr⟩)
    (fun c k V V' row ⟨h0, ⟨a, h1⟩, h3, h4⟩ hg hr => ⟨h0, ⟨a, h1.own2 hg (by have := hs1'.out; omega) hr⟩, h3.own2 hg (by have := hs1'.out; omega) hr, Below.own2 h4 hg (Nat.le_refl _) (by have := hs1'.out; omega) hr⟩)
    (fun k V ⟨a, h1, h2⟩ => rw_blk h1 rfl) (fun c k V ⟨h0, ⟨a, h1⟩, _⟩ => rw_blk h1 rfl) ⟨lo, hQ1, W_hid Iff.rfl, hR1, hB1⟩
    (fun m x a' V => ∃ bx, m ≤ bx ∧ RB V bx x ∧ a' = { tmps := #[.slice ao n cap, .int .u64 (lo : Int), .int .u64 (hi : Int), undef, undef, undef, .pointer (some ⟨w.heap.size, 0, none⟩), .pointer (some ⟨w.heap.size + 1, 0, none⟩), .pointer (some ⟨bx, 0, none⟩), .int .u64 (lo : Int), .slice ao n cap, .int .u64 (lo : Int), .int .u64 (hi : Int), .func (.func 40) #[] #[.pointer (some ⟨w.heap.size + 1 + 1, 0, none⟩), .pointer (some ⟨w.heap.size + 1 + 1 + 1, 0, none⟩), .pointer (some ⟨w.heap.size + 1 + 1 + 1 + 1, 0, none⟩)], ra x, undef, undef, undef, undef, undef, undef, undef, undef, undef], defers := [] })
    (fun m x a' _ V V' row h hg hr => by
      obtain ⟨bx, h1, h3, h5⟩ := h
      exact ⟨bx, h1, Blk.own' h3 hg (fun r e => (hr r e).2), h5⟩)
    ?assign ?body ?done ?stop
  case assign =>
    rintro lq k ⟨f, t, p, s⟩ V K hsz ⟨a, hQ, hc, hR, hB⟩ hK
    have hkp := (Kp.refl (w.heap.size + 1) V).alloc hQ.lt (.cells #[.int .u64 (f : Int), .int .u64 (t : Int), .int .i64 p, .int .i64 s] 25)
    have hKn := hK _ _ hkp ⟨a, hQ.alloc _, hc, hR.alloc _, hB.alloc hB.size _⟩ ⟨V.heap.size, Nat.le_refl _, Blk.new _ _ _ rfl, rfl⟩
    simp only [ra] at hKn ⊢
    gi_wp2
    exact hKn
  case body =>
    rintro lq k ⟨f, t, p, s⟩ a' m V hx hm hmV ⟨a, hQ, hc, hR, hB⟩ ⟨bx, hbx, hX, rfl⟩
    obtain ⟨u0, u1, u2, u3⟩ := hX.re
    have cQ := hQ.cell (j := 0) rfl
    have fQ := hQ.fz 0
    have cR := hR.cell (j := 0) rfl
    have fR := hR.fz 0
    have hkl : k < xs.length := (List.getElem?_eq_some_iff.1 hx).1
    have hdrop : xs.drop k = ⟨f, t, p, s⟩ :: xs.drop (k + 1) := by
      rw [List.drop_eq_getElem_cons hkl, (List.getElem?_eq_some_iff.1 hx).2]
    rw [hdrop] at hc
    clear hx hdrop
    have hsb := hs1'.out
    simp only [ra]
    by_cases hfa : f = a
    · subst hfa
      have hnx : Hid (RG.cov hi lo xs ↔ RG.cov hi t (xs.drop (k + 1))) := ⟨fun h => (hc.out.1 h).2, fun h => hc.out.2 ⟨rfl, h⟩⟩
      have hQ2 := W_hid (hQ.set 0 (.int .u64 (t : Int)))
      have hR2 := W_hid (hR.far (p := ⟨w.heap.size + 1, 0, none⟩) (by show w.heap.size ≠ w.heap.size + 1; omega) (.int .u64 (t : Int)))
      have hB2 := W_hid (hB.setCell (p := ⟨w.heap.size + 1, 0, none⟩) (by show w.heap.size ≤ w.heap.size + 1; omega) (.int .u64 (t : Int)))
      have hkq := W_hid ((Kq.refl (w.heap.size + 1) hmV).setq (v := .int .u64 (t : Int)) cQ (fun g hg => by cases hg))
      clear hc hBs hsb
      gi_wp2
      exact ⟨hkq.out, t, hQ2.out, hnx, hR2.out, hB2.out⟩
    · have hno : Hid (¬ RG.cov hi lo xs) := fun h => hfa (hc.out.1 h).1
      have q1 : (f == a) = false := by simpa using hfa
      have q2 : ((f : Int) == (a : Int)) = false := by simp; omega
      have hR2 := W_hid (hR.set 0 (.bool false))
      have hQ2 := W_hid (hQ.far (p := ⟨w.heap.size, 0, none⟩) (by show w.heap.size + 1 ≠ w.heap.size; omega) (.bool false))
      have hB2 := W_hid (hB.setCell (p := ⟨w.heap.size, 0, none⟩) (Nat.le_refl _) (.bool false))
      clear hc hBs hsb
      gi_wp2
      exact ⟨(KeepsOthers.setCell _ _ _).from _, rfl, ⟨a, hQ2.out⟩, hR2.out, hB2.out⟩
  case done =>
    rintro D V hD ⟨a, hQ, hc, hR, hB⟩ hkp hK
    rw [List.drop_length] at hc
    have hv : Hid (decide (RG.cov hi lo xs) = decide (a = hi)) := by
      show _ = _
      exact decide_eq_decide.2 hc.out
    have cQ := hQ.cell (j := 0) rfl
    have cR := hR.cell (j := 0) rfl
    have fR := hR.fz 0
    have hDw : w.heap.size ≤ D := by have := hs1'.out; omega
    clear hc hBs
    obtain ⟨z, hz⟩ : ∃ z : Bool, ((a : Int) == (hi : Int)) = z := ⟨_, rfl⟩
    have hz' : Hid (z = decide (a = hi)) := by show _ = _; rw [← hz]; exact decide_eq_decide.2 (by omega)
    obtain ⟨V5, hV5⟩ : ∃ V5, V.setCell ⟨w.heap.size, 0, none⟩ (.bool z) = V5 := ⟨_, rfl⟩
    have hS := by have := hR.set 0 (.bool z); rw [hV5] at this; exact this
    have hS3 : Below w.heap.size w V5 := by rw [← hV5]; exact hB.setCell (Nat.le_refl _) _
    have hK5 : V5.heap[D]? = some (.deferred (some [])) := by rw [← hV5]; exact (KeepsOthers.setCell _ _ _).same D _ hK rfl
    gi_wp2
    clear hV5
    refine ⟨by simp, .inl ⟨_, _, rfl, run_takeDeferred hK5, ?_⟩⟩
    exact ⟨_, res_bool1 rfl _ _ rfl (hS.putD hK5), by rw [hv.out, hz'.out], Below.putD hS3 hDw hK5⟩
  case stop =>
    rintro D c k V hD hlt ⟨⟨rfl, hno⟩, ⟨a, hQ⟩, hR, hB⟩ hK
    have hv : Hid (decide (RG.cov hi lo xs) = false) := decide_eq_false hno.out
    have hDw : w.heap.size ≤ D := by have := hs1'.out; omega
    gi_wp2
    refine ⟨by simp, .inl ⟨_, _, rfl, run_takeDeferred hK, ?_⟩⟩
    exact ⟨_, res_bool1 rfl _ _ rfl (hR.putD hK), by rw [hv.out], Below.putD hB hDw hK⟩
end Go.Proofs.Ytfbhcnamkojboaa

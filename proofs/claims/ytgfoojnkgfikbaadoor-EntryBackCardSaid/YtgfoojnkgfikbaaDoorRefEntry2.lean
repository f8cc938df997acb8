/- Contracts of the document's own Encode and Decode (package haywardref07): for every entry, word and level. -/
import Derived.Test.YtgfoojnkgfikbaaDoorRefEntry
namespace Go.Proofs.YtgfoojnkgfikbaaDoor
open Go.ChangeShapes Go.WideShapes Go.ChangeAt Go.RowKit
set_option linter.unusedVariables false
set_option linter.unusedSimpArgs false

set_option maxRecDepth 100000 in
set_option maxHeartbeats 1000000 in
theorem rEncode_no (T H : Bool) (P : Int) (F : Nat) (L : Int) (h : ¬ EN.right T H P F L) (w : World) :
    Calls Tryd.prog 8 #[.agg #[.bool T, .bool H, .int .i64 P, .int .u64 F], .int .i64 L] w fun e w' => e = .returned (.tuple #[.int .u64 0, .int .i64 2]) ∧ Below w.heap.size w w' := by
  have hR := W_hid (fun w => rRight_any T H false P F L ⟨fun e => absurd e (by decide), fun e => absurd e h⟩ w)
  clear h
  go_enter Tryd.func8, Tryd.ntmps8
  go_wp2_with fail
  refine (hR.out _).mono ?_
  rintro e w1 ⟨rfl, bel1⟩
  replace bel1 : Below w.heap.size w w1 := ((Below.refl _ _).alloc (Nat.le_refl _) _).trans (bel1.mono (by simp))
  go_wp2
  go_ret2
  exact ⟨rfl, bel1⟩

theorem u64_small (a : Int) (h0 : 0 ≤ a) (h : a < 18446744073709551616) : IntKind.u64.wrap a = a := by rw [IntKind.wrap_u64]; omega

set_option maxRecDepth 100000 in
set_option maxHeartbeats 2000000 in
theorem rEncode_yes (T H : Bool) (P : Int) (F : Nat) (L : Int) (h : EN.right T H P F L) (w : World) :
    Calls Tryd.prog 8 #[.agg #[.bool T, .bool H, .int .i64 P, .int .u64 F], .int .i64 L] w fun e w' => e = .returned (.tuple #[.int .u64 ((EN.wd H P F : Nat) : Int), .int .i64 0]) ∧ Below w.heap.size w w' := by
  have hR := W_hid (fun w => rRight_any T H true P F L ⟨fun e => h, fun e => rfl⟩ w)
  have hF : F < 68719476736 := h.2.2.1
  have hP : EN.perms P := by rcases h.2.2.2 with ⟨-, -, -, e⟩ | ⟨-, e, -⟩; exact .inr (.inr (.inr e)); exact e
  have hW : Hid (((EN.wd H P F : Nat) : Int) = 5 + (F : Int) * 4096 + (if P = 3 ∨ P = 7 then 2 else 0) + (if H = true then 128 else 0) + (if P < 4 then 9223372036854775808 else 0)) := by
    show _ = _
    unfold EN.wd
    split <;> split <;> split <;> simp <;> omega
  clear h
  generalize EN.wd H P F = v at *
  cases H <;> rcases hP with rfl | rfl | rfl | rfl
  all_goals
    go_enter Tryd.func8, Tryd.ntmps8
    go_wp2_with fail
    refine (hR.out _).mono ?_
    rintro e w1 ⟨rfl, bel1⟩
    have b0 := Blk.keep (Blk.new w 24 [.bool T, .bool _, .int .i64 _, .int .u64 (F : Int)] rfl) bel1
    replace bel1 : Below w.heap.size w w1 := ((Below.refl _ _).alloc (Nat.le_refl _) _).trans (bel1.mono (by simp))
    have c1 : w1.cell? ⟨w.heap.size, 1, none⟩ = some _ := b0.cell rfl
    have c2 : w1.cell? ⟨w.heap.size, 2, none⟩ = some _ := b0.cell rfl
    have c3 : w1.cell? ⟨w.heap.size, 3, none⟩ = some (.int .u64 (F : Int)) := b0.cell rfl
    go_wp2
    go_ret2
    refine ⟨?_, bel1⟩
    rw [hW.out]
    simp [IntKind.wrap_u64]
    try omega

/-! ### Decode -/
set_option maxRecDepth 100000 in
set_option maxHeartbeats 1000000 in
theorem rDecode_level (x L : Int) (h : ¬ (1 ≤ L ∧ L ≤ 4)) (w : World) :
    Calls Tryd.prog 10 #[.int .u64 x, .int .i64 L] w fun e w' => e = .returned (.tuple #[.agg #[.bool false, .bool false, .int .i64 0, .int .u64 0], .bool false, .int .i64 2]) ∧ Below w.heap.size w w' := by
  by_cases c1 : 1 ≤ L
  · have d1 : decide (L < 1) = false := by simp; omega
    have d4 : decide (4 < L) = true := by simp; omega
    clear h c1
    go_enter Tryd.func10, Tryd.ntmps10
    go_wp2
    exact bodyPost_ret (res_ent3 rfl _ _ rfl (Blk.new w _ _ rfl)) rfl ⟨rfl, (Below.refl _ _).alloc (Nat.le_refl _) _⟩
  · have d1 : decide (L < 1) = true := by simp; omega
    clear h c1
    go_enter Tryd.func10, Tryd.ntmps10
    go_wp2
    exact bodyPost_ret (res_ent3 rfl _ _ rfl (Blk.new w _ _ rfl)) rfl ⟨rfl, (Below.refl _ _).alloc (Nat.le_refl _) _⟩

set_option maxRecDepth 100000 in
set_option maxHeartbeats 1000000 in
theorem rDecode_zero (L : Int) (h : 1 ≤ L ∧ L ≤ 4) (w : World) :
    Calls Tryd.prog 10 #[.int .u64 0, .int .i64 L] w fun e w' => e = .returned (.tuple #[.agg #[.bool false, .bool false, .int .i64 0, .int .u64 0], .bool false, .int .i64 0]) ∧ Below w.heap.size w w' := by
  obtain ⟨h1, h4⟩ := h
  have d1 : decide (L < 1) = false := by simp; omega
  have d4 : decide (4 < L) = false := by simp; omega
  clear h1 h4
  go_enter Tryd.func10, Tryd.ntmps10
  go_wp2
  exact bodyPost_ret (res_ent3 rfl _ _ rfl (Blk.new w _ _ rfl)) rfl ⟨rfl, (Below.refl _ _).alloc (Nat.le_refl _) _⟩

theorem blk_four {w : World} {g : Nat} {e : TypeId} {v0 v1 v2 v3 u0 u1 u2 u3 : Value} (h : Blk w g e [v0, v1, v2, v3]) :
    Blk ((((w.setCell ⟨g, 0, none⟩ u0).setCell ⟨g, 1, none⟩ u1).setCell ⟨g, 2, none⟩ u2).setCell ⟨g, 3, none⟩ u3) g e [u0, u1, u2, u3] := (((h.set 0 u0).set 1 u1).set 2 u2).set 3 u3

set_option maxRecDepth 100000 in
set_option maxHeartbeats 4000000 in
theorem rDecode_walk (x : Nat) (L : Int) (hx : x < 18446744073709551616) (h : 1 ≤ L ∧ L ≤ 4) (h0 : x ≠ 0) (c H k1 k63 : Bool) (hc : decide (2 ≤ L) = c)
    (h7 : ((WM.bit x 7 : Nat) : Int) = if H = true then 1 else 0) (hk1 : ((WM.bit x 1 : Nat) : Int) = if k1 = true then 1 else 0) (hk63 : ((WM.bit x 63 : Nat) : Int) = if k63 = true then 1 else 0)
    (f : Nat) (hf : WM.take x 12 36 = f) (v E : Int) (b : Bool) (hb : b = true ↔ ¬ (E = 0 ∧ v = x))
    (hE : Hid (∀ w : World, Calls Tryd.prog 8 #[.agg #[.bool (c && !H), .bool H, .int .i64 (1 + (if k1 = true then 2 else 0) + (if k63 = true then 0 else 4)), .int .u64 (f : Int)], .int .i64 L] w fun e w' => e = .returned (.tuple #[.int .u64 v, .int .i64 E]) ∧ Below w.heap.size w w'))
    (w : World) :
    Calls Tryd.prog 10 #[.int .u64 x, .int .i64 L] w fun e w' => e = .returned (if b = true then .tuple #[.agg #[.bool false, .bool false, .int .i64 0, .int .u64 0], .bool false, .int .i64 106] else .tuple #[.agg #[.bool (c && !H), .bool H, .int .i64 (1 + (if k1 = true then 2 else 0) + (if k63 = true then 0 else 4)), .int .u64 (f : Int)], .bool true, .int .i64 0]) ∧ Below w.heap.size w w' := by
  obtain ⟨h1, h4⟩ := h
  have d1 : decide (L < 1) = false := by simp; omega
  have d4 : decide (4 < L) = false := by simp; omega
  have e0 : ((x : Int) == 0) = false := by simp; omega
  have hB7 := W_hid (fun w => rbit_any x 7 hx (by decide) w)
  have hB1 := W_hid (fun w => rbit_any x 1 hx (by decide) w)
  have hB63 := W_hid (fun w => rbit_any x 63 hx (by decide) w)
  have hT := W_hid (fun w => rtake_yes x 12 36 hx (by decide) w)
  rw [h7] at hB7
  rw [hk1] at hB1
  rw [hk63] at hB63
  rw [hf] at hT
  clear h7 hk1 hk63 hf h1 h4 h0
  have hv : (E != 0) = true ∧ b = true ∨ (E != 0) = false ∧ (v != (x : Int)) = b := by
    by_cases hE0 : E = 0
    · refine .inr ⟨by rw [hE0]; rfl, ?_⟩
      rw [Bool.eq_iff_iff, bne_iff_ne, hb]
      exact ⟨fun h k => h k.2, fun h k => h ⟨hE0, k⟩⟩
    · exact .inl ⟨by rw [bne_iff_ne]; exact hE0, hb.2 (fun h => hE0 h.1)⟩
  clear hb
  cases c <;> cases H <;> cases k1 <;> cases k63
  all_goals
    go_enter Tryd.func10, Tryd.ntmps10
    go_wp2_with fail
    refine (hT.out _).mono ?_
    rintro e w1 ⟨rfl, rfl⟩
    go_wp2_with fail
    refine (hB7.out _).mono ?_
    rintro e w1 ⟨rfl, rfl⟩
    go_wp2_with fail
    refine (hB1.out _).mono ?_
    rintro e w1 ⟨rfl, rfl⟩
    go_wp2_with fail
    refine (hB63.out _).mono ?_
    rintro e w1 ⟨rfl, rfl⟩
    go_wp2_with fail
    refine (hE.out _).mono ?_
    rintro e w2 ⟨rfl, bel2⟩
    have b0 : Blk w2 w.heap.size 24 [.bool false, .bool false, .int .i64 0, .int .u64 0] := Blk.keep (Blk.alloc (Blk.new w _ _ rfl) _) bel2
    have b1 : Blk w2 (w.heap.size + 1) 24 [.bool _, .bool _, .int .i64 _, .int .u64 (f : Int)] := Blk.keep (Blk.new (w.alloc _) _ [.bool _, .bool _, .int .i64 _, .int .u64 (f : Int)] (by simp)) bel2
    have bel : Below w.heap.size w w2 := ((((Below.refl _ _).alloc (Nat.le_refl _) _).alloc (by simp) _).trans (bel2.mono (by simp; omega)))
    clear bel2
    have z0 : w2.cell? ⟨w.heap.size, 0, none⟩ = some (.bool false) := b0.cell rfl
    have z1 : w2.cell? ⟨w.heap.size, 1, none⟩ = some (.bool false) := b0.cell rfl
    have z2 : w2.cell? ⟨w.heap.size, 2, none⟩ = some (.int .i64 0) := b0.cell rfl
    have z3 : w2.cell? ⟨w.heap.size, 3, none⟩ = some (.int .u64 0) := b0.cell rfl
    have zf : ∀ i, w2.frozen? ⟨w.heap.size, i, none⟩ = false := b0.fz
    have y0 : w2.cell? ⟨w.heap.size + 1, 0, none⟩ = some _ := b1.cell rfl
    have y1 : w2.cell? ⟨w.heap.size + 1, 1, none⟩ = some _ := b1.cell rfl
    have y2 : w2.cell? ⟨w.heap.size + 1, 2, none⟩ = some _ := b1.cell rfl
    have y3 : w2.cell? ⟨w.heap.size + 1, 3, none⟩ = some _ := b1.cell rfl
    rcases hv with ⟨hv1, rfl⟩ | ⟨hv1, hv2⟩
    · go_wp2
      have hB : Blk _ w.heap.size 24 [.bool false, .bool false, .int .i64 0, .int .u64 0] := ((((b0.set 0 (.bool false)).set 1 (.bool false)).set 2 (.int .i64 0)).set 3 (.int .u64 0))
      exact bodyPost_ret (res_ent3 rfl _ _ rfl hB) rfl ⟨rfl, ((((bel.setCell (Nat.le_refl _) _).setCell (Nat.le_refl _) _).setCell (Nat.le_refl _) _).setCell (Nat.le_refl _) _)⟩
    · cases b
      · go_wp2
        exact bodyPost_ret (res_ent3 rfl _ _ rfl (blk_four b0)) rfl ⟨rfl, ((((bel.setCell (Nat.le_refl _) _).setCell (Nat.le_refl _) _).setCell (Nat.le_refl _) _).setCell (Nat.le_refl _) _)⟩
      · go_wp2
        have hB : Blk _ w.heap.size 24 [.bool false, .bool false, .int .i64 0, .int .u64 0] := ((((b0.set 0 (.bool false)).set 1 (.bool false)).set 2 (.int .i64 0)).set 3 (.int .u64 0))
        exact bodyPost_ret (res_ent3 rfl _ _ rfl hB) rfl ⟨rfl, ((((bel.setCell (Nat.le_refl _) _).setCell (Nat.le_refl _) _).setCell (Nat.le_refl _) _).setCell (Nat.le_refl _) _)⟩

/-- The document's answer is what the word says. -/
theorem bit_if (x i : Nat) : ((WM.bit x i : Nat) : Int) = if decide (WM.bit x i = 1) = true then 1 else 0 := by
  rcases WM.bit_01 x i with h | h <;> rw [h] <;> rfl
theorem cand_perm (x : Nat) (hx : x < 18446744073709551616) : (1 + (if decide (WM.bit x 1 = 1) = true then 2 else 0) + (if decide (WM.bit x 63 = 1) = true then 0 else 4) : Int) = EN.perm x := by
  unfold EN.perm WM.bit
  have h1 : x / 2 ^ 1 % 2 = x / 2 % 2 := rfl
  have h2 : x / 2 ^ 63 % 2 = x / 9223372036854775808 := by rw [show (2 : Nat) ^ 63 = 9223372036854775808 from rfl]; omega
  rw [h1, h2]
  simp only [decide_eq_true_eq]
  split <;> split <;> split <;> omega

theorem rDecode_cand (x : Nat) (L : Int) (hx : x < 18446744073709551616) (h : 1 ≤ L ∧ L ≤ 4) (h0 : x ≠ 0) (v E : Int) (b : Bool) (hb : b = true ↔ ¬ (E = 0 ∧ v = x))
    (hE : ∀ w : World, Calls Tryd.prog 8 #[.agg #[.bool (EN.cand x L).1, .bool (EN.cand x L).2.1, .int .i64 (EN.cand x L).2.2.1, .int .u64 ((EN.cand x L).2.2.2 : Int)], .int .i64 L] w fun e w' => e = .returned (.tuple #[.int .u64 v, .int .i64 E]) ∧ Below w.heap.size w w')
    (w : World) :
    Calls Tryd.prog 10 #[.int .u64 x, .int .i64 L] w fun e w' => e = .returned (if b = true then .tuple #[.agg #[.bool false, .bool false, .int .i64 0, .int .u64 0], .bool false, .int .i64 106] else .tuple #[.agg #[.bool (EN.cand x L).1, .bool (EN.cand x L).2.1, .int .i64 (EN.cand x L).2.2.1, .int .u64 ((EN.cand x L).2.2.2 : Int)], .bool true, .int .i64 0]) ∧ Below w.heap.size w w' := by
  have e7 : decide (x / 128 % 2 = 1) = decide (WM.bit x 7 = 1) := rfl
  unfold EN.cand at hE ⊢
  simp only [e7, ← cand_perm x hx] at hE ⊢
  exact rDecode_walk x L hx h h0 _ _ _ _ rfl (bit_if x 7) (bit_if x 1) (bit_if x 63) (EN.frame x) rfl v E b hb (W_hid hE) w

theorem rDecode_none (x : Nat) (L : Int) (hx : x < 18446744073709551616) (h : 1 ≤ L ∧ L ≤ 4) (h0 : x ≠ 0) (hr : EN.rd x L = none) (w : World) :
    Calls Tryd.prog 10 #[.int .u64 x, .int .i64 L] w fun e w' => e = .returned (.tuple #[.agg #[.bool false, .bool false, .int .i64 0, .int .u64 0], .bool false, .int .i64 106]) ∧ Below w.heap.size w w' := by
  by_cases hc : EN.right (EN.cand x L).1 (EN.cand x L).2.1 (EN.cand x L).2.2.1 (EN.cand x L).2.2.2 L
  · have hne : EN.wd (EN.cand x L).2.1 (EN.cand x L).2.2.1 (EN.cand x L).2.2.2 ≠ x := by
      intro e
      have := EN.right_rd hc
      rw [e, hr] at this
      cases this
    exact rDecode_cand x L hx h h0 _ 0 true ⟨fun _ k => hne (by have := k.2; omega), fun _ => rfl⟩ (fun w => rEncode_yes _ _ _ _ L hc w) w
  · exact rDecode_cand x L hx h h0 0 2 true ⟨fun _ k => absurd k.1 (by decide), fun _ => rfl⟩ (fun w => rEncode_no _ _ _ _ L hc w) w

theorem rDecode_some (x : Nat) (L : Int) (hx : x < 18446744073709551616) (t g : Bool) (p : Int) (f : Nat) (hr : EN.rd x L = some (t, g, p, f)) (w : World) :
    Calls Tryd.prog 10 #[.int .u64 x, .int .i64 L] w fun e w' => e = .returned (.tuple #[.agg #[.bool t, .bool g, .int .i64 p, .int .u64 (f : Int)], .bool true, .int .i64 0]) ∧ Below w.heap.size w w' := by
  have hrr := EN.rd_right hx hr
  have hc := EN.rd_cand hr
  have h0 : x ≠ 0 := by have := EN.wd_pos g p f; rw [hrr.2] at this; omega
  have := rDecode_cand x L hx ⟨hrr.1.1, hrr.1.2.1⟩ h0 x 0 false ⟨fun k => absurd k (by decide), fun k => absurd ⟨rfl, rfl⟩ k⟩
  rw [← hc] at this
  refine this (fun w => ?_) w
  have k := rEncode_yes t g p f L hrr.1 w
  rw [hrr.2] at k
  exact k

end Go.Proofs.YtgfoojnkgfikbaaDoor

/- What an iterator gives, collected. -/
import Derived.Test.YthdohimjcjkneaaGreatDoorZL08
import Derived.Test.YthdohimjcjkneaaGreatDoorZL09
import Derived.Test.YthdohimjcjkneaaGreatDoorZL04
import Derived.RangeFuncNested
import Derived.RangeFuncBound
import Derived.RangeFuncCalls
import Derived.RangeFuncLeaves
import Derived.RangeFuncStops
import Derived.Shelf.Abstract
import Derived.Shelf.RegionOpen
import Derived.WalkKit
import Derived.OwnWalkIn
import Derived.TacticsInMore
import Derived.RegionIn
import Derived.LoopNIn
import Derived.LoopIn
import Derived.Maps.OwnIn
import Derived.Maps.AppendAt
import Derived.Sort.MapsRangeIn
import Derived.RangeFuncBox

/- Contracts of the document's own Encode and Decode (package haywardref07): for every entry, word and level. -/
namespace Go.Proofs.YthdohimjcjkneaaGreatDoor
open Go.ChangeShapes Go.WideShapes Go.ChangeAt Go.RowKit
set_option linter.unusedVariables false
set_option linter.unusedSimpArgs false

set_option maxRecDepth 100000 in
set_option maxHeartbeats 1000000 in
theorem rEncode_no (T H : Bool) (P : Int) (F : Nat) (L : Int) (h : ¬ EN.right T H P F L) (w : World) :
    Calls Tryz.prog 70 #[.agg #[.bool T, .bool H, .int .i64 P, .int .u64 F], .int .i64 L] w fun e w' => e = .returned (.tuple #[.int .u64 0, .int .i64 2]) ∧ Below w.heap.size w w' := by
  have hR := W_hid (fun w => rRight_any T H false P F L ⟨fun e => absurd e (by decide), fun e => absurd e h⟩ w)
  clear h
  go_enter Tryz.func70, Tryz.ntmps70
  go_wp2_with fail
  refine (hR.out _).mono ?_
  rintro e w1 ⟨rfl, bel1⟩
  replace bel1 : Below w.heap.size w w1 := ((Below.refl _ _).alloc (Nat.le_refl _) _).trans (bel1.mono (by simp))
  go_wp2
  go_ret2
  exact ⟨rfl, bel1⟩

theorem u64_small (a : Int) (h0 : 0 ≤ a) (h : a < 18446744073709551616) : IntKind.u64.wrap a = a := by rw [IntKind.wrap_u64]; omega

set_option maxRecDepth 100000 in
set_option maxHeartbeats 2000000 in
theorem rEncode_yes (T H : Bool) (P : Int) (F : Nat) (L : Int) (h : EN.right T H P F L) (w : World) :
    Calls Tryz.prog 70 #[.agg #[.bool T, .bool H, .int .i64 P, .int .u64 F], .int .i64 L] w fun e w' => e = .returned (.tuple #[.int .u64 ((EN.wd H P F : Nat) : Int), .int .i64 0]) ∧ Below w.heap.size w w' := by
  have hR := W_hid (fun w => rRight_any T H true P F L ⟨fun e => h, fun e => rfl⟩ w)
  have hF : F < 68719476736 := h.2.2.1
  have hP : EN.perms P := by rcases h.2.2.2 with ⟨-, -, -, e⟩ | ⟨-, e, -⟩; exact .inr (.inr (.inr e)); exact e
  have hW : Hid (((EN.wd H P F : Nat) : Int) = 5 + (F : Int) * 4096 + (if P = 3 ∨ P = 7 then 2 else 0) + (if H = true then 128 else 0) + (if P < 4 then 9223372036854775808 else 0)) := by
    show _ = _
    unfold EN.wd
    split <;> split <;> split <;> simp <;> omega
  clear h
  generalize EN.wd H P F = v at *
  cases H <;> rcases hP with rfl | rfl | rfl | rfl
  all_goals
    go_enter Tryz.func70, Tryz.ntmps70
    go_wp2_with fail
    refine (hR.out _).mono ?_
    rintro e w1 ⟨rfl, bel1⟩
    have b0 := Blk.keep (Blk.new w 131 [.bool T, .bool _, .int .i64 _, .int .u64 (F : Int)] rfl) bel1
    replace bel1 : Below w.heap.size w w1 := ((Below.refl _ _).alloc (Nat.le_refl _) _).trans (bel1.mono (by simp))
    have c1 : w1.cell? ⟨w.heap.size, 1, none⟩ = some _ := b0.cell rfl
    have c2 : w1.cell? ⟨w.heap.size, 2, none⟩ = some _ := b0.cell rfl
    have c3 : w1.cell? ⟨w.heap.size, 3, none⟩ = some (.int .u64 (F : Int)) := b0.cell rfl
    go_wp2
    go_ret2
    refine ⟨?_, bel1⟩
    rw [hW.out]
    simp [IntKind.wrap_u64]
    try omega

/-! ### Decode -/
set_option maxRecDepth 100000 in
set_option maxHeartbeats 1000000 in
theorem rDecode_level (x L : Int) (h : ¬ (1 ≤ L ∧ L ≤ 4)) (w : World) :
    Calls Tryz.prog 73 #[.int .u64 x, .int .i64 L] w fun e w' => e = .returned (.tuple #[.agg #[.bool false, .bool false, .int .i64 0, .int .u64 0], .bool false, .int .i64 2]) ∧ Below w.heap.size w w' := by
  by_cases c1 : 1 ≤ L
  · have d1 : decide (L < 1) = false := by simp; omega
    have d4 : decide (4 < L) = true := by simp; omega
    clear h c1
    go_enter Tryz.func73, Tryz.ntmps73
    go_wp2
    exact bodyPost_ret (res_ent3 rfl _ _ rfl (Blk.new w _ _ rfl)) rfl ⟨rfl, (Below.refl _ _).alloc (Nat.le_refl _) _⟩
  · have d1 : decide (L < 1) = true := by simp; omega
    clear h c1
    go_enter Tryz.func73, Tryz.ntmps73
    go_wp2
    exact bodyPost_ret (res_ent3 rfl _ _ rfl (Blk.new w _ _ rfl)) rfl ⟨rfl, (Below.refl _ _).alloc (Nat.le_refl _) _⟩

set_option maxRecDepth 100000 in
set_option maxHeartbeats 1000000 in
theorem rDecode_zero (L : Int) (h : 1 ≤ L ∧ L ≤ 4) (w : World) :
    Calls Tryz.prog 73 #[.int .u64 0, .int .i64 L] w fun e w' => e = .returned (.tuple #[.agg #[.bool false, .bool false, .int .i64 0, .int .u64 0], .bool false, .int .i64 0]) ∧ Below w.heap.size w w' := by
  obtain ⟨h1, h4⟩ := h
  have d1 : decide (L < 1) = false := by simp; omega
  have d4 : decide (4 < L) = false := by simp; omega
  clear h1 h4
  go_enter Tryz.func73, Tryz.ntmps73
  go_wp2
  exact bodyPost_ret (res_ent3 rfl _ _ rfl (Blk.new w _ _ rfl)) rfl ⟨rfl, (Below.refl _ _).alloc (Nat.le_refl _) _⟩

theorem blk_four {w : World} {g : Nat} {e : TypeId} {v0 v1 v2 v3 u0 u1 u2 u3 : Value} (h : Blk w g e [v0, v1, v2, v3]) :
    Blk ((((w.setCell ⟨g, 0, none⟩ u0).setCell ⟨g, 1, none⟩ u1).setCell ⟨g, 2, none⟩ u2).setCell ⟨g, 3, none⟩ u3) g e [u0, u1, u2, u3] := (((h.set 0 u0).set 1 u1).set 2 u2).set 3 u3

set_option maxRecDepth 100000 in
set_option maxHeartbeats 4000000 in
theorem rDecode_walk (x : Nat) (L : Int) (hx : x < 18446744073709551616) (h : 1 ≤ L ∧ L ≤ 4) (h0 : x ≠ 0) (c H k1 k63 : Bool) (hc : decide (2 ≤ L) = c)
    (h7 : ((WM.bit x 7 : Nat) : Int) = if H = true then 1 else 0) (hk1 : ((WM.bit x 1 : Nat) : Int) = if k1 = true then 1 else 0) (hk63 : ((WM.bit x 63 : Nat) : Int) = if k63 = true then 1 else 0)
    (f : Nat) (hf : WM.take x 12 36 = f) (v E : Int) (b : Bool) (hb : b = true ↔ ¬ (E = 0 ∧ v = x))
    (hE : Hid (∀ w : World, Calls Tryz.prog 70 #[.agg #[.bool (c && !H), .bool H, .int .i64 (1 + (if k1 = true then 2 else 0) + (if k63 = true then 0 else 4)), .int .u64 (f : Int)], .int .i64 L] w fun e w' => e = .returned (.tuple #[.int .u64 v, .int .i64 E]) ∧ Below w.heap.size w w'))
    (w : World) :
    Calls Tryz.prog 73 #[.int .u64 x, .int .i64 L] w fun e w' => e = .returned (if b = true then .tuple #[.agg #[.bool false, .bool false, .int .i64 0, .int .u64 0], .bool false, .int .i64 106] else .tuple #[.agg #[.bool (c && !H), .bool H, .int .i64 (1 + (if k1 = true then 2 else 0) + (if k63 = true then 0 else 4)), .int .u64 (f : Int)], .bool true, .int .i64 0]) ∧ Below w.heap.size w w' := by
  obtain ⟨h1, h4⟩ := h
  have d1 : decide (L < 1) = false := by simp; omega
  have d4 : decide (4 < L) = false := by simp; omega
  have e0 : ((x : Int) == 0) = false := by simp; omega
  have hB7 := W_hid (fun w => rbit_any x 7 hx (by decide) w)
  have hB1 := W_hid (fun w => rbit_any x 1 hx (by decide) w)
  have hB63 := W_hid (fun w => rbit_any x 63 hx (by decide) w)
  have hT := W_hid (fun w => rtake_yes x 12 36 hx (by decide) w)
  rw [h7] at hB7
  rw [hk1] at hB1
  rw [hk63] at hB63
  rw [hf] at hT
  clear h7 hk1 hk63 hf h1 h4 h0
  have hv : (E != 0) = true ∧ b = true ∨ (E != 0) = false ∧ (v != (x : Int)) = b := by
    by_cases hE0 : E = 0
    · refine .inr ⟨by rw [hE0]; rfl, ?_⟩
      rw [Bool.eq_iff_iff, bne_iff_ne, hb]
      exact ⟨fun h k => h k.2, fun h k => h ⟨hE0, k⟩⟩
    · exact .inl ⟨by rw [bne_iff_ne]; exact hE0, hb.2 (fun h => hE0 h.1)⟩
  clear hb
  cases c <;> cases H <;> cases k1 <;> cases k63
  all_goals
    go_enter Tryz.func73, Tryz.ntmps73
    go_wp2_with fail
    refine (hT.out _).mono ?_
    rintro e w1 ⟨rfl, rfl⟩
    go_wp2_with fail
    refine (hB7.out _).mono ?_
    rintro e w1 ⟨rfl, rfl⟩
    go_wp2_with fail
    refine (hB1.out _).mono ?_
    rintro e w1 ⟨rfl, rfl⟩
    go_wp2_with fail
    refine (hB63.out _).mono ?_
    rintro e w1 ⟨rfl, rfl⟩
    go_wp2_with fail
    refine (hE.out _).mono ?_
    rintro e w2 ⟨rfl, bel2⟩
    have b0 : Blk w2 w.heap.size 131 [.bool false, .bool false, .int .i64 0, .int .u64 0] := Blk.keep (Blk.alloc (Blk.new w _ _ rfl) _) bel2
    have b1 : Blk w2 (w.heap.size + 1) 131 [.bool _, .bool _, .int .i64 _, .int .u64 (f : Int)] := Blk.keep (Blk.new (w.alloc _) _ [.bool _, .bool _, .int .i64 _, .int .u64 (f : Int)] (by simp)) bel2
    have bel : Below w.heap.size w w2 := ((((Below.refl _ _).alloc (Nat.le_refl _) _).alloc (by simp) _).trans (bel2.mono (by simp; omega)))
    clear bel2
    have z0 : w2.cell? ⟨w.heap.size, 0, none⟩ = some (.bool false) := b0.cell rfl
    have z1 : w2.cell? ⟨w.heap.size, 1, none⟩ = some (.bool false) := b0.cell rfl
    have z2 : w2.cell? ⟨w.heap.size, 2, none⟩ = some (.int .i64 0) := b0.cell rfl
    have z3 : w2.cell? ⟨w.heap.size, 3, none⟩ = some (.int .u64 0) := b0.cell rfl
    have zf : ∀ i, w2.frozen? ⟨w.heap.size, i, none⟩ = false := b0.fz
    have y0 : w2.cell? ⟨w.heap.size + 1, 0, none⟩ = some _ := b1.cell rfl
    have y1 : w2.cell? ⟨w.heap.size + 1, 1, none⟩ = some _ := b1.cell rfl
    have y2 : w2.cell? ⟨w.heap.size + 1, 2, none⟩ = some _ := b1.cell rfl
    have y3 : w2.cell? ⟨w.heap.size + 1, 3, none⟩ = some _ := b1.cell rfl
    rcases hv with ⟨hv1, rfl⟩ | ⟨hv1, hv2⟩
    · go_wp2
      have hB : Blk _ w.heap.size 131 [.bool false, .bool false, .int .i64 0, .int .u64 0] := ((((b0.set 0 (.bool false)).set 1 (.bool false)).set 2 (.int .i64 0)).set 3 (.int .u64 0))
      exact bodyPost_ret (res_ent3 rfl _ _ rfl hB) rfl ⟨rfl, ((((bel.setCell (Nat.le_refl _) _).setCell (Nat.le_refl _) _).setCell (Nat.le_refl _) _).setCell (Nat.le_refl _) _)⟩
    · cases b
      · go_wp2
        exact bodyPost_ret (res_ent3 rfl _ _ rfl (blk_four b0)) rfl ⟨rfl, ((((bel.setCell (Nat.le_refl _) _).setCell (Nat.le_refl _) _).setCell (Nat.le_refl _) _).setCell (Nat.le_refl _) _)⟩
      · go_wp2
        have hB : Blk _ w.heap.size 131 [.bool false, .bool false, .int .i64 0, .int .u64 0] := ((((b0.set 0 (.bool false)).set 1 (.bool false)).set 2 (.int .i64 0)).set 3 (.int .u64 0))
        exact bodyPost_ret (res_ent3 rfl _ _ rfl hB) rfl ⟨rfl, ((((bel.setCell (Nat.le_refl _) _).setCell (Nat.le_refl _) _).setCell (Nat.le_refl _) _).setCell (Nat.le_refl _) _)⟩

/-- The document's answer is what the word says. -/
theorem bit_if (x i : Nat) : ((WM.bit x i : Nat) : Int) = if decide (WM.bit x i = 1) = true then 1 else 0 := by
  rcases WM.bit_01 x i with h | h <;> rw [h] <;> rfl
theorem cand_perm (x : Nat) (hx : x < 18446744073709551616) : (1 + (if decide (WM.bit x 1 = 1) = true then 2 else 0) + (if decide (WM.bit x 63 = 1) = true then 0 else 4) : Int) = EN.perm x := by
  unfold EN.perm WM.bit
  have h1 : x / 2 ^ 1 % 2 = x / 2 % 2 := rfl
  have h2 : x / 2 ^ 63 % 2 = x / 9223372036854775808 := by rw [show (2 : Nat) ^ 63 = 9223372036854775808 from rfl]; omega
  rw [h1, h2]
  simp only [decide_eq_true_eq]
  split <;> split <;> split <;> omega

theorem rDecode_cand (x : Nat) (L : Int) (hx : x < 18446744073709551616) (h : 1 ≤ L ∧ L ≤ 4) (h0 : x ≠ 0) (v E : Int) (b : Bool) (hb : b = true ↔ ¬ (E = 0 ∧ v = x))
    (hE : ∀ w : World, Calls Tryz.prog 70 #[.agg #[.bool (EN.cand x L).1, .bool (EN.cand x L).2.1, .int .i64 (EN.cand x L).2.2.1, .int .u64 ((EN.cand x L).2.2.2 : Int)], .int .i64 L] w fun e w' => e = .returned (.tuple #[.int .u64 v, .int .i64 E]) ∧ Below w.heap.size w w')
    (w : World) :
    Calls Tryz.prog 73 #[.int .u64 x, .int .i64 L] w fun e w' => e = .returned (if b = true then .tuple #[.agg #[.bool false, .bool false, .int .i64 0, .int .u64 0], .bool false, .int .i64 106] else .tuple #[.agg #[.bool (EN.cand x L).1, .bool (EN.cand x L).2.1, .int .i64 (EN.cand x L).2.2.1, .int .u64 ((EN.cand x L).2.2.2 : Int)], .bool true, .int .i64 0]) ∧ Below w.heap.size w w' := by
  have e7 : decide (x / 128 % 2 = 1) = decide (WM.bit x 7 = 1) := rfl
  unfold EN.cand at hE ⊢
  simp only [e7, ← cand_perm x hx] at hE ⊢
  exact rDecode_walk x L hx h h0 _ _ _ _ rfl (bit_if x 7) (bit_if x 1) (bit_if x 63) (EN.frame x) rfl v E b hb (W_hid hE) w

theorem rDecode_none (x : Nat) (L : Int) (hx : x < 18446744073709551616) (h : 1 ≤ L ∧ L ≤ 4) (h0 : x ≠ 0) (hr : EN.rd x L = none) (w : World) :
    Calls Tryz.prog 73 #[.int .u64 x, .int .i64 L] w fun e w' => e = .returned (.tuple #[.agg #[.bool false, .bool false, .int .i64 0, .int .u64 0], .bool false, .int .i64 106]) ∧ Below w.heap.size w w' := by
  by_cases hc : EN.right (EN.cand x L).1 (EN.cand x L).2.1 (EN.cand x L).2.2.1 (EN.cand x L).2.2.2 L
  · have hne : EN.wd (EN.cand x L).2.1 (EN.cand x L).2.2.1 (EN.cand x L).2.2.2 ≠ x := by
      intro e
      have := EN.right_rd hc
      rw [e, hr] at this
      cases this
    exact rDecode_cand x L hx h h0 _ 0 true ⟨fun _ k => hne (by have := k.2; omega), fun _ => rfl⟩ (fun w => rEncode_yes _ _ _ _ L hc w) w
  · exact rDecode_cand x L hx h h0 0 2 true ⟨fun _ k => absurd k.1 (by decide), fun _ => rfl⟩ (fun w => rEncode_no _ _ _ _ L hc w) w

theorem rDecode_some (x : Nat) (L : Int) (hx : x < 18446744073709551616) (t g : Bool) (p : Int) (f : Nat) (hr : EN.rd x L = some (t, g, p, f)) (w : World) :
    Calls Tryz.prog 73 #[.int .u64 x, .int .i64 L] w fun e w' => e = .returned (.tuple #[.agg #[.bool t, .bool g, .int .i64 p, .int .u64 (f : Int)], .bool true, .int .i64 0]) ∧ Below w.heap.size w w' := by
  have hrr := EN.rd_right hx hr
  have hc := EN.rd_cand hr
  have h0 : x ≠ 0 := by have := EN.wd_pos g p f; rw [hrr.2] at this; omega
  have := rDecode_cand x L hx ⟨hrr.1.1, hrr.1.2.1⟩ h0 x 0 false ⟨fun k => absurd k (by decide), fun k => absurd ⟨rfl, rfl⟩ k⟩
  rw [← hc] at this
  refine this (fun w => ?_) w
  have k := rEncode_yes t g p f L hrr.1 w
  rw [hrr.2] at k
  exact k

end Go.Proofs.YthdohimjcjkneaaGreatDoor

/- The laws' helper walked: the pages by the words alone. -/
namespace Go.Proofs.YthdohimjcjkneaaGreatDoor
open Go.ChangeShapes Go.WideShapes Go.ChangeAt Go.RowKit
set_option linter.unusedVariables false
set_option linter.unusedSimpArgs false

/-- What walked answers. -/
def wkM (G : RX.Pags) (va : Nat) : List Value := match RX.pg G va with
  | some (k, f, p) => mapL (va - va % EN.sz (k - 1)) f p (decide (k = 2))
  | none => noMap
def wkB (G : RX.Pags) (va : Nat) : Bool := (RX.pg G va).isSome

set_option maxRecDepth 100000 in
set_option maxHeartbeats 4000000 in
theorem walked_any (g pg pb n m r b va : Nat) (T : Nat → Bool) (M : Nat → Option (Nat → Nat)) (F : RX.Tabs) (G : RX.Pags) (w : World) (h : Full w g pg pb n m T r b M F G) (hva : va < 140737488355328) :
    Calls Tryz.prog 29 #[.pointer (some ⟨g, 0, none⟩), .int .u64 (va : Int)] w fun e w' => e = .returned (.tuple #[.agg (wkM G va).toArray, .bool (wkB G va)]) ∧ Below w.heap.size w w' := by
  have cR := W_hid (fun w h => Root_any g pg r b M w h)
  have H := W_hid h
  have hIx := W_hid (fun k h1 h4 w => rIndex_yes va k hva h1 h4 w)
  have hw0 := W_hid (RX.way_root h.inv va hva)
  have bA := W_hid (Below.alloc (Below.refl w.heap.size w) (Nat.le_refl _) (.cells #[.int .u64 0, .int .u64 0, .int .i64 0, .bool false] 38))
  have hZ := W_hid (Blk.new w 38 noMap rfl)
  clear h
  go_enter Tryz.func29, Tryz.ntmps29
  go_wp2_with fail
  refine (cR.out _ (H.out.tt.tm.keep bA.out)).mono ?_
  rintro e w1 ⟨rfl, rfl⟩
  go_wp2_with fail
  go_loopw [6, 7] (fun a x wr => ∃ (k : Nat) (fr : Nat → Nat), Hid (RX.Way F va k fr) ∧ 1 ≤ k ∧ k ≤ 4 ∧ x = .int .i64 (k : Int) ∧ a = .int .u64 (fr k : Int) ∧ Hid (Below w.heap.size w wr) ∧ Hid (Blk wr w.heap.size 38 noMap)) (fun _ x _ => (intOf x).toNat)
  case atStart => exact ⟨4, _, hw0, by omega, by omega, rfl, by simp, bA, hZ⟩
  case round =>
    clear hZ
    obtain ⟨k, fr, hW, h1, h4, rfl, rfl, hbel, hB⟩ := hrel
    have hF := W_hid (H.out.keep hbel.out)
    have hfr := RX.Way.lt H.out.inv hW.out k
    obtain ⟨ws, hM, hws⟩ := hW.out.word H.out.rep k (Nat.le_refl _) h4
    have h0 : F k (va / EN.sz (k - 1) / 512) = some (fr k) := by rw [RX.sz_down va k h1]; exact hW.out.on k (Nat.le_refl _) h4
    obtain ⟨p1, p2, p3⟩ := RX.word_rd H.out.inv h0
    have hcs : (∃ f', F (k - 1) (va / EN.sz (k - 1)) = some f') ∨ F (k - 1) (va / EN.sz (k - 1)) = none := by
      cases F (k - 1) (va / EN.sz (k - 1)) with
      | none => exact .inr rfl
      | some f => exact .inl ⟨f, rfl⟩
    obtain ⟨i, hi⟩ : ∃ i, EN.idx va k = i := ⟨_, rfl⟩
    have hi5 : i < 512 := by rw [← hi]; exact EN.idx_lt va k
    have hIk := W_hid (hIx.out k h1 h4)
    have hWd := W_hid (fun w h => Word_any g pg r b (fr k) i M w h (by omega) hi5)
    rw [hM] at hWd
    rw [hi] at hIk hws
    obtain ⟨x, hx⟩ : ∃ x, x = RX.word F G k (va / EN.sz (k - 1)) := ⟨_, rfl⟩
    simp only [Option.getD_some, Option.isSome_some, hws, ← hx] at hWd
    rw [← hx] at p1 p2 p3
    obtain ⟨q, hq⟩ : ∃ q, q = fr k := ⟨_, rfl⟩
    rw [← hq] at hWd hfr ⊢
    replace hq := W_hid hq
    rcases hcs with ⟨f', hFk⟩ | hFk
    · have hk2 : 2 ≤ k := by have := (H.out.inv.lev hFk).1; omega
      have e1 := p1 (by unfold RX.pres; rw [hFk]; rfl)
      have e2 : RX.ent F G k (va / EN.sz (k - 1)) = (true, false, 7, f') := by unfold RX.ent; rw [hFk]
      rw [e2] at e1
      have hDec := W_hid (rDecode_some x k p3 true false 7 f' e1)
      have hW2 : Hid (RX.Way F va (k - 1) (fun j => if j = k - 1 then f' else fr j)) := W_hid ⟨by omega, by omega, fun j j1 j2 => by
        by_cases e : j = k - 1
        · simp only [if_pos e]; rw [e]; exact hFk
        · simp only [if_neg e]; exact hW.out.on j (by omega) j2, fun j hj => by
        rw [if_neg (by omega)]; exact hW.out.off j (by omega)⟩
      clear p1 p2 p3 e1 e2 hFk hx hws hM h0 hi
      go_wp2_with fail
      refine (hIk.out _).mono ?_
      rintro e w2 ⟨rfl, rfl⟩
      go_wp2_with fail
      refine (hWd.out _ hF.out.tt.tm).mono ?_
      rintro e w3 ⟨rfl, bel3⟩
      go_wp2_with fail
      refine (hDec.out _).mono ?_
      rintro e w4 ⟨rfl, bel4⟩
      have b34 := W_hid (bel3.trans (bel4.mono bel3.size))
      have bX := W_hid (hbel.out.trans (b34.out.mono hbel.out.size))
      have hB4 := W_hid (hB.out.keep b34.out)
      clear bel3 bel4
      go_wp2_with fail
      go_roundw
      case rel => exact ⟨k - 1, _, hW2, by omega, by omega, by go_num, by simp, W_hid (bX.out.alloc bX.out.size _), W_hid (hB4.out.alloc _)⟩
      case measure => simp [intOf]; omega
    · rcases RX.desc_page H.out.inv (va := va) (L := k) (fr := fr) ⟨hW.out, h1, .inr hFk⟩ with ⟨hp, f, p, hpg, hL2, hG, hF0, hE⟩ | ⟨hp, hpg⟩
      · have e1 := p1 hp
        rw [hE] at e1
        obtain ⟨hu, hhu⟩ : ∃ hu, hu = decide (k = 2) := ⟨_, rfl⟩
        have hkz : RX.psz hu = EN.sz (k - 1) := by rw [hhu]; exact RX.psz_lv k ⟨h1, hL2⟩
        have hXM : Hid (wkM G va = mapL (va - va % EN.sz (k - 1)) f p hu ∧ wkB G va = true) := W_hid (by unfold wkM wkB; rw [hpg, hhu]; exact ⟨rfl, rfl⟩)
        rw [← hhu] at e1
        have hDec := W_hid (rDecode_some x k p3 false hu p f e1)
        have hS := W_hid (fun w => rSize_any (va : Int) (f : Int) p hu w)
        have hszp := EN.sz_pos (k - 1)
        have hszl := EN.sz_le (k - 1) (by omega)
        have hf36 : f < 68719476736 := (H.out.inv.page hG).2.2.1.2.2.1
        obtain ⟨sz, hsz⟩ : ∃ sz, sz = EN.sz (k - 1) := ⟨_, rfl⟩
        rw [hkz, ← hsz] at hS
        rw [← hsz] at hXM hszp hszl
        obtain ⟨md, hmd⟩ : ∃ md, va % sz = md := ⟨_, rfl⟩
        have hmod : (va : Int).tmod (sz : Int) = (md : Int) := by rw [← hmd]; rfl
        have hml : md ≤ va := by rw [← hmd]; exact Nat.mod_le _ _
        rw [hmd] at hXM
        have hzz : ((sz : Int) == 0) = false := by simp; omega
        have hzn : ¬ sz = 0 := by omega
        have hzi : ¬ (sz : Int) = 0 := by omega
        clear p1 p2 p3 e1 hE hG hF0 hpg hp hFk hx hws hM h0 hi hkz hhu hsz hmd
        go_wp2_with fail
        refine (hIk.out _).mono ?_
        rintro e w2 ⟨rfl, rfl⟩
        go_wp2_with fail
        refine (hWd.out _ hF.out.tt.tm).mono ?_
        rintro e w3 ⟨rfl, bel3⟩
        go_wp2_with fail
        refine (hDec.out _).mono ?_
        rintro e w4 ⟨rfl, bel4⟩
        have b34 := W_hid (bel3.trans (bel4.mono bel3.size))
        have bX := W_hid (hbel.out.trans (b34.out.mono hbel.out.size))
        have hB4 := W_hid (hB.out.keep b34.out)
        have hw4 := hB4.out.lt
        clear bel3 bel4
        go_wp2_with fail
        refine (hS.out _).mono ?_
        rintro e w5 ⟨rfl, bel5⟩
        have hb5 : Blk w5 (w4.heap.size + 1) 38 [.int .u64 (va : Int), .int .u64 (f : Int), .int .i64 p, .bool hu] := (Blk.new (w4.alloc _) _ _ (by simp)).keep bel5
        have hz5 : Blk w5 w.heap.size 38 noMap := ((hB4.out.alloc _).alloc _).keep bel5
        have k0 := hb5.cell (j := 0) rfl
        have k1 := hb5.cell (j := 1) rfl
        have k2 := hb5.cell (j := 2) rfl
        have k3 := hb5.cell (j := 3) rfl
        have kf := hb5.fz
        have z0 := hz5.cell (j := 0) rfl
        have z1 := hz5.cell (j := 1) rfl
        have z2 := hz5.cell (j := 2) rfl
        have z3 := hz5.cell (j := 3) rfl
        have zf := hz5.fz
        have hne : ¬ w.heap.size = w4.heap.size + 1 := by omega
        have hne2 : ¬ w4.heap.size + 1 = w.heap.size := by omega
        have bY := W_hid (((bX.out.alloc bX.out.size _).alloc (by simp; omega) _).trans (bel5.mono (by simp; omega)))
        have hb5' := W_hid hb5
        have hz5' := W_hid hz5
        clear bel5 hb5 hz5
        go_wp2
        have hZ9 := ((((hz5'.out.far (p := ⟨w4.heap.size + 1, 0, none⟩) hne (.int .u64 ((va : Int) - (md : Int)))).set 0 (.int .u64 ((va : Int) - (md : Int)))).set 1 (.int .u64 (f : Int))).set 2 (.int .i64 p)).set 3 (.bool hu)
        have bZ := ((((bY.out.setCell (p := ⟨w4.heap.size + 1, 0, none⟩) (by show _ ≤ w4.heap.size + 1; omega) (.int .u64 ((va : Int) - (md : Int)))).setCell (p := ⟨w.heap.size, 0, none⟩) (Nat.le_refl _) (.int .u64 ((va : Int) - (md : Int)))).setCell (p := ⟨w.heap.size, 1, none⟩) (Nat.le_refl _) (.int .u64 (f : Int))).setCell (p := ⟨w.heap.size, 2, none⟩) (Nat.le_refl _) (.int .i64 p)).setCell (p := ⟨w.heap.size, 3, none⟩) (Nat.le_refl _) (.bool hu)
        exact bodyPost_ret (res_map2 Tryz.results29 _ _ rfl hZ9 rfl) rfl ⟨by rw [hXM.out.1, hXM.out.2, mapL, Int.ofNat_sub hml]; rfl, bZ⟩
      · obtain ⟨e1, e2⟩ := p2 hp
        have hXM : Hid (wkM G va = noMap ∧ wkB G va = false) := W_hid (by unfold wkM wkB; rw [hpg]; exact ⟨rfl, rfl⟩)
        have hDec := W_hid (rDecode_zero k (by omega))
        rw [e1] at hWd
        clear p1 p2 p3 e1 e2 hpg hp hFk hx hws hM h0 hi
        go_wp2_with fail
        refine (hIk.out _).mono ?_
        rintro e w2 ⟨rfl, rfl⟩
        go_wp2_with fail
        refine (hWd.out _ hF.out.tt.tm).mono ?_
        rintro e w3 ⟨rfl, bel3⟩
        go_wp2_with fail
        refine (hDec.out _).mono ?_
        rintro e w4 ⟨rfl, bel4⟩
        have b34 := W_hid (bel3.trans (bel4.mono bel3.size))
        have bX := W_hid (hbel.out.trans (b34.out.mono hbel.out.size))
        have hB4 := W_hid (hB.out.keep b34.out)
        have hw4 := hB4.out.lt
        have z0 := hB4.out.cell (j := 0) rfl
        have z1 := hB4.out.cell (j := 1) rfl
        have z2 := hB4.out.cell (j := 2) rfl
        have z3 := hB4.out.cell (j := 3) rfl
        have zf := hB4.out.fz
        have hne : ¬ w.heap.size = w4.heap.size := by omega
        have hne2 : ¬ w4.heap.size = w.heap.size := by omega
        clear bel3 bel4
        go_wp2
        have hZ9 := ((((hB4.out.set 0 (.int .u64 0)).set 1 (.int .u64 0)).set 2 (.int .i64 0)).set 3 (.bool false)).alloc (.cells #[.bool false, .bool false, .int .i64 0, .int .u64 0] 131)
        have bZ := ((((bX.out.setCell (p := ⟨w.heap.size, 0, none⟩) (Nat.le_refl _) (.int .u64 0)).setCell (p := ⟨w.heap.size, 1, none⟩) (Nat.le_refl _) (.int .u64 0)).setCell (p := ⟨w.heap.size, 2, none⟩) (Nat.le_refl _) (.int .i64 0)).setCell (p := ⟨w.heap.size, 3, none⟩) (Nat.le_refl _) (.bool false)).alloc (by simp; omega) (.cells #[.bool false, .bool false, .int .i64 0, .int .u64 0] 131)
        exact bodyPost_ret (res_map2 Tryz.results29 _ _ rfl hZ9 rfl) rfl ⟨by rw [hXM.out.1, hXM.out.2]; rfl, bZ⟩
end Go.Proofs.YthdohimjcjkneaaGreatDoor

/- The numbers of the tables, in the order in which the map gives them. -/
namespace Go.Proofs.YthdohimjcjkneaaGreatDoor
open Go.ChangeShapes Go.WideShapes Go.ChangeAt Go.RowKit Go.Shelf Go.Maps
set_option linter.unusedVariables false
set_option linter.unusedSimpArgs false
attribute [local go_sem] Oper.semAt_some

def nk (f : Nat) : Value := .int .u64 (f : Int)
theorem nk_inj {f g : Nat} (h : nk f = nk g) : f = g := by
  simp only [nk, Value.int.injEq, true_and] at h
  omega

/-- What has come: no number twice; those that are there and no longer to come. -/
structure Come (D : DataW Unit) (left : Lit → Bool) (ss : List Nat) : Prop where
  once : ss.Nodup
  iff : ∀ f, f ∈ ss ↔ f < 18446744073709551616 ∧ Maps.has D (key f) = true ∧ left (key f) = false

theorem Come.start (D : DataW Unit) : Come D (Maps.has D) [] :=
  ⟨List.nodup_nil, fun f => by cases Maps.has D (key f) <;> simp⟩

theorem Come.step {D : DataW Unit} {left : Lit → Bool} {ss : List Nat} (h : Come D left ss) {x : Nat} {y : DataW Unit} (hx : x < 18446744073709551616) (hlk : left (key x) = true) (hat : ∀ z, D.atKey (key x) z = y) :
    Come D (fun z => left z && !z.sameKey (key x)) (ss ++ [x]) := by
  have hhas : Maps.has D (key x) = true := has_true_of_atKey hat
  have hnew : x ∉ ss := fun hm => by have := ((h.iff x).1 hm).2.2; rw [hlk] at this; cases this
  refine ⟨List.nodup_append.2 ⟨h.once, by simp, fun a ha b hb => by simp at hb; subst hb; exact fun e => hnew (e ▸ ha)⟩, fun f => ?_⟩
  rw [List.mem_append, List.mem_singleton, h.iff f]
  by_cases e : f = x
  · subst e
    have : (key f).sameKey (key f) = true := WideAt.sameKey_self (isKey f hx)
    simp [hhas, this, hx]
  · have : (key f).sameKey (key x) = false := by
      simp only [key, Lit.sameKey]
      simp
      omega
    simp [e, this]

/-- Every table's number, once. -/
def Nums (M : Nat → Option (Nat → Nat)) (ss : List Nat) : Prop := ss.Nodup ∧ ∀ f, f ∈ ss ↔ M f ≠ none
theorem Nums.lt {w : World} {b : Nat} {M : Nat → Option (Nat → Nat)} {ss : List Nat} (h : Nums M ss) (hm : MB w b M) : ∀ f ∈ ss, f < 65536 := fun f hf => hm.bound f ((h.2 f).1 hf)
theorem Nums.len {w : World} {b : Nat} {M : Nat → Option (Nat → Nat)} {ss : List Nat} (h : Nums M ss) (hm : MB w b M) : ss.length ≤ 65536 := nodup_le 65536 ss h.1 (h.lt hm)

set_option maxRecDepth 100000 in
set_option maxHeartbeats 1000000 in
theorem keys1_in (F : Fence) (n : Nat) (hf : F.fn 123) (hro : F.round = none) (hn : 1 ≤ n) (l Bm b N : Nat) (M : Nat → Option (Nat → Nat)) (J Jx : List Nat → World → Prop)
    (D : DataW Unit) (hN : Maps.size D ≤ N)
    (hY : ∀ pre x W, J pre W → pre.length < N → YieldAt F (n - 1) Tryz.prog l #[nk x] W fun e W' => (e = .returned (.bool true) ∧ J (pre ++ [x]) W' ∧ KeepsWalks W W') ∨ (e = .returned (.bool false) ∧ Jx (pre ++ [x]) W'))
    (W : World) (hJ : AbidesFrom W.heap.size J) (hm : W.cell? ⟨Bm, 0, none⟩ = some (.map (some b)))
    (hown : W.ownsMap Tryz.prog 36 TR b (Maps.size D) D) (hhas : ∀ f, f < 18446744073709551616 → Maps.has D (key f) = (M f).isSome) (hbd : ∀ f, M f ≠ none → f < 65536) (h0 : J [] W) :
    CallsIn F n Tryz.prog 123 #[.func (.yield l) #[] #[], .pointer (some ⟨Bm, 0, none⟩)] W fun e W' => (∃ v, e = .returned v) ∧
      ((∃ ss, Nums M ss ∧ J ss W') ∨ (∃ pre, True ∧ Jx pre W')) := by
  refine callsIn_of_wp Tryz.func123 rfl hf ?_ hro
  simp only [Tryz.ntmps123, List.size_toArray, List.length_cons, List.length_nil, Nat.reduceAdd, Nat.reduceSub, Array.replicate_succ, Array.replicate_zero, List.push_toArray, List.append_toArray, List.nil_append, List.cons_append]
  gi_wp2_with (first
    | (gi_at_range; refine wpListIn_range_own _ rfl _ 117 rfl 36 125 keyed_u64 und_map TR b (Maps.size D) D rfl hown ?_; intro w0 hrg0 hg0 hs0)
    | gi_in)
  go_frame
  gi_loopw [3] (fun _ wr => ∃ (left : Lit → Bool) (cnt : Nat) (ss : List Nat), wr.ranges Tryz.prog 36 TR b W.heap.size (Maps.size D) D left cnt ∧ ss.length + cnt ≤ Maps.size D ∧ Come D left ss ∧ J ss wr)
    (fun _ wr => wr.rangeLeft b W.heap.size)
  case atStart =>
    exact ⟨_, _, [], hrg0, by simp, Come.start D, hJ [] W w0 none h0 hg0 (fun r e => by cases e)⟩
  case round =>
    obtain ⟨left, cnt, ss, hrg, hcs, hC, hJs⟩ := hrel
    gi_wp2_with (first
      | (gi_at_next; refine wpListIn_next_ranges _ rfl _ rfl 36 keyed_u64 TR nk id (fun k kl hk => by obtain ⟨x, rfl, hx, hwf⟩ := Maps.keyOf_int_inv und_u64 hk; have := wf_u64_bounds hwf; exact ⟨x.toNat, by simp only [nk, Value.int.injEq, true_and]; omega⟩) (fun v _ _ => ⟨v, rfl⟩) b W.heap.size (Maps.size D) _ _ _ rfl hrg ?_ ?_)
      | gi_in)
    · intro hc0 hl0
      gi_wp2
      go_end0
      refine ⟨⟨_, rfl⟩, .inl ⟨ss, ⟨hC.once, fun f => ?_⟩, hJs⟩⟩
      rw [hC.iff f, hl0]
      constructor
      · rintro ⟨h1, h2, -⟩ h3
        rw [hhas f h1, h3] at h2
        cases h2
      · intro h
        have h1 := hbd f h
        refine ⟨by omega, ?_, rfl⟩
        rw [hhas f (by omega)]
        cases e : M f with
        | none => exact absurd e h
        | some _ => rfl
    · intro x c kl yd yp w2 cnt2 hkey hlk hv hat hrg2 hlt hg2 hs2 hen
      have hx : x < 18446744073709551616 ∧ kl = key x := by
        obtain ⟨x', e, rfl, hwf⟩ := Maps.keyOf_int_inv und_u64 hkey
        have := wf_u64_bounds hwf
        simp only [nk, Value.int.injEq, true_and] at e
        subst e
        exact ⟨by omega, rfl⟩
      obtain ⟨hx, rfl⟩ := hx
      have hJ2 : J ss w2 := hJ ss wr w2 (some W.heap.size) hJs hg2 (fun r e => by cases e; exact ⟨Nat.le_refl _, hrg.iter_walk⟩)
      obtain ⟨fn, tmps, assign, body, hy, hR⟩ := hY ss x w2 hJ2 (by omega)
      clear hs2
      gi_wp2
      refine hR.mono ?_
      have hC2 := hC.step hx hlk hat
      rintro e W3 (⟨rfl, hJ3, hk3⟩ | ⟨rfl, hJx3⟩)
      · gi_wp2
        have hrg3 := hrg2.of_walks hk3
        go_roundw
        case rel => exact ⟨_, cnt2, ss ++ [x], hrg3, by simp; omega, hC2, hJ3⟩
        case measure => rw [hrg3.left_eq, hrg.left_eq]; exact hlt
      · gi_wp2
        refine bodyPost_ret (results_none rfl _ _ _) rfl ?_
        exact ⟨⟨_, rfl⟩, .inr ⟨ss ++ [x], trivial, hJx3⟩⟩

/-- The value that Keys hands back gives every table's number, once. -/
theorem keys_seq (F : Fence) (n : Nat) (hf : F.fn 123) (hro : F.round = none) (hn : 1 ≤ n) (Bm b : Nat) (M : Nat → Option (Nat → Nat)) (w : World) (hBm : Bm < w.heap.size) (hb : b < w.heap.size)
    (hm : w.cell? ⟨Bm, 0, none⟩ = some (.map (some b))) (hMB : MB w b M) :
    SeqStopsK F n Tryz.prog 123 #[.pointer (some ⟨Bm, 0, none⟩)] (fun x => #[nk x]) KeepsWalks (Nums M) (fun _ => True) 65536 w := fun l J Jx W hW hJ _ hY h0 => by
  obtain ⟨D, hown, hhas, hat⟩ := hMB.ex
  have hsz : Maps.size D ≤ 65536 := own_size hown (fun f hf h => by
    rw [hhas f hf] at h
    exact hMB.bound f (fun e => by rw [e] at h; cases h))
  have hown' : W.ownsMap Tryz.prog 36 TR b (Maps.size D) D := by
    obtain ⟨es, clock, hb', Ft, hs, hD⟩ := hown
    exact ⟨es, clock, (hW.block b hb).trans hb', Ft, hs, hD⟩
  exact keys1_in F n hf hro hn l Bm b 65536 M J Jx D hsz hY W hJ ((hW.cell (p := ⟨Bm, 0, none⟩) hBm).trans hm) hown' hhas hMB.bound h0

set_option maxRecDepth 100000 in
set_option maxHeartbeats 1000000 in
theorem Keys_any (b : Nat) (w : World) :
    Calls Tryz.prog 67 #[.map (some b)] w fun e w' => e = .returned (.func (.func 123) #[] #[.pointer (some ⟨w.heap.size, 0, none⟩)]) ∧ w' = w.alloc (.cells #[.map (some b)] 117) := by
  go_enter Tryz.func67, Tryz.ntmps67
  go_wp2
  go_ret
  exact ⟨rfl, rfl⟩
end Go.Proofs.YthdohimjcjkneaaGreatDoor

namespace Go.Proofs.YthdohimjcjkneaaGreatDoor
open Go.ChangeShapes Go.WideShapes Go.ChangeAt Go.RowKit Go.Shelf Go.Maps
set_option linter.unusedVariables false
set_option linter.unusedSimpArgs false
attribute [local go_sem] Oper.semAt_some

theorem one_u64 : (Tryz.prog.info? 36).map (fun i => (i.zero, i.size, i.bytes)) = some (some (.int .u64 0), 1, 8) := by kernel_rfl
theorem und_nums : Tryz.prog.underlying 49 = some (.slice 36) := by kernel_rfl

set_option maxRecDepth 100000 in
set_option maxHeartbeats 2000000 in
theorem append_in (F : Fence) (n : Nat) (hf : F.fn 169) (hro : F.round = none) (hn : 2 ≤ n) (g : Nat) (lb : Array Value) (hg : F.fn g) (eg : ∀ args w, (callFunc g args).run Tryz.prog w = .ok (.enter g args) w)
    (S : List Nat → Prop) (N : Nat) (hN : N ≤ 65536) (w : World) (hseq : SeqStopsK F (n - 1) Tryz.prog g lb (fun x => #[nk x]) KeepsWalks S (fun _ => True) N w) :
    CallsIn F n Tryz.prog 169 #[.slice none 0 0, .func (.func g) #[] lb] w fun e w' => ∃ (v : Value) (ss : List Nat), e = .returned v ∧ S ss ∧ w'.ownsRow w.heap.size 36 1 v ss.length (ss.map nk) ∧ (v = .slice none 0 0 ↔ ss = []) ∧ Below w.heap.size w w' := by
  have h1 : 1 ≤ n := by omega
  obtain ⟨i0, hi, hz0, hz1, hz2⟩ := info_parts one_u64
  refine callsIn_of_wp_marks Tryz.func169 rfl hf ?_ hro
  simp only [Tryz.ntmps169, List.size_toArray, List.length_cons, List.length_nil, Nat.reduceAdd, Nat.reduceSub, Array.replicate_succ, Array.replicate_zero, List.push_toArray, List.append_toArray, List.nil_append, List.cons_append]
  gi_wp2
  have bO := Boxed.new w 49 (.slice none 0 0)
  have hB0 : Below w.heap.size w (w.alloc (.cells #[.slice none 0 0] 49)) := (Below.refl _ w).alloc (Nat.le_refl _) _
  refine wpIn_rangeFunc_ownG hro h1 (gf := g) (lb := lb) rfl hg eg
    hseq walksK_t walksK_b hB0 (fun _ => rfl)
    (fun pre W => (∃ v, Boxed W w.heap.size 49 v ∧ W.ownsRow w.heap.size 36 1 v pre.length (pre.map nk) ∧ (v = .slice none 0 0 ↔ pre = [])) ∧ Below w.heap.size w W)
    (fun _ _ _ => False)
    (OwnFrom.and (Own.from (holdsRow_own w.heap.size w.heap.size 49 36 1 (fun pre : List Nat => pre.length) (fun pre : List Nat => pre.map nk) (fun pre v => v = .slice none 0 0 ↔ pre = [])) _) (ownFrom_below (Nat.le_refl _) (by simp)))
    (fun _ _ _ _ _ hs _ _ => hs)
    ⟨⟨_, bO, World.ownsRow_nil _ _ _ _, by simp⟩, hB0⟩
    (fun x => { tmps := #[.slice none 0 0, .func (.func g) #[] lb, .pointer (some ⟨w.heap.size, 0, none⟩), undef, .slice none 0 0, .int .u64 (x : Int), .func (.func g) #[] lb, .int .u64 (x : Int), undef, undef, undef, undef, undef], defers := [] }) ?assign ?body ?done ?stop
  case assign =>
    intro l x W K hK
    gi_wp2
    exact hK
  case body =>
    rintro l pre x W ⟨⟨v, hv, hrow, hnil⟩, hB⟩ hlt
    have hc := hv.cell
    gi_wp2_with (gi_at_builtin; refine wpListIn_append_own _ rfl _ _ 49 rfl w.heap.size 36 i0 (.int .u64 0) 1 8 und_nums hi hz0 hz1 hz2 rfl (by decide) _ _ _ rfl (hrow.alloc _) ⟨W.heap.size, 0, none⟩ 1 1 [.int .u64 (x : Int)] rfl rfl (cell_one_new _ _ _) (by simp [Value.oneCell', nk]) (by simp only [maxLen]; omega) (by omega) (by have := hB.size; simp; omega) ?_; intro v' w1 hown' hgrow _; obtain ⟨g', cap', rfl⟩ := ownsRow_succ hown'; obtain ⟨hv1, hv2, hr2, hk2, hb2⟩ := hv.appended (by decide) hrow hB.size (Nat.le_refl _) hown' hgrow; have hc1 := hv1.cell; have hf1 := hv1.frozen)
    exact ⟨hk2.from _, hk2.walks, ⟨_, hv2, by simpa [nk] using hr2, by simp⟩, hB.trans hb2⟩
  case done =>
    rintro D ys W hD hS ⟨⟨v, hv, hrow, hnil⟩, hB⟩ hK
    have hc := hv.cell
    have hf := hv.frozen
    gi_wp2
    refine ⟨by simp, .inl ⟨_, _, rfl, run_takeDeferred hK, ?_⟩⟩
    exact ⟨_, results_tmp rfl _ _ _, v, ys, rfl, hS, ownsRow_putObj hrow _ hK rfl, hnil, hB.trans (belowK_b (w := w) (Nat.le_refl _) W D _ _ (by simp at hD; omega) hK rfl rfl)⟩
  case stop =>
    rintro D c pre W _ _ h _
    exact h.elim

set_option maxRecDepth 100000 in
set_option maxHeartbeats 1000000 in
theorem collect_in (F : Fence) (n : Nat) (h8 : F.fn 121) (hf : F.fn 169) (hro : F.round = none) (hn : 3 ≤ n) (g : Nat) (lb : Array Value) (hg : F.fn g) (eg : ∀ args w, (callFunc g args).run Tryz.prog w = .ok (.enter g args) w)
    (S : List Nat → Prop) (N : Nat) (hN : N ≤ 65536) (w : World) (hseq : SeqStopsK F (n - 1 - 1) Tryz.prog g lb (fun x => #[nk x]) KeepsWalks S (fun _ => True) N w) :
    CallsIn F n Tryz.prog 121 #[.func (.func g) #[] lb] w fun e w' => ∃ (v : Value) (ss : List Nat), e = .returned v ∧ S ss ∧ w'.ownsRow w.heap.size 36 1 v ss.length (ss.map nk) ∧ (v = .slice none 0 0 ↔ ss = []) ∧ Below w.heap.size w w' := by
  have h1 : 1 ≤ n := by omega
  refine callsIn_of_wp Tryz.func121 rfl h8 ?_ hro
  simp only [Tryz.ntmps121, List.size_toArray, List.length_cons, List.length_nil, Nat.reduceAdd, Nat.reduceSub, Array.replicate_succ, Array.replicate_zero, List.push_toArray, List.append_toArray, List.nil_append, List.cons_append]
  gi_wp2_with (gi_at_call 169; refine (append_in F (n - 1) hf hro (by omega) g lb hg eg S N hN _ hseq).mono ?_; rintro e w' ⟨v, ss, rfl, hS, hrow, hnil, hb⟩)
  go_ret
  exact ⟨v, ss, rfl, hS, hrow, hnil, hb⟩

theorem enters_keys1 : ∀ args w, (callFunc 123 args).run Tryz.prog w = .ok (.enter 123 args) w :=
  enters_of Tryz.func123 (by kernel_rfl) rfl

/-- Collect(Keys(m)). -/
theorem Collect_any (Bm b : Nat) (M : Nat → Option (Nat → Nat)) (w : World) (hBm : Bm < w.heap.size) (hb : b < w.heap.size) (hm : w.cell? ⟨Bm, 0, none⟩ = some (.map (some b))) (hMB : MB w b M) :
    Calls Tryz.prog 121 #[.func (.func 123) #[] #[.pointer (some ⟨Bm, 0, none⟩)]] w fun e w' => ∃ (v : Value) (ss : List Nat), e = .returned v ∧ Nums M ss ∧ w'.ownsRow w.heap.size 36 1 v ss.length (ss.map nk) ∧ (v = .slice none 0 0 ↔ ss = []) ∧ Below w.heap.size w w' := by
  refine (callsIn_wide (n := 6)).1 ?_
  exact collect_in Fence.wide 6 trivial trivial rfl (by omega) _ _ trivial enters_keys1 (Nums M) 65536 (Nat.le_refl _) w (keys_seq Fence.wide 4 trivial rfl (by omega) Bm b M w hBm hb hm hMB)
end Go.Proofs.YthdohimjcjkneaaGreatDoor

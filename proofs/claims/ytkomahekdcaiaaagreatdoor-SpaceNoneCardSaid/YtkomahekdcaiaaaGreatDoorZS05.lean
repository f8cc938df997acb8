/- The program's own Gap. -/
import Derived.Test.YtkomahekdcaiaaaGreatDoorZS04
import Derived.Test.YtkomahekdcaiaaaGreatDoorZS02
import Derived.Defers
import Derived.DefersIn
import Derived.Test.YtkomahekdcaiaaaGreatDoorZS01
import Derived.Deep.RegionHeld3
import Derived.StillTail
import Derived.WalkKit
import Derived.ProofKit
import Derived.Test.YtkomahekdcaiaaaGreatDoorZS03

/- The program's own Cut and At. -/
namespace Go.Proofs.YtkomahekdcaiaaaGreatDoor
open Go.ChangeShapes Go.WideShapes Go.ChangeAt Go.RowKit
open SQ
set_option linter.unusedVariables false
set_option linter.unusedSimpArgs false
open RG (Rg)

/-- A call gives two lists, each in a row of its own, and a number of an error. -/
def GvEE (f : FuncId) (args : Array Value) (L M : List Rg) (E : Int) (w : World) : Prop :=
  Calls Tryz.prog f args w fun e w' => ∃ ao c bo d B, e = .returned (.tuple #[.slice ao L.length c, .slice bo M.length d, .int .i64 E]) ∧ w'.ownsRow w.heap.size 55 4 (.slice ao L.length c) L.length (rcl L) ∧ (∀ g, (Value.slice ao L.length c).ownBlock = some g → g < B) ∧
    w.heap.size ≤ B ∧ w'.ownsRow B 55 4 (.slice bo M.length d) M.length (rcl M) ∧ Below w.heap.size w w'
noncomputable def ctL (l : List Rg) (lo hi : Nat) : List Rg := if RG.Ok true none l ∧ RG.isRange lo hi then RG.rep l lo hi [] else []
noncomputable def ctO (l : List Rg) (lo hi : Nat) : List Rg := if RG.Ok true none l ∧ RG.isRange lo hi then RG.parts lo hi l else []
noncomputable def ctE (l : List Rg) (lo hi : Nat) : Int := if RG.Ok true none l ∧ RG.isRange lo hi then 0 else 2

set_option maxRecDepth 100000 in
set_option maxHeartbeats 4000000 in
theorem Cut_any (ao : Option Addr) (n cap : Nat) (l : List Rg) (lo hi : Nat) (w : World) (h : GL w ao n cap l) :
    GvEE 58 #[.slice ao n cap, .int .u64 (lo : Int), .int .u64 (hi : Int)] (ctL l lo hi) (ctO l lo hi) (ctE l lo hi) w := by
  have hV := valid_any ao n cap l _ h.1
  have hI := W_hid (fun w => isRange_any lo hi w)
  have hL := W_hid h
  by_cases hok : RG.Ok true none l
  · rw [decide_eq_true hok] at hV
    replace hV := W_hid hV
    by_cases hg : RG.isRange lo hi
    · rw [decide_eq_true hg] at hI
      have hR : Hid (∀ w, GL w ao n cap l → GvL 103 #[.slice ao n cap, .int .u64 (lo : Int), .int .u64 (hi : Int), .slice none 0 0] (ctL l lo hi) w) := by
        intro w h1
        have := replace_any ao none n cap 0 0 l [] lo hi w h1 (GL_nil w) (ok_len hok) (by simp)
        unfold ctL
        rw [if_pos ⟨hok, hg⟩]
        exact this
      have hMk := W_hid (fun w => parts_any ao n cap lo hi w)
      have hG : Hid (∀ w b1 b2 b3, ML ao n cap l lo hi b1 b2 b3 w → GvL 101 #[.func (.func 139) #[] #[.pointer (some ⟨b1, 0, none⟩), .pointer (some ⟨b2, 0, none⟩), .pointer (some ⟨b3, 0, none⟩)]] (ctO l lo hi) w) := by
        intro w b1 b2 b3 h1
        have := gather_parts ao n cap l lo hi b1 b2 b3 w h1 (ok_len hok)
        unfold ctO
        rw [if_pos ⟨hok, hg⟩]
        exact this
      have hE : Hid (ctE l lo hi = 0) := by
        show _ = _
        unfold ctE
        rw [if_pos ⟨hok, hg⟩]
      unfold GvEE
      generalize ctL l lo hi = LL at *
      generalize ctO l lo hi = OO at *
      clear hok hg h
      go_enter Tryz.func58, Tryz.ntmps58
      go_wp2_with fail
      refine hV.out.mono ?_
      rintro e w1 ⟨rfl, bel1⟩
      replace hL := W_hid (hL.out.keep bel1)
      go_wp2_with fail
      refine (hI.out _).mono ?_
      rintro e w2 ⟨rfl, rfl⟩
      go_wp2_with fail
      refine (hR.out _ hL.out).mono ?_
      rintro e w3 ⟨v, rfl, hown, bel3⟩
      obtain ⟨va, vc, rfl⟩ := Own.form hown
      replace hL := W_hid (hL.out.keep bel3)
      have hm := ML.made lo hi hL.out.1 hL.out.2
      obtain ⟨w4, hw4⟩ : ∃ w4, ((w3.alloc (.cells #[.slice ao n cap] 41)).alloc (.cells #[.int .u64 (lo : Int)] 36)).alloc (.cells #[.int .u64 (hi : Int)] 36) = w4 := ⟨_, rfl⟩
      have bel4 : Below w3.heap.size w3 w4 := by rw [← hw4]; exact (((Below.refl _ _).alloc (Nat.le_refl _) _).alloc (by simp) _).alloc (by simp; omega) _
      rw [hw4] at hm
      have hlt := W_hid (fun g hg => Nat.lt_of_lt_of_le (gown_cells hown g hg).1.lt bel4.size)
      have hown4 := W_hid (Own.low bel1.size (Own.below hown bel4))
      have bb := (bel1.trans (bel3.mono bel1.size)).trans (bel4.mono (Nat.le_trans bel1.size bel3.size))
      go_wp2_with fail
      refine (hMk.out _).mono ?_
      rintro e w4' ⟨rfl, rfl⟩
      rw [hw4]
      clear hw4 hown
      go_wp2_with fail
      refine (hG.out _ _ _ _ hm).mono ?_
      rintro e w5 ⟨v2, rfl, hown2, bel5⟩
      obtain ⟨vb, vd, rfl⟩ := Own.form hown2
      have hown5 := W_hid (Own.below hown4.out bel5)
      go_wp2_with fail
      refine bodyPost_ret (results_tmp3 rfl _ _ _) rfl ?_
      exact ⟨va, vc, vb, vd, w4.heap.size, by rw [hE.out]; rfl, hown5.out, hlt.out, bb.size, hown2, bb.trans (bel5.mono bb.size)⟩
    · rw [decide_eq_false hg] at hI
      have hE : Hid (ctE l lo hi = 2 ∧ ctL l lo hi = [] ∧ ctO l lo hi = []) := by
        show _ ∧ _ ∧ _
        unfold ctE ctL ctO
        rw [if_neg (fun h => hg h.2), if_neg (fun h => hg h.2), if_neg (fun h => hg h.2)]
        exact ⟨rfl, rfl, rfl⟩
      unfold GvEE
      rw [hE.out.1, hE.out.2.1, hE.out.2.2]
      clear hok hg h
      go_enter Tryz.func58, Tryz.ntmps58
      go_wp2_with fail
      refine hV.out.mono ?_
      rintro e w1 ⟨rfl, bel1⟩
      go_wp2_with fail
      refine (hI.out _).mono ?_
      rintro e w2 ⟨rfl, rfl⟩
      go_wp2_with fail
      refine bodyPost_ret (results_tmp3 rfl _ _ _) rfl ?_
      exact ⟨none, 0, none, 0, w.heap.size, rfl, World.ownsRow_nil _ _ _ _, (fun g hg => by cases hg), Nat.le_refl _, World.ownsRow_nil _ _ _ _, bel1⟩
  · rw [decide_eq_false hok] at hV
    replace hV := W_hid hV
    have hE : Hid (ctE l lo hi = 2 ∧ ctL l lo hi = [] ∧ ctO l lo hi = []) := by
      show _ ∧ _ ∧ _
      unfold ctE ctL ctO
      rw [if_neg (fun h => hok h.1), if_neg (fun h => hok h.1), if_neg (fun h => hok h.1)]
      exact ⟨rfl, rfl, rfl⟩
    unfold GvEE
    rw [hE.out.1, hE.out.2.1, hE.out.2.2]
    clear hok h
    go_enter Tryz.func58, Tryz.ntmps58
    go_wp2_with fail
    refine hV.out.mono ?_
    rintro e w1 ⟨rfl, bel1⟩
    go_wp2_with fail
    refine bodyPost_ret (results_tmp3 rfl _ _ _) rfl ?_
    exact ⟨none, 0, none, 0, w.heap.size, rfl, World.ownsRow_nil _ _ _ _, (fun g hg => by cases hg), Nat.le_refl _, World.ownsRow_nil _ _ _ _, bel1⟩

/-- The region that has an address, as the program finds it. -/
noncomputable def atV (l : List Rg) (va : Nat) : Value := fstV (if RG.Ok true none l ∧ va < 140737488355328 then RG.meeting va (va + 1) l else [])
set_option maxRecDepth 100000 in
set_option maxHeartbeats 4000000 in
theorem At_any (ao : Option Addr) (n cap : Nat) (l : List Rg) (va : Nat) (w : World) (h : GL w ao n cap l) :
    Gv 61 #[.slice ao n cap, .int .u64 (va : Int)] (atV l va) w := by
  obtain ⟨w0, hw0⟩ : ∃ w0, w.alloc (.cells #[.int .u64 0, .int .u64 0, .int .i64 0, .int .i64 0] 55) = w0 := ⟨_, rfl⟩
  have bb : Below w.heap.size w w0 := by rw [← hw0]; exact (Below.refl _ _).alloc (Nat.le_refl _) _
  have hB0 : RB w0 w.heap.size ⟨0, 0, 0, 0⟩ := by rw [← hw0]; exact Blk.new _ _ _ rfl
  have hL := W_hid (h.keep bb)
  have hV := valid_any ao n cap l _ hL.out.1
  obtain ⟨VA, hVA⟩ : ∃ VA : Int, VA = va := ⟨_, rfl⟩
  have hz : RB w0 w.heap.size ⟨0, 0, 0, 0⟩ → ra ⟨0, 0, 0, 0⟩ = .agg #[.int .u64 0, .int .u64 0, .int .i64 0, .int .i64 0] := fun _ => rfl
  have fin : ∀ (V : World) (x : Rg) (b : Bool), RB V w.heap.size x → True := fun _ _ _ _ => trivial
  by_cases hok : RG.Ok true none l
  · rw [decide_eq_true hok] at hV
    replace hV := W_hid hV
    by_cases hg : va < 140737488355328
    · have hlt : VA < 140737488355328 := by omega
      have hlt0 : 0 ≤ VA := by omega
      have hv1 : VA + 1 = ((va + 1 : Nat) : Int) := by omega
      have hMk := W_hid (fun w => meeting_any ao n cap va (va + 1) w)
      have hF := W_hid (fun w b1 b2 b3 h => first_meet ao n cap l va (va + 1) b1 b2 b3 w h)
      have hE : Hid (atV l va = fstV (RG.meeting va (va + 1) l)) := by
        show _ = _
        unfold atV
        rw [if_pos ⟨hok, hg⟩]
      generalize RG.meeting va (va + 1) l = X at *
      rw [← hv1, ← hVA] at hMk
      rw [← hVA]
      have hm1 := fun (w : World) (h : GL w ao n cap l) => ML.made va (va + 1) h.1 h.2
      rw [← hv1, ← hVA] at hm1
      clear hok hg h hVA hv1 fin hz
      obtain ⟨T, hT⟩ : ∃ T, VA + 1 = T := ⟨_, rfl⟩
      have hT2 : 0 ≤ T ∧ T ≤ 18446744073709551615 := by omega
      rw [hT] at hMk hm1
      go_enter Tryz.func61, Tryz.ntmps61
      go_wp2_with fail
      refine hV.out.mono ?_
      rintro e w1 ⟨rfl, bel1⟩
      have hB1 : RB w1 w.heap.size ⟨0, 0, 0, 0⟩ := hB0.keep bel1
      replace hL := W_hid (hL.out.keep bel1)
      replace bb := bb.trans (bel1.mono bb.size)
      go_wp2_with fail
      have hm := hm1 _ hL.out
      obtain ⟨w3, hw3⟩ : ∃ w3, ((w1.alloc (.cells #[.slice ao n cap] 41)).alloc (.cells #[.int .u64 VA] 36)).alloc (.cells #[.int .u64 T] 36) = w3 := ⟨_, rfl⟩
      have bel3 : Below w1.heap.size w1 w3 := by rw [← hw3]; exact (((Below.refl _ _).alloc (Nat.le_refl _) _).alloc (by simp) _).alloc (by simp; omega) _
      rw [hw3] at hm
      refine (hMk.out _).mono ?_
      rintro e w3' ⟨rfl, rfl⟩
      rw [hw3]
      clear hw3
      have hB3 : RB w3 w.heap.size ⟨0, 0, 0, 0⟩ := hB1.keep bel3
      replace bb := bb.trans (bel3.mono bb.size)
      go_wp2_with fail
      refine (hF.out _ _ _ _ hm).mono ?_
      rintro e w4 ⟨rfl, bel4⟩
      have hB4 : RB w4 w.heap.size ⟨0, 0, 0, 0⟩ := hB3.keep bel4
      replace bb := bb.trans (bel4.mono bb.size)
      have hx : ∃ (x : Rg) (b : Bool), fstV X = .tuple #[ra x, .bool b] := by
        cases X with
        | nil => exact ⟨_, _, rfl⟩
        | cons x r => exact ⟨_, _, rfl⟩
      obtain ⟨⟨xf, xt, xp, xk⟩, b, hx⟩ := hx
      rw [hx] at hE ⊢
      simp only [ra]
      obtain ⟨c0, c1, c2, c3⟩ := RB.re hB4
      have f0 := Blk.fz hB4 0
      have f1 := Blk.fz hB4 1
      have f2 := Blk.fz hB4 2
      have f3 := Blk.fz hB4 3
      have hB5 := W_hid (((((hB4.set 0 (.int .u64 (xf : Int))).set 1 (.int .u64 (xt : Int))).set 2 (.int .i64 xp)).set 3 (.int .i64 xk)))
      have b5 := ((((bb.setCell (p := ⟨w.heap.size, 0, none⟩) (Nat.le_refl _) (.int .u64 (xf : Int))).setCell (p := ⟨w.heap.size, 1, none⟩) (Nat.le_refl _) (.int .u64 (xt : Int))).setCell (p := ⟨w.heap.size, 2, none⟩) (Nat.le_refl _) (.int .i64 xp)).setCell (p := ⟨w.heap.size, 3, none⟩) (Nat.le_refl _) (.int .i64 xk))
      clear bel1 bel3 bel4 hm hm1 hMk hF hV hx
      go_wp2_with fail
      refine bodyPost_ret (res_reg1 (x := ⟨xf, xt, xp, xk⟩) rfl _ _ rfl hB5.out) rfl ?_
      exact ⟨by rw [hE.out]; rfl, b5⟩
    · have hlt : ¬ VA < 140737488355328 := by omega
      have hE : Hid (atV l va = .tuple #[.agg #[.int .u64 0, .int .u64 0, .int .i64 0, .int .i64 0], .bool false]) := by
        show _ = _
        unfold atV
        rw [if_neg (fun h => hg h.2)]
        rfl
      rw [hE.out, ← hVA]
      clear hok hg h hVA fin hz
      go_enter Tryz.func61, Tryz.ntmps61
      go_wp2_with fail
      refine hV.out.mono ?_
      rintro e w1 ⟨rfl, bel1⟩
      have hB4 : RB w1 w.heap.size ⟨0, 0, 0, 0⟩ := hB0.keep bel1
      replace bb := bb.trans (bel1.mono bb.size)
      obtain ⟨c0, c1, c2, c3⟩ := RB.re hB4
      have f0 := Blk.fz hB4 0
      have f1 := Blk.fz hB4 1
      have f2 := Blk.fz hB4 2
      have f3 := Blk.fz hB4 3
      have hB5 : RB ((((w1.setCell ⟨w.heap.size, 0, none⟩ (.int .u64 0)).setCell ⟨w.heap.size, 1, none⟩ (.int .u64 0)).setCell ⟨w.heap.size, 2, none⟩ (.int .i64 0)).setCell ⟨w.heap.size, 3, none⟩ (.int .i64 0)) w.heap.size ⟨0, 0, 0, 0⟩ := (((hB4.set 0 _).set 1 _).set 2 _).set 3 _
      have b5 := ((((bb.setCell (p := ⟨w.heap.size, 0, none⟩) (Nat.le_refl _) (.int .u64 0)).setCell (p := ⟨w.heap.size, 1, none⟩) (Nat.le_refl _) (.int .u64 0)).setCell (p := ⟨w.heap.size, 2, none⟩) (Nat.le_refl _) (.int .i64 0)).setCell (p := ⟨w.heap.size, 3, none⟩) (Nat.le_refl _) (.int .i64 0))
      replace hB5 := W_hid hB5
      clear bel1 hV
      go_wp2_with fail
      refine bodyPost_ret (res_reg1 (x := ⟨0, 0, 0, 0⟩) rfl _ _ rfl hB5.out) rfl ?_
      exact ⟨rfl, b5⟩
  · rw [decide_eq_false hok] at hV
    replace hV := W_hid hV
    have hE : Hid (atV l va = .tuple #[.agg #[.int .u64 0, .int .u64 0, .int .i64 0, .int .i64 0], .bool false]) := by
      show _ = _
      unfold atV
      rw [if_neg (fun h => hok h.1)]
      rfl
    rw [hE.out, ← hVA]
    clear hok h hVA fin hz
    go_enter Tryz.func61, Tryz.ntmps61
    go_wp2_with fail
    refine hV.out.mono ?_
    rintro e w1 ⟨rfl, bel1⟩
    have hB4 : RB w1 w.heap.size ⟨0, 0, 0, 0⟩ := hB0.keep bel1
    replace bb := bb.trans (bel1.mono bb.size)
    obtain ⟨c0, c1, c2, c3⟩ := RB.re hB4
    have f0 := Blk.fz hB4 0
    have f1 := Blk.fz hB4 1
    have f2 := Blk.fz hB4 2
    have f3 := Blk.fz hB4 3
    have hB5 : RB ((((w1.setCell ⟨w.heap.size, 0, none⟩ (.int .u64 0)).setCell ⟨w.heap.size, 1, none⟩ (.int .u64 0)).setCell ⟨w.heap.size, 2, none⟩ (.int .i64 0)).setCell ⟨w.heap.size, 3, none⟩ (.int .i64 0)) w.heap.size ⟨0, 0, 0, 0⟩ := (((hB4.set 0 _).set 1 _).set 2 _).set 3 _
    have b5 := ((((bb.setCell (p := ⟨w.heap.size, 0, none⟩) (Nat.le_refl _) (.int .u64 0)).setCell (p := ⟨w.heap.size, 1, none⟩) (Nat.le_refl _) (.int .u64 0)).setCell (p := ⟨w.heap.size, 2, none⟩) (Nat.le_refl _) (.int .i64 0)).setCell (p := ⟨w.heap.size, 3, none⟩) (Nat.le_refl _) (.int .i64 0))
    replace hB5 := W_hid hB5
    clear bel1 hV
    go_wp2_with fail
    refine bodyPost_ret (res_reg1 (x := ⟨0, 0, 0, 0⟩) rfl _ _ rfl hB5.out) rfl ?_
    exact ⟨rfl, b5⟩
end Go.Proofs.YtkomahekdcaiaaaGreatDoor

/- Contracts of package space: splits. -/
namespace Go.Proofs.YtkomahekdcaiaaaGreatDoor
open Go.ChangeShapes Go.WideShapes Go.ChangeAt Go.RowKit Go.Shelf
set_option linter.unusedVariables false
set_option linter.unusedSimpArgs false
open RG (Rg)

/-- Whether an end of a range at this address lies within a huge page. -/
def splF (xs : List Rg) (va : Nat) : Bool := match xs with
  | [] => false
  | x :: _ => decide (x.k = 1) && !decide (va % 2097152 = 0)

set_option maxRecDepth 100000 in
set_option maxHeartbeats 1000000 in
theorem splits_core (s n cap va : Nat) (ao : Option Addr) (tp pp : Value) (xs : List Rg) (w : World) (h : SpB w s tp pp (.slice ao n cap))
    (hAt : Gv 61 #[.slice ao n cap, .int .u64 (va : Int)] (fstV xs) w) :
    Calls Tryz.prog 97 #[.pointer (some ⟨s, 0, none⟩), .int .u64 (va : Int)] w fun e w' => e = .returned (.bool (splF xs va)) ∧ Below w.heap.size w w' := by
  have c2 := h.cell (j := 2) rfl
  have hA := W_hid hAt
  clear h hAt
  match xs with
  | [] =>
    simp only [fstV, ra] at hA
    go_enter Tryz.func97, Tryz.ntmps97
    go_wp2_with fail
    refine hA.out.mono ?_
    rintro e w1 ⟨rfl, hb⟩
    have hb := W_hid hb
    go_wp2
    go_ret
    exact ⟨rfl, hb.out.alloc hb.out.size _⟩
  | ⟨f, t, p, k⟩ :: r =>
    simp only [fstV, ra] at hA
    by_cases hk : k = 1
    · have hs : splF (⟨f, t, p, k⟩ :: r) va = ((va : Int) % 2097152 != 0) := by
        rw [Bool.eq_iff_iff]
        simp [splF, hk]
        omega
      rw [hs]
      subst hk
      clear hs
      go_enter Tryz.func97, Tryz.ntmps97
      go_wp2_with fail
      refine hA.out.mono ?_
      rintro e w1 ⟨rfl, hb⟩
      have hb := W_hid hb
      go_wp2
      go_ret
      exact ⟨rfl, hb.out.alloc hb.out.size _⟩
    · have hs : splF (⟨f, t, p, k⟩ :: r) va = false := by simp [splF, hk]
      have d1 : decide (k = 1) = false := decide_eq_false hk
      rw [hs]
      clear hs
      go_enter Tryz.func97, Tryz.ntmps97
      go_wp2_with fail
      refine hA.out.mono ?_
      rintro e w1 ⟨rfl, hb⟩
      have hb := W_hid hb
      go_wp2
      go_ret
      exact ⟨rfl, hb.out.alloc hb.out.size _⟩
end Go.Proofs.YtkomahekdcaiaaaGreatDoor

/- Contracts of package space: end, where the range is none. -/
namespace Go.Proofs.YtkomahekdcaiaaaGreatDoor
open Go.ChangeShapes Go.WideShapes Go.ChangeAt Go.RowKit Go.Shelf
set_option linter.unusedVariables false
set_option linter.unusedSimpArgs false

/-- A range that may be removed or changed, but for huge pages at its ends. -/
def endOk (va size : Nat) : Prop := va % 4096 = 0 ∧ va ≤ 1099511627776 ∧ 1 ≤ size ∧ size ≤ 1099511627776 - va
instance (va size : Nat) : Decidable (endOk va size) := by unfold endOk; infer_instance

set_option maxRecDepth 100000 in
set_option maxHeartbeats 1000000 in
theorem end_no (v : Value) (va size : Nat) (w : World) (hva : va < 18446744073709551616) (hsz : size < 18446744073709551616) (h : ¬ endOk va size) :
    Calls Tryz.prog 55 #[v, .int .u64 (va : Int), .int .u64 (size : Int)] w fun e w' => e = .returned (.tuple #[.int .u64 0, .bool false]) ∧ w = w' := by
  by_cases h1 : va % 4096 = 0
  · have d1 : ((va : Int) % 4096 != 0) = false := by simp; omega
    by_cases h2 : va ≤ 1099511627776
    · have d2 : decide ((1099511627776 : Int) < (va : Int)) = false := by simp; omega
      by_cases h3 : 1 ≤ size
      · have d3 : decide ((size : Int) < 1) = false := by simp; omega
        have h4 : ¬ size ≤ 1099511627776 - va := fun h4 => h ⟨h1, h2, h3, h4⟩
        have d4 : decide ((1099511627776 : Int) - (va : Int) < (size : Int)) = true := by simp; omega
        clear h
        go_enter Tryz.func55, Tryz.ntmps55
        go_wp2
        go_ret2
        exact ⟨rfl, rfl⟩
      · have d3 : decide ((size : Int) < 1) = true := by simp; omega
        clear h
        go_enter Tryz.func55, Tryz.ntmps55
        go_wp2
        go_ret2
        exact ⟨rfl, rfl⟩
    · have d2 : decide ((1099511627776 : Int) < (va : Int)) = true := by simp; omega
      clear h
      go_enter Tryz.func55, Tryz.ntmps55
      go_wp2
      go_ret2
      exact ⟨rfl, rfl⟩
  · have d1 : ((va : Int) % 4096 != 0) = true := by simp; omega
    clear h
    go_enter Tryz.func55, Tryz.ntmps55
    go_wp2
    go_ret2
    exact ⟨rfl, rfl⟩
end Go.Proofs.YtkomahekdcaiaaaGreatDoor

/- Contracts of package space: end, where the range is one. -/
namespace Go.Proofs.YtkomahekdcaiaaaGreatDoor
open Go.ChangeShapes Go.WideShapes Go.ChangeAt Go.RowKit Go.Shelf
set_option linter.unusedVariables false
set_option linter.unusedSimpArgs false
open RG (Rg)

/-- The next multiple. -/
def upTo (x p : Nat) : Nat := (x + p - 1) / p * p
set_option maxRecDepth 100000 in
theorem up_small (x : Nat) (hx : x < 281474976710656) (w : World) : Calls Tryz.prog 51 #[.int .u64 (x : Int), .int .u64 (4096 : Nat)] w fun e w' => e = .returned (.tuple #[.int .u64 ((upTo x 4096 : Nat) : Int), .int .i64 0]) ∧ w = w' := by
  have ho : WM.ones 4096 64 = 1 := by decide
  by_cases h : x % 4096 = 0
  · have := up_same x 4096 (by omega) (by decide) ho h w
    have e : upTo x 4096 = x := by unfold upTo; omega
    rw [e]
    exact this
  · have e0 : WM.down x 4096 = x - x % 4096 := rfl
    have := up_next x 4096 (by omega) (by decide) ho h (by omega) w
    have e : upTo x 4096 = WM.down x 4096 + 4096 := by rw [e0]; unfold upTo; omega
    rw [e]
    exact this
set_option maxRecDepth 100000 in
theorem up_huge (x : Nat) (hx : x < 281474976710656) (w : World) : Calls Tryz.prog 51 #[.int .u64 (x : Int), .int .u64 (2097152 : Nat)] w fun e w' => e = .returned (.tuple #[.int .u64 ((upTo x 2097152 : Nat) : Int), .int .i64 0]) ∧ w = w' := by
  have ho : WM.ones 2097152 64 = 1 := by decide
  by_cases h : x % 2097152 = 0
  · have := up_same x 2097152 (by omega) (by decide) ho h w
    have e : upTo x 2097152 = x := by unfold upTo; omega
    rw [e]
    exact this
  · have e0 : WM.down x 2097152 = x - x % 2097152 := rfl
    have := up_next x 2097152 (by omega) (by decide) ho h (by omega) w
    have e : upTo x 2097152 = WM.down x 2097152 + 2097152 := by rw [e0]; unfold upTo; omega
    rw [e]
    exact this
set_option maxRecDepth 100000 in
set_option maxHeartbeats 1000000 in
theorem end_yes (s n cap va size : Nat) (ao : Option Addr) (tp pp : Value) (X : Nat → List Rg) (w : World) (h : SpB w s tp pp (.slice ao n cap)) (hok : endOk va size)
    (hAt : ∀ u w', Below w.heap.size w w' → Gv 61 #[.slice ao n cap, .int .u64 ((u : Nat) : Int)] (fstV (X u)) w') :
    Calls Tryz.prog 55 #[.pointer (some ⟨s, 0, none⟩), .int .u64 (va : Int), .int .u64 (size : Int)] w fun e w' =>
      e = .returned (.tuple #[.int .u64 ((upTo (va + size) 4096 : Nat) : Int), .bool (!splF (X va) va && !splF (X (upTo (va + size) 4096)) (upTo (va + size) 4096))]) ∧ Below w.heap.size w w' := by
  obtain ⟨h1, h2, h3, h4⟩ := hok
  have d1 : ((va : Int) % 4096 != 0) = false := by simp; omega
  have d2 : decide ((1099511627776 : Int) < (va : Int)) = false := by simp; omega
  have d3 : decide ((size : Int) < 1) = false := by simp; omega
  have d4 : decide ((1099511627776 : Int) - (va : Int) < (size : Int)) = false := by simp; omega
  have hU := W_hid (fun w => up_small (va + size) (by omega) w)
  obtain ⟨U, hUU⟩ : ∃ U, upTo (va + size) 4096 = U := ⟨_, rfl⟩
  rw [hUU] at hU ⊢
  have hS := W_hid (fun u w' hb => splits_core s n cap u ao tp pp (X u) w' (Blk.keep h hb) (hAt u w' hb))
  clear h hAt hUU
  cases hA : splF (X va) va
  · go_enter Tryz.func55, Tryz.ntmps55
    go_wp2_with (go_at_call 51; refine (hU.out _).mono ?_; rintro e w' ⟨rfl, rfl⟩)
    refine (hS.out va _ (Below.refl _ _)).mono ?_
    rintro e w1 ⟨rfl, hb1⟩
    rw [hA]
    go_wp2_with fail
    refine (hS.out U _ hb1).mono ?_
    rintro e w2 ⟨rfl, hb2⟩
    have hb := W_hid (hb1.trans (⟨hb2.os, hb2.tape, hb2.output, hb2.size, fun k hk => hb2.block k (Nat.lt_of_lt_of_le hk hb1.size)⟩ : Below w.heap.size w1 w2))
    clear hb1 hb2
    go_wp2
    go_ret2
    exact ⟨rfl, hb.out⟩
  · go_enter Tryz.func55, Tryz.ntmps55
    go_wp2_with (go_at_call 51; refine (hU.out _).mono ?_; rintro e w' ⟨rfl, rfl⟩)
    refine (hS.out va _ (Below.refl _ _)).mono ?_
    rintro e w1 ⟨rfl, hb1⟩
    rw [hA]
    have hb1 := W_hid hb1
    go_wp2
    go_ret2
    exact ⟨rfl, hb1.out⟩
end Go.Proofs.YtkomahekdcaiaaaGreatDoor

/- Contracts of package space: New. -/
namespace Go.Proofs.YtkomahekdcaiaaaGreatDoor
open Go.ChangeShapes Go.WideShapes Go.ChangeAt Go.RowKit Go.Shelf
set_option linter.unusedVariables false
set_option linter.unusedSimpArgs false

theorem spNew_nil (w : World) : Calls Tryz.prog 32 #[.pointer none] w fun e w' => e = .returned (.tuple #[.pointer none, .int .i64 1]) ∧ w = w' := by
  have hN := W_hid (New_nilT w)
  go_enter Tryz.func32, Tryz.ntmps32
  go_wp2_with fail
  refine hN.out.mono ?_
  rintro e w1 ⟨rfl, rfl⟩
  go_wp2
  go_ret2
  exact ⟨rfl, rfl⟩

set_option maxRecDepth 100000 in
set_option maxHeartbeats 1000000 in
theorem spNew_yes (pg pb n m f : Nat) (T : Nat → Bool) (w : World) (hP : PL w pg pb n m T) (hk : KT w) (hk1 : 0 ≠ pg) (hk2 : 0 ≠ pb) (hlow : FR.Low T n 1 f) :
    Calls Tryz.prog 32 #[.pointer (some ⟨pg, 0, none⟩)] w fun e w' =>
      ∃ s g b M, e = .returned (.tuple #[.pointer (some ⟨s, 0, none⟩), .int .i64 0]) ∧ (w.heap.size ≤ s ∧ w.heap.size ≤ g ∧ w.heap.size ≤ b ∧ s ≠ g ∧ s ≠ b ∧ s ≠ pg ∧ s ≠ pb) ∧ SpB w' s (.pointer (some ⟨g, 0, none⟩)) (.pointer (some ⟨pg, 0, none⟩)) (.slice none 0 0) ∧
        Full w' g pg pb n m (FR.st T f 1 true) f b M (F0 f) G0 ∧ But [pg, pb] w w' := by
  have hpl := hP.lts
  have hN := W_hid (New_yesT pg pb n m f T w hP hk hk1 hk2 hlow)
  clear hP hk hlow
  go_enter Tryz.func32, Tryz.ntmps32
  go_wp2_with fail
  refine hN.out.mono ?_
  rintro e w1 ⟨g, b, M, rfl, hg, hb, hF, hB⟩
  have hlts := hF.lts
  have hs1 := hB.size
  have hres := W_hid (show (w.heap.size ≤ w1.heap.size ∧ w.heap.size ≤ g ∧ w.heap.size ≤ b ∧ w1.heap.size ≠ g ∧ w1.heap.size ≠ b ∧ w1.heap.size ≠ pg ∧ w1.heap.size ≠ pb) ∧ SpB (w1.alloc (.cells #[.pointer (some ⟨g, 0, none⟩), .pointer (some ⟨pg, 0, none⟩), .slice none 0 0] 94)) w1.heap.size (.pointer (some ⟨g, 0, none⟩)) (.pointer (some ⟨pg, 0, none⟩)) (.slice none 0 0) ∧
      Full (w1.alloc (.cells #[.pointer (some ⟨g, 0, none⟩), .pointer (some ⟨pg, 0, none⟩), .slice none 0 0] 94)) g pg pb n m (FR.st T f 1 true) f b M (F0 f) G0 ∧ But [pg, pb] w (w1.alloc (.cells #[.pointer (some ⟨g, 0, none⟩), .pointer (some ⟨pg, 0, none⟩), .slice none 0 0] 94)) from
    ⟨⟨by omega, hg, hb, by omega, by omega, by omega, by omega⟩, Blk.new _ _ [.pointer (some ⟨g, 0, none⟩), .pointer (some ⟨pg, 0, none⟩), .slice none 0 0] rfl, hF.keep ((Below.refl _ _).alloc (Nat.le_refl _) _), hB.alloc _⟩)
  clear hF hB hN
  go_wp2
  go_ret2
  exact ⟨_, g, b, M, rfl, hres.out⟩
end Go.Proofs.YtkomahekdcaiaaaGreatDoor

/- Contracts of package space: a space in memory; remove. -/
namespace Go.Proofs.YtkomahekdcaiaaaGreatDoor
open Go.ChangeShapes Go.WideShapes Go.ChangeAt Go.RowKit Go.Shelf
open SQ SB
set_option linter.unusedVariables false
set_option linter.unusedSimpArgs false
attribute [local go_sem] Oper.semAt_some
open RG (Rg)

theorem But.moreS {S S' : List Nat} {w w' : World} (h : But S w w') (hs : ∀ x ∈ S, x ∈ S') : But S' w w' := ⟨h.os, h.tape, h.output, h.size, fun k hk hS => h.block k hk fun hm => hS (hs k hm)⟩
/-- A space in memory: its tree, its regions in a row of its own. -/
structure SM (g pg pb n m r b s : Nat) (S : TS) (L : List Rg) (ao : Option Addr) (cap : Nat) (w : World) : Prop where
  fs : FS g pg pb n m r b S w
  sp : SpB w s (.pointer (some ⟨g, 0, none⟩)) (.pointer (some ⟨pg, 0, none⟩)) (.slice ao L.length cap)
  row : w.ownsRow 0 55 4 (.slice ao L.length cap) L.length (rcl L)
  far : ∀ a, ao = some a → a.block ≠ s ∧ a.block ≠ g ∧ a.block ≠ pg ∧ a.block ≠ pb ∧ a.block ≠ b ∧ a.block ≠ 0
  sn : s ≠ g ∧ s ≠ pg ∧ s ≠ pb ∧ s ≠ b ∧ s ≠ 0
section
variable {g pg pb n m r b s cap : Nat} {S S' : TS} {L : List Rg} {ao : Option Addr} {w w' : World}
theorem SM.gl (h : SM g pg pb n m r b s S L ao cap w) : GL w ao L.length cap L := GL_own h.row
theorem SM.keep (h : SM g pg pb n m r b s S L ao cap w) (hb : Below w.heap.size w w') : SM g pg pb n m r b s S L ao cap w' :=
  ⟨h.fs.keep hb, h.sp.keep hb, own_of h.row (fun k hk => hb.block k (gown_cells h.row k hk).1.lt), h.far, h.sn⟩
theorem FS.far (h : FS g pg pb n m r b S w) {y j : Nat} (v : Value) (hy : y ≠ g ∧ y ≠ pg ∧ y ≠ pb ∧ y ≠ b ∧ y ≠ 0) : FS g pg pb n m r b S (w.setCell ⟨y, j, none⟩ v) :=
  h.elim fun M h => ⟨M, h.far v hy.1.symm hy.2.1.symm hy.2.2.1.symm hy.2.2.2.1.symm hy.2.2.2.2.symm⟩
/-- Other regions, in a new row. -/
theorem SM.store (h : SpB w s (.pointer (some ⟨g, 0, none⟩)) (.pointer (some ⟨pg, 0, none⟩)) (.slice ao L.length cap)) (hf : FS g pg pb n m r b S w) (hn : s ≠ g ∧ s ≠ pg ∧ s ≠ pb ∧ s ≠ b ∧ s ≠ 0) {L' : List Rg} {ao' : Option Addr} {cap' base : Nat}
    (hr : w.ownsRow base 55 4 (.slice ao' L'.length cap') L'.length (rcl L')) (hb : s < base ∧ g < base ∧ pg < base ∧ pb < base ∧ b < base ∧ 0 < base) :
    SM g pg pb n m r b s S L' ao' cap' (w.setCell ⟨s, 2, none⟩ (.slice ao' L'.length cap')) := by
  have hge := gown_cells hr
  refine ⟨hf.far _ hn, h.set 2 _, Own.low (Nat.zero_le _) (own_of hr (fun k hk => Below.heap_setCell _ _ _ _ (by have := (hge k hk).2; show k ≠ s; omega))), fun a e => ?_, hn⟩
  subst e
  have := (hge a.block rfl).2
  omega
end

set_option maxRecDepth 100000 in
set_option maxHeartbeats 2000000 in
theorem remove_any (g pg pb n m r b s lo hi cap : Nat) (S S' : TS) (L : List Rg) (ao : Option Addr) (w : World) (h : SM g pg pb n m r b s S L ao cap w) (hV : VacR n (ctO L lo hi) S S') :
    Calls Tryz.prog 56 #[.pointer (some ⟨s, 0, none⟩), .int .u64 (lo : Int), .int .u64 (hi : Int)] w fun e w' => e = .returned (.tuple #[]) ∧ (∃ ao' cap', SM g pg pb n m r b s S' (ctL L lo hi) ao' cap' w') ∧ But [s, pg, pb, b] w w' := by
  have hC := W_hid (Cut_any ao L.length cap L lo hi w h.gl)
  have c2 := h.sp.cell (j := 2) rfl
  have hlts := h.fs.lts
  have hsl := h.sp.lt
  have hsn := h.sn
  have hVa := W_hid (fun w nn cap a rows h hs hX ha => vacate_any g pg pb n m r b s nn cap a rows (ctO L lo hi) S S' w h hs ⟨hsn.2.1, hsn.2.2.1, hsn.2.2.2.1⟩ hX ha hV)
  have H := W_hid h
  clear h hV
  go_enter Tryz.func56, Tryz.ntmps56
  go_wp2_with fail
  refine hC.out.mono ?_
  rintro e w1 ⟨a1, d1, a2, d2, B, rfl, ho1, hne, hB, ho2, hb⟩
  have hF1 := H.out.fs.keep hb
  have hS1 := H.out.sp.keep hb
  have hg1 := gown_cells ho1
  have hg2 := gown_cells ho2
  have hcall := hVa.out w1 _ _ a2 _ hF1 hS1 (RS_own ho2) (fun a e => by subst e; have := (hg2 a.block rfl).2; omega)
  replace ho1 := W_hid ho1
  replace hS1 := W_hid hS1
  replace hb := W_hid hb
  clear hF1 ho2 hne hg2 c2 hVa hC
  go_wp2_with fail
  refine hcall.mono ?_
  rintro e w2 ⟨rfl, hF2, hB2⟩
  have hS2 := hS1.out.but hB2 (by simp [hsn])
  have f2 := hS2.fz 2
  have ho3 := own_of ho1.out (fun k hk => hB2.block k (hg1 k hk).1.lt (by have := (hg1 k hk).2; simp; omega))
  have hM := W_hid (SM.store hS2 hF2 hsn ho3 ⟨hsl, hlts.1, hlts.2.1, hlts.2.2.1, hlts.2.2.2.1, hlts.2.2.2.2⟩)
  have hBB : Hid (But [s, pg, pb, b] w (w2.setCell ⟨s, 2, none⟩ (.slice a1 (ctL L lo hi).length d1))) := W_hid (((But.of hb.out).trans (hB2.moreS (by simp))).set (.inl (by simp)) _)
  have c2 := hS2.cell (j := 2) rfl
  clear hF2 hB2 ho3 hS2 hcall hg1
  go_wp2
  go_end0
  exact ⟨rfl, ⟨_, _, hM.out⟩, hBB.out⟩
end Go.Proofs.YtkomahekdcaiaaaGreatDoor

/- Contracts of package space: Munmap. -/
namespace Go.Proofs.YtkomahekdcaiaaaGreatDoor
open Go.ChangeShapes Go.WideShapes Go.ChangeAt Go.RowKit Go.Shelf
set_option linter.unusedVariables false
set_option linter.unusedSimpArgs false
attribute [local go_sem] Oper.semAt_some
open RG (Rg)

/-- The region that has an address, alone. -/
noncomputable def atX (L : List Rg) (u : Nat) : List Rg := if RG.Ok true none L ∧ u < 140737488355328 then RG.meeting u (u + 1) L else []
/-- Neither end of the range lies within a huge page. -/
noncomputable def sndF (L : List Rg) (va size : Nat) : Bool := !splF (atX L va) va && !splF (atX L (upTo (va + size) 4096)) (upTo (va + size) 4096)
/-- A call leaves a space so. -/
def SO (g pg pb n m r b s : Nat) (S' : TS) (L' : List Rg) (w w' : World) : Prop := (∃ ao' cap', SM g pg pb n m r b s S' L' ao' cap' w') ∧ But [s, pg, pb, b] w w'
section
variable {g pg pb n m r b s cap : Nat} {S S' : TS} {L : List Rg} {ao : Option Addr} {w : World}
theorem SM.so (h : SM g pg pb n m r b s S L ao cap w) {w' : World} (hb : Below w.heap.size w w') : SO g pg pb n m r b s S L w w' := ⟨⟨_, _, h.keep hb⟩, But.of hb⟩
theorem SM.ended (h : SM g pg pb n m r b s S L ao cap w) (va size : Nat) (hok : endOk va size) :
    Calls Tryz.prog 55 #[.pointer (some ⟨s, 0, none⟩), .int .u64 (va : Int), .int .u64 (size : Int)] w fun e w' =>
      e = .returned (.tuple #[.int .u64 ((upTo (va + size) 4096 : Nat) : Int), .bool (sndF L va size)]) ∧ Below w.heap.size w w' :=
  end_yes s L.length cap va size ao _ _ (atX L) w h.sp hok (fun u w' hb => At_any ao L.length cap L u w' (h.gl.keep hb))
end

/-- What Munmap does. -/
inductive MuR (n : Nat) (L : List Rg) (va size : Nat) (S : TS) : Int → List Rg → TS → Prop
  | arg (h : ¬ (endOk va size ∧ sndF L va size = true)) : MuR n L va size S 2 L S
  | done (S' : TS) (h1 : endOk va size) (h2 : sndF L va size = true) (h3 : VacR n (ctO L va (upTo (va + size) 4096)) S S') : MuR n L va size S 0 (ctL L va (upTo (va + size) 4096)) S'

set_option maxRecDepth 100000 in
set_option maxHeartbeats 2000000 in
theorem Munmap_any (g pg pb n m r b s cap va size : Nat) (c : Int) (S S' : TS) (L L' : List Rg) (ao : Option Addr) (w : World) (h : SM g pg pb n m r b s S L ao cap w) (hva : va < 18446744073709551616) (hsz : size < 18446744073709551616) (hR : MuR n L va size S c L' S') :
    Calls Tryz.prog 29 #[.pointer (some ⟨s, 0, none⟩), .int .u64 (va : Int), .int .u64 (size : Int)] w fun e w' => e = .returned (.int .i64 c) ∧ SO g pg pb n m r b s S' L' w w' := by
  have hN := W_hid (fun w h => spNone_no s g (.pointer (some ⟨pg, 0, none⟩)) (.slice ao L.length cap) w h)
  have hS := W_hid h.sp
  have H := W_hid h
  cases hR with
  | arg hno =>
    by_cases hok : endOk va size
    · have hE := h.ended va size hok
      rw [show sndF L va size = false by cases hs : sndF L va size; exact rfl; exact absurd ⟨hok, hs⟩ hno] at hE
      replace hE := W_hid hE
      clear h hno hok
      go_enter Tryz.func29, Tryz.ntmps29
      go_wp2_with fail
      refine (hN.out _ hS.out).mono ?_
      rintro e w1 ⟨rfl, rfl⟩
      go_wp2_with fail
      refine hE.out.mono ?_
      rintro e w2 ⟨rfl, hb⟩
      have hf := W_hid (H.out.so hb)
      clear hb
      go_wp2
      go_ret
      exact ⟨rfl, hf.out⟩
    · have hE := W_hid (end_no (.pointer (some ⟨s, 0, none⟩)) va size w hva hsz hok)
      have hf := W_hid (h.so (Below.refl _ _))
      clear h hno hok
      go_enter Tryz.func29, Tryz.ntmps29
      go_wp2_with fail
      refine (hN.out _ hS.out).mono ?_
      rintro e w1 ⟨rfl, rfl⟩
      go_wp2_with fail
      refine hE.out.mono ?_
      rintro e w2 ⟨rfl, rfl⟩
      go_wp2
      go_ret
      exact ⟨rfl, hf.out⟩
  | done S' hok hsd hV =>
    have hE := h.ended va size hok
    rw [hsd] at hE
    replace hE := W_hid hE
    obtain ⟨U, hU⟩ : ∃ U, upTo (va + size) 4096 = U := ⟨_, rfl⟩
    rw [hU] at hE hV ⊢
    have hRm := W_hid (fun w h => remove_any g pg pb n m r b s va U cap S S' L ao w h hV)
    clear h hok hsd hV hU
    go_enter Tryz.func29, Tryz.ntmps29
    go_wp2_with fail
    refine (hN.out _ hS.out).mono ?_
    rintro e w1 ⟨rfl, rfl⟩
    go_wp2_with fail
    refine hE.out.mono ?_
    rintro e w2 ⟨rfl, hb⟩
    have hM2 := W_hid (H.out.keep hb)
    replace hb := W_hid hb
    go_wp2_with fail
    refine (hRm.out _ hM2.out).mono ?_
    rintro e w3 ⟨rfl, hM3, hB3⟩
    have hf := W_hid (show SO g pg pb n m r b s S' (ctL L va U) _ w3 from ⟨hM3, (But.of hb.out).trans hB3⟩)
    clear hM3 hB3
    go_wp2
    go_ret
    exact ⟨rfl, hf.out⟩
end Go.Proofs.YtkomahekdcaiaaaGreatDoor

/- Contracts of package space: the function that create defers; pages laid one behind the other. -/
namespace Go.Proofs.YtkomahekdcaiaaaGreatDoor
open Go.ChangeShapes Go.WideShapes Go.ChangeAt Go.RowKit Go.Shelf
set_option linter.unusedVariables false
set_option linter.unusedSimpArgs false
attribute [local go_sem] Oper.semAt_some
open RG (Rg)

/-- A call that comes back leaves some world. -/
theorem calls_some {P : Program} {f : FuncId} {args : Array Value} {w : World} {R : Ending → World → Prop} (h : Calls P f args w R) : ∃ e w', R e w' := by
  obtain ⟨e, w', _, hR, _⟩ := h []
  exact ⟨e, w', hR⟩

/-- A page is laid, or not. -/
def LayS (n : Nat) (p kind : Int) (va : Nat) (S : TS) (c : Int) (S1 : TS) : Prop := LayR n S.T S.F S.G va p kind c S1.T S1.F S1.G
section
variable {g pg pb n m r b : Nat} {S : TS}
theorem lay_S (p kind : Int) (va : Nat) {w0 : World} (h0 : FS g pg pb n m r b S w0) (hva : va < 18446744073709551616) :
    ∃ (c : Int) (S1 : TS), LayS n p kind va S c S1 ∧ ∀ w, FS g pg pb n m r b S w →
      Calls Tryz.prog 95 #[trv g pg, .int .u64 (va : Int), .int .i64 p, .int .i64 kind] w fun e w' => e = .returned (.int .i64 c) ∧ FS g pg pb n m r b S1 w' ∧ But [pg, pb, b] w w' := by
  obtain ⟨M0, h⟩ := h0
  obtain ⟨T, F, G⟩ := S
  simp only at h
  rcases FR.low_or T n (stq kind) with ⟨a, hlow⟩ | hno
  · have hn2 := h.tt.pl.n2
    have ha : a < 18446744073709551616 := by have := hlow.2.1; omega
    have hlv := lv_le (kind == 1)
    by_cases hok : EN.right false (kind == 1) p a (lv (kind == 1) : Nat) ∧ va % EN.sz (lv (kind == 1) - 1) = 0 ∧ va < 140737488355328
    · obtain ⟨hr, hs, hv⟩ := hok
      obtain ⟨c, F1, G1, T1, hR⟩ := mapR_some h.inv (FR.st T a (stq kind) true) va (lv (kind == 1)) a p hv (by omega) (by omega)
      have hM := fun M w hF => Map_yes g pg pb n m r b va a (kind == 1) p c (FR.st T a (stq kind) true) T1 M F F1 G G1 w hF hv hr hs hR
      rcases spMapR_cases hR with rfl | ⟨h1, h2, h3, h4⟩
      · have htk : Tk F1 T1 := by
          cases hR with
          | done L fr hd hp fs hl ht => exact tk_add fs (tk_st h.tk a (stq kind))
        exact ⟨0, ⟨T1, F1, G1⟩, .inr ⟨rfl, a, hlow, hr, hR, hs, hv⟩, fun w ⟨M, hF⟩ => lay_yes g pg pb n m r b va a p kind 0 T T1 M F F1 G G1 w hF hlow (hM M) T1 htk (.inl ⟨rfl, rfl⟩)⟩
      · subst h2 h3 h4
        exact ⟨c, ⟨T, _, _⟩, .inl ⟨h1, rfl, rfl, rfl⟩, fun w ⟨M, hF⟩ => lay_yes g pg pb n m r b va a p kind c T _ M _ _ _ _ w hF hlow (hM M) T h.tk (.inr ⟨h1, puts_back (stq_run kind) hlow⟩)⟩
    · have hM := fun M w (hF : Full w g pg pb n m (FR.st T a (stq kind) true) r b M F G) => (Map_arg g pg r b va a (kind == 1) p M w hF.tt.tm ha hva hok).mono (fun e w' hh =>
        show e = .returned (.int .i64 2) ∧ (∃ M', Full w' g pg pb n m (FR.st T a (stq kind) true) r b M' F G) ∧ But [pg, pb, b] w w' from ⟨hh.1, ⟨M, hF.keep hh.2⟩, But.of hh.2⟩)
      exact ⟨2, ⟨T, F, G⟩, .inl ⟨by decide, rfl, rfl, rfl⟩, fun w ⟨M, hF⟩ => lay_yes g pg pb n m r b va a p kind 2 T _ M F F G G w hF hlow (hM M) T h.tk (.inr ⟨by decide, puts_back (stq_run kind) hlow⟩)⟩
  · exact ⟨24, ⟨T, F, G⟩, .inl ⟨by decide, rfl, rfl, rfl⟩, fun w ⟨M, hF⟩ => lay_no g pg pb n m r b va p kind T M F G w hF hno⟩
/-- The same, as a call's contract. -/
def LayC (g pg pb n m r b : Nat) (p kind : Int) (va : Nat) (S : TS) (c : Int) (S1 : TS) : Prop := LayS n p kind va S c S1 ∧ ∀ w, FS g pg pb n m r b S w →
      Calls Tryz.prog 95 #[trv g pg, .int .u64 (va : Int), .int .i64 p, .int .i64 kind] w fun e w' => e = .returned (.int .i64 c) ∧ FS g pg pb n m r b S1 w' ∧ But [pg, pb, b] w w'
/-- Pages are laid one behind the other, as far as it goes. -/
theorem lays_S (p kind : Int) (xs : List Nat) (hxs : ∀ x ∈ xs, x < 18446744073709551616) {w0 : World} (h0 : FS g pg pb n m r b S w0) :
    ∃ (j : Nat) (c : Int) (Y : Nat → TS), j ≤ xs.length ∧ Y 0 = S ∧ (∀ i va, i < j → xs[i]? = some va → LayC g pg pb n m r b p kind va (Y i) 0 (Y (i + 1))) ∧ (∃ w, FS g pg pb n m r b (Y j) w) ∧
      ((j = xs.length ∧ c = 0) ∨ (c ≠ 0 ∧ ∃ va, xs[j]? = some va ∧ LayC g pg pb n m r b p kind va (Y j) c (Y j))) := by
  induction xs generalizing S w0 with
  | nil => exact ⟨0, 0, fun _ => S, Nat.le_refl _, rfl, fun i va hi _ => absurd hi (Nat.not_lt_zero _), ⟨w0, h0⟩, .inl ⟨rfl, rfl⟩⟩
  | cons x xs ih =>
    obtain ⟨c, S1, hL, hC⟩ := lay_S p kind x h0 (hxs x (List.mem_cons_self ..))
    by_cases hc : c = 0
    · subst hc
      obtain ⟨e, w1, -, hF1, -⟩ := calls_some (hC w0 h0)
      obtain ⟨j, c, Y, hj, hY0, hY, hYw, hend⟩ := ih (fun y hy => hxs y (List.mem_cons_of_mem _ hy)) hF1
      refine ⟨j + 1, c, fun i => match i with | 0 => S | i + 1 => Y i, by simpa using hj, rfl, fun i va hi hx => ?_, hYw, ?_⟩
      · cases i with
        | zero =>
          obtain rfl : x = va := by simpa using hx
          show LayC g pg pb n m r b p kind x S 0 (Y 0)
          rw [hY0]
          exact ⟨hL, hC⟩
        | succ i => exact hY i va (by omega) (by simpa using hx)
      · rcases hend with ⟨rfl, rfl⟩ | ⟨h1, va, h2, h3⟩
        · exact .inl ⟨rfl, rfl⟩
        · exact .inr ⟨h1, va, by simpa using h2, h3⟩
    · have hS : S1 = S := by
        rcases hL with ⟨_, h1, h2, h3⟩ | ⟨h1, _⟩
        · obtain ⟨T1, F1, G1⟩ := S1
          obtain ⟨T, F, G⟩ := S
          simp only at h1 h2 h3
          subst h1 h2 h3
          rfl
        · exact absurd h1 hc
      subst hS
      exact ⟨0, c, fun _ => S1, Nat.zero_le _, rfl, fun i va hi _ => absurd hi (Nat.not_lt_zero _), ⟨w0, h0⟩, .inr ⟨hc, x, rfl, hL, hC⟩⟩
end
end Go.Proofs.YtkomahekdcaiaaaGreatDoor

/- Contracts of package space: the function that create defers. -/
namespace Go.Proofs.YtkomahekdcaiaaaGreatDoor
open Go.ChangeShapes Go.WideShapes Go.ChangeAt Go.RowKit Go.Shelf
set_option linter.unusedVariables false
set_option linter.unusedSimpArgs false
attribute [local go_sem] Oper.semAt_some
open RG (Rg)

set_option maxRecDepth 100000 in
set_option maxHeartbeats 1000000 in
theorem crd_none (be bs bm : Nat) (w : World) (hc : w.cell? ⟨be, 0, none⟩ = some (.int .i64 0)) :
    CallsDIn Fence.wide 0 Tryz.prog 94 #[.pointer (some ⟨be, 0, none⟩), .pointer (some ⟨bs, 0, none⟩), .pointer (some ⟨bm, 0, none⟩)] .returning w fun e u' w' => u' = .returning ∧ e = .returned (.tuple #[]) ∧ w' = w := by
  refine callsDIn_of_wp Tryz.func94 rfl trivial ?_ rfl
  simp only [Tryz.ntmps94, List.size_toArray, List.length_cons, List.length_nil, Nat.reduceAdd, Nat.reduceSub, Array.replicate_succ, Array.replicate_zero, List.push_toArray, List.append_toArray, List.nil_append, List.cons_append]
  gi_wp2
  go_end0
  exact ⟨rfl, rfl⟩

set_option maxRecDepth 100000 in
set_option maxHeartbeats 2000000 in
theorem crd_some (g pg pb n m r b s be bs bm f t : Nat) (p kd c : Int) (rows : Value) (S S' : TS) (w : World) (h : FS g pg pb n m r b S w) (hs : SpB w s (.pointer (some ⟨g, 0, none⟩)) (.pointer (some ⟨pg, 0, none⟩)) rows) (hsn : s ≠ pg ∧ s ≠ pb ∧ s ≠ b)
    (hc : w.cell? ⟨be, 0, none⟩ = some (.int .i64 c)) (hn : c ≠ 0) (hbs : w.cell? ⟨bs, 0, none⟩ = some (.pointer (some ⟨s, 0, none⟩))) (hbm : RB w bm ⟨f, t, p, kd⟩) (hV : VacR n [⟨f, t, p, kd⟩] S S') :
    CallsDIn Fence.wide 0 Tryz.prog 94 #[.pointer (some ⟨be, 0, none⟩), .pointer (some ⟨bs, 0, none⟩), .pointer (some ⟨bm, 0, none⟩)] .returning w fun e u' w' => u' = .returning ∧ e = .returned (.tuple #[]) ∧ FS g pg pb n m r b S' w' ∧ But [pg, pb, b] w w' := by
  have d1 : decide (c = 0) = false := decide_eq_false hn
  have hVa := W_hid (fun w ao hf hs hX ha => vacate_any g pg pb n m r b s 1 1 ao rows [⟨f, t, p, kd⟩] S S' w hf hs hsn hX ha hV)
  obtain ⟨m0, m1, m2, m3⟩ := RB.re hbm
  have hlts := h.lts
  have hb1 : Below w.heap.size w (w.alloc (.cells #[.int .u64 (f : Int), .int .u64 (t : Int), .int .i64 p, .int .i64 kd] 55)) := (Below.refl _ _).alloc (Nat.le_refl _) _
  have hX : RS (w.alloc (.cells #[.int .u64 (f : Int), .int .u64 (t : Int), .int .i64 p, .int .i64 kd] 55)) (some ⟨w.heap.size, 0, none⟩) 1 1 [⟨f, t, p, kd⟩] :=
    ⟨rfl, Nat.le_refl _, by decide, (fun e => by cases e), fun a e j u hu => by
      obtain rfl := Option.some.inj e
      exact four_new w _ _ _ _ _ _ j u (by rw [rcl_single] at hu; exact hu)⟩
  have hcall := hVa.out _ _ (h.keep hb1) (hs.keep hb1) hX (fun a e => by obtain rfl := Option.some.inj e; show w.heap.size ≠ _ ∧ w.heap.size ≠ _ ∧ w.heap.size ≠ _; omega)
  replace hb1 := W_hid hb1
  clear h hs hX hVa hV hbm
  refine callsDIn_of_wp Tryz.func94 rfl trivial ?_ rfl
  simp only [Tryz.ntmps94, List.size_toArray, List.length_cons, List.length_nil, Nat.reduceAdd, Nat.reduceSub, Array.replicate_succ, Array.replicate_zero, List.push_toArray, List.append_toArray, List.nil_append, List.cons_append]
  gi_wp2
  refine ⟨trivial, rfl, ?_⟩
  refine (fit_wide hcall).mono ?_
  rintro e w2 ⟨rfl, hF2, hB2⟩
  have hF2 := W_hid hF2
  have hB2 := W_hid ((But.of hb1.out).trans hB2)
  clear hcall
  gi_wp2
  go_end0
  exact ⟨rfl, hF2.out, hB2.out⟩
end Go.Proofs.YtkomahekdcaiaaaGreatDoor

/- Regions that draw their order and end in one operation that waits for all others (a store behind its phase): what the others read may be spoilt by that last one. Free of any program. -/
namespace Go.Proofs.YtkomahekdcaiaaaGreatDoor
open Go.ChangeShapes Go.WideShapes Go.ChangeAt Go.RowKit
set_option linter.unusedVariables false

section
variable {P : Program} {ops : Array Oper} {Q : Exit → Act → World → Prop} {md : Region.Mode} {S : World → Prop} {m : Nat}

/-- Whatever order is picked: S holds behind each operation but number m. -/
def UpTo (P : Program) (md : Region.Mode) (ops : Array Oper) (Q : Exit → Act → World → Prop) (S : World → Prop) (m : Nat) : Nat → Array Bool → Act → World → Prop
  | 0, ls, a, w => Region.ready md ops ls = [] ∧ Q .normal a w
  | k + 1, ls, a, w => (Region.ready md ops ls = [] → Q .normal a w) ∧ ∀ j ∈ Region.ready md ops ls, wpOp P ops Q j (fun a' w' => (j ≠ m → S w') ∧ UpTo P md ops Q S m k (ls.setIfInBounds j true) a' w') a w
theorem UpTo.any : ∀ (k : Nat) (ls : Array Bool) (a : Act) (w : World), UpTo P md ops Q S m k ls a w → wpAny P md ops Q k ls a w
  | 0, _, _, _, h => h
  | k + 1, _, _, _, h => ⟨h.1, fun j hj => wpOp_mono (fun a' w' h' => UpTo.any k _ a' w' h'.2) (h.2 j hj)⟩

/-- An operation for which m waits may be taken first. -/
theorem UpTo.first {i : Nat} {o : Oper} {v : Value} (hi : ops[i]? = some o) (hwait : Region.waitsFor md ops m i = true) (hne : i ≠ m) (hsel : ∀ (j : Nat) (o : Oper) cs b, ops[j]? = some o → o.op ≠ .select cs b)
    (hQ : ∀ c a w, Q (.panic c) (a.put o.dst v) w → Q (.panic c) a w) :
    ∀ (k : Nat) (ls : Array Bool) (a : Act) (w : World),
      (∀ j oj, ops[j]? = some oj → j ≠ i → ls.getD j true = false → (∀ e ∈ oj.after, Region.binds md e = true → e.on ≠ i) → o.apart ops oj = true) →
      i ∈ Region.ready md ops ls → YieldsIf P ops S o v a → S w →
      UpTo P md ops Q S m k (ls.setIfInBounds i true) (a.put o.dst v) w → UpTo P md ops Q S m (k + 1) ls a w := by
  have unl : ∀ {ls : Array Bool}, i ∈ Region.ready md ops ls → ls.getD i false = false := fun {ls} h => by
    have h0 := (mem_ready.1 h).1
    by_cases hlt : i < ls.size
    · simp [hlt] at h0 ⊢; exact h0
    · simp [Array.getElem?_eq_none (Nat.le_of_not_lt hlt)]
  intro k
  induction k with
  | zero =>
    intro ls a w _ hr hy hS H
    refine ⟨fun e => (by rw [e] at hr; cases hr), fun j hj => ?_⟩
    by_cases hji : j = i
    · subst hji; exact hy.wpOp hi hS ⟨fun _ => hS, H⟩
    · have h1 := ready_mono hj hji
      rw [H.1] at h1; cases h1
  | succ k ih =>
    intro ls a w hfr hr hy hS H
    refine ⟨fun e => (by rw [e] at hr; cases hr), fun j hj => ?_⟩
    by_cases hji : j = i
    · subst hji; exact hy.wpOp hi hS ⟨fun _ => hS, H⟩
    obtain ⟨hju, oj, hoj, hall⟩ := mem_ready.1 hj
    have hapart : ∀ e ∈ oj.after, Region.binds md e = true → e.on ≠ i := fun e he hb e2 => by
      have h1 := hall e he hb
      rw [e2, unl hr] at h1; cases h1
    have hjm : j ≠ m := by
      rintro rfl
      obtain ⟨o2, ho2, e, he, hb, hon⟩ := Region.waitsFor_spec hwait
      obtain rfl : o2 = oj := Option.some.inj (ho2.symm.trans hoj)
      exact hapart e he hb hon
    have h2 := wpOp_putIf hoj (hfr j oj hoj hji hju hapart) (fun cs b => hsel i o cs b hi) (fun cs b => hsel j oj cs b hoj) hQ hy (H.2 j (ready_mono hj hji))
    refine wpOp_mono (fun a' w' h3 => ⟨h3.2.1, ih (ls.setIfInBounds j true) a' w' (fun x ox hx hxi hun hno => hfr x ox hx hxi ?_ hno) (ready_mono hr (Ne.symm hji)) h3.1 (h3.2.1 hjm) ?_⟩) h2
    · by_cases e : j = x
      · subst e; exact hju
      · rw [getD_set_ne true e] at hun; exact hun
    · rw [Array.setIfInBounds_comm _ _ hji]
      exact h3.2.2
theorem UpTo.take {i : Nat} {o : Oper} {v : Value} {k : Nat} {ls : Array Bool} {a : Act} {w : World} (hi : ops[i]? = some o) (hwait : (Region.waitsFor md ops m i && decide (i ≠ m)) = true)
    (hs : Region.noSelect ops = true) (hf : Region.free md ops ls i = true) (hr : (Region.ready md ops ls).contains i = true)
    (hQ : ∀ c a w, Q (.panic c) (a.put o.dst v) w → Q (.panic c) a w) (hy : YieldsIf P ops S o v a) (hS : S w)
    (h : UpTo P md ops Q S m k (ls.setIfInBounds i true) (a.put o.dst v) w) : UpTo P md ops Q S m (k + 1) ls a w := by
  rw [Bool.and_eq_true, decide_eq_true_eq] at hwait
  exact UpTo.first hi hwait.1 hwait.2 (Region.noSelect_spec hs) hQ k ls a w (Region.free_spec hi hf) (by simpa using hr) hy hS h
/-- One operation alone may come up. -/
theorem UpTo.one {i : Nat} {o : Oper} {k : Nat} {ls : Array Bool} {a : Act} {w : World} (hr : Region.ready md ops ls = [i]) (ho : ops[i]? = some o) (hsel : o.guard = none)
    (h : ∀ K' : Act → World → Prop, Hid (∀ a' w', S w' → UpTo P md ops Q S m k (ls.setIfInBounds i true) a' w' → K' a' w') → if Region.wanted o (yielded ops a.tmps) = true then Oper.wp P o a w K' Q else K' (a.put o.dst undef) w) : UpTo P md ops Q S m (k + 1) ls a w := by
  refine ⟨fun e => (by rw [hr] at e; cases e), fun j hj => ?_⟩
  rw [hr] at hj
  obtain rfl : j = i := by simpa using hj
  have hw : Region.wanted o (yielded ops a.tmps) = true := by simp [Region.wanted, hsel]
  have h1 := h (fun a' w' => (j ≠ m → S w') ∧ UpTo P md ops Q S m k (ls.setIfInBounds j true) a' w') (W_hid (fun a' w' hS hU => ⟨fun _ => hS, hU⟩))
  rw [if_pos hw] at h1
  unfold wpOp
  simp only [ho, hw, if_true]
  exact .inl h1
/-- The last one. -/
theorem UpTo.last {o : Oper} {k : Nat} {ls : Array Bool} {a : Act} {w : World} (hr : Region.ready md ops ls = [m]) (ho : ops[m]? = some o) (hsel : o.guard = none) (hend : Region.ready md ops (ls.setIfInBounds m true) = [])
    (h : Oper.wp P o a w (Q .normal) Q) : UpTo P md ops Q S m (k + 1) ls a w := by
  refine ⟨fun e => (by rw [hr] at e; cases e), fun j hj => ?_⟩
  rw [hr] at hj
  obtain rfl : j = m := by simpa using hj
  have hw : Region.wanted o (yielded ops a.tmps) = true := by simp [Region.wanted, hsel]
  have key : ∀ a' w', Q .normal a' w' → (j ≠ j → S w') ∧ UpTo P md ops Q S j k (ls.setIfInBounds j true) a' w' := fun a' w' hq => ⟨fun e => absurd rfl e, by
    cases k with
    | zero => exact ⟨hend, hq⟩
    | succ k => exact ⟨fun _ => hq, fun x hx => by rw [hend] at hx; cases hx⟩⟩
  refine wpOp_mono key ?_
  unfold wpOp
  simp only [ho, hw, if_true]
  exact .inl h
theorem UpTo.region {id : Nat} {a : Act} {w : World} (hm : P.follows .mixedOrders = true) (hS : S w.drew) (h : S w.drew → UpTo P .any ops Q S m ops.size (Array.replicate ops.size false) a w.drew) : (Code.region id ops true).wp P Q a w :=
  wp_region_any hm (UpTo.any _ _ _ _ (h hS))
/-- UpTo.take, with what is always asked left to tactics. -/
theorem ut {i : Nat} {v : Value} {o : Oper} {k : Nat} {ls ls' : Array Bool} {a a' : Act} {w : World} (hS : S w) (h : UpTo P md ops Q S m k ls' a' w)
    (hi : ops[i]? = some o := by rfl) (hwait : (Region.waitsFor md ops m i && decide (i ≠ m)) = true := by kernel_rfl) (hs : Region.noSelect ops = true := by kernel_rfl) (hf : Region.free md ops ls i = true := by kernel_rfl) (hr : (Region.ready md ops ls).contains i = true := by kernel_rfl)
    (hQ : ∀ c a w, Q (.panic c) (a.put o.dst v) w → Q (.panic c) a w := by exact fun _ _ _ h => h)
    (hw : Region.wanted o (yielded ops a.tmps) = true := by rfl)
    (hv : ∀ w, S w → (execOp a.eval o).run P w = .ok (.value v) w := by (intro w0 hs; repeat (obtain ⟨hq, hs⟩ := hs)); go_simp)
    (hl : ls.setIfInBounds i true = ls' := by (first | (simp only [List.setIfInBounds_toArray, List.set_cons_zero, List.set_cons_succ]; try rfl) | rfl))
    (ha : a.put o.dst v = a' := by (first | (simp only [Act.put, List.setIfInBounds_toArray, List.set_cons_zero, List.set_cons_succ, List.getElem_toArray, List.getElem_cons_zero, List.getElem_cons_succ]; try rfl) | rfl)) : UpTo P md ops Q S m (k + 1) ls a w :=
  UpTo.take hi hwait hs hf hr hQ (.inl ⟨hw, hv⟩) hS (by rw [hl, ha]; exact h)
end
end Go.Proofs.YtkomahekdcaiaaaGreatDoor

/- Regions that draw their order, with one operation behind which what the others read may be spoilt (a store): those that read memory are waited for, those that do not may come behind it. Free of any program. -/
namespace Go.Proofs.YtkomahekdcaiaaaGreatDoor
open Go.ChangeShapes Go.WideShapes Go.ChangeAt Go.RowKit
set_option linter.unusedVariables false

section
variable {P : Program} {ops : Array Oper} {Q : Exit → Act → World → Prop} {md : Region.Mode} {S : World → Prop} {m : Nat}

/-- Whatever order is picked: S holds behind each operation but number m. -/
def UpTil (P : Program) (md : Region.Mode) (ops : Array Oper) (Q : Exit → Act → World → Prop) (S : World → Prop) (m : Nat) : Nat → Array Bool → Act → World → Prop
  | 0, ls, a, w => Region.ready md ops ls = [] ∧ Q .normal a w
  | k + 1, ls, a, w => (Region.ready md ops ls = [] → Q .normal a w) ∧ ∀ j ∈ Region.ready md ops ls, wpOp P ops Q j (fun a' w' => (j ≠ m → ls.getD m true = false → S w') ∧ UpTil P md ops Q S m k (ls.setIfInBounds j true) a' w') a w
theorem UpTil.any : ∀ (k : Nat) (ls : Array Bool) (a : Act) (w : World), UpTil P md ops Q S m k ls a w → wpAny P md ops Q k ls a w
  | 0, _, _, _, h => h
  | k + 1, _, _, _, h => ⟨h.1, fun j hj => wpOp_mono (fun a' w' h' => UpTil.any k _ a' w' h'.2) (h.2 j hj)⟩

/-- An operation for which m waits may be taken first. -/
theorem UpTil.first {i : Nat} {o : Oper} {v : Value} (hi : ops[i]? = some o) (hwait : Region.waitsFor md ops m i = true) (hne : i ≠ m) (hsel : ∀ (j : Nat) (o : Oper) cs b, ops[j]? = some o → o.op ≠ .select cs b)
    (hQ : ∀ c a w, Q (.panic c) (a.put o.dst v) w → Q (.panic c) a w) :
    ∀ (k : Nat) (ls : Array Bool) (a : Act) (w : World),
      (∀ j oj, ops[j]? = some oj → j ≠ i → ls.getD j true = false → (∀ e ∈ oj.after, Region.binds md e = true → e.on ≠ i) → o.apart ops oj = true) →
      ls.getD m true = false → i ∈ Region.ready md ops ls → YieldsIf P ops S o v a → S w →
      UpTil P md ops Q S m k (ls.setIfInBounds i true) (a.put o.dst v) w → UpTil P md ops Q S m (k + 1) ls a w := by
  have unl : ∀ {ls : Array Bool}, i ∈ Region.ready md ops ls → ls.getD i false = false := fun {ls} h => by
    have h0 := (mem_ready.1 h).1
    by_cases hlt : i < ls.size
    · simp [hlt] at h0 ⊢; exact h0
    · simp [Array.getElem?_eq_none (Nat.le_of_not_lt hlt)]
  intro k
  induction k with
  | zero =>
    intro ls a w _ hm hr hy hS H
    refine ⟨fun e => (by rw [e] at hr; cases hr), fun j hj => ?_⟩
    by_cases hji : j = i
    · subst hji; exact hy.wpOp hi hS ⟨fun _ _ => hS, H⟩
    · have h1 := ready_mono hj hji
      rw [H.1] at h1; cases h1
  | succ k ih =>
    intro ls a w hfr hm hr hy hS H
    refine ⟨fun e => (by rw [e] at hr; cases hr), fun j hj => ?_⟩
    by_cases hji : j = i
    · subst hji; exact hy.wpOp hi hS ⟨fun _ _ => hS, H⟩
    obtain ⟨hju, oj, hoj, hall⟩ := mem_ready.1 hj
    have hapart : ∀ e ∈ oj.after, Region.binds md e = true → e.on ≠ i := fun e he hb e2 => by
      have h1 := hall e he hb
      rw [e2, unl hr] at h1; cases h1
    have hjm : j ≠ m := by
      rintro rfl
      obtain ⟨o2, ho2, e, he, hb, hon⟩ := Region.waitsFor_spec hwait
      obtain rfl : o2 = oj := Option.some.inj (ho2.symm.trans hoj)
      exact hapart e he hb hon
    have h2 := wpOp_putIf hoj (hfr j oj hoj hji hju hapart) (fun cs b => hsel i o cs b hi) (fun cs b => hsel j oj cs b hoj) hQ hy (H.2 j (ready_mono hj hji))
    have hm' : (ls.setIfInBounds i true).getD m true = false := by rw [getD_set_ne true hne]; exact hm
    refine wpOp_mono (fun a' w' h3 => ⟨fun e e' => h3.2.1 e hm', ih (ls.setIfInBounds j true) a' w' (fun x ox hx hxi hun hno => hfr x ox hx hxi ?_ hno) (by rw [getD_set_ne true hjm]; exact hm) (ready_mono hr (Ne.symm hji)) h3.1 (h3.2.1 hjm hm') ?_⟩) h2
    · by_cases e : j = x
      · subst e; exact hju
      · rw [getD_set_ne true e] at hun; exact hun
    · rw [Array.setIfInBounds_comm _ _ hji]
      exact h3.2.2
theorem UpTil.take {i : Nat} {o : Oper} {v : Value} {k : Nat} {ls : Array Bool} {a : Act} {w : World} (hi : ops[i]? = some o) (hwait : (Region.waitsFor md ops m i && decide (i ≠ m)) = true)
    (hs : Region.noSelect ops = true) (hf : Region.free md ops ls i = true) (hr : (Region.ready md ops ls).contains i = true) (hm : ls.getD m true = false)
    (hQ : ∀ c a w, Q (.panic c) (a.put o.dst v) w → Q (.panic c) a w) (hy : YieldsIf P ops S o v a) (hS : S w)
    (h : UpTil P md ops Q S m k (ls.setIfInBounds i true) (a.put o.dst v) w) : UpTil P md ops Q S m (k + 1) ls a w := by
  rw [Bool.and_eq_true, decide_eq_true_eq] at hwait
  exact UpTil.first hi hwait.1 hwait.2 (Region.noSelect_spec hs) hQ k ls a w (Region.free_spec hi hf) hm (by simpa using hr) hy hS h
/-- An operation that reads no memory may be taken first, whether m waits for it or not. -/
theorem UpTil.pure {i : Nat} {o : Oper} {v : Value} (hi : ops[i]? = some o) (hne : i ≠ m) (hsel : ∀ (j : Nat) (o : Oper) cs b, ops[j]? = some o → o.op ≠ .select cs b)
    (hQ : ∀ c a w, Q (.panic c) (a.put o.dst v) w → Q (.panic c) a w) :
    ∀ (k : Nat) (ls : Array Bool) (a : Act) (w : World),
      (∀ j oj, ops[j]? = some oj → j ≠ i → ls.getD j true = false → (∀ e ∈ oj.after, Region.binds md e = true → e.on ≠ i) → o.apart ops oj = true) →
      (ls.getD m true = false → S w) → i ∈ Region.ready md ops ls → YieldsIf P ops (fun _ => True) o v a →
      UpTil P md ops Q S m k (ls.setIfInBounds i true) (a.put o.dst v) w → UpTil P md ops Q S m (k + 1) ls a w := by
  have unl : ∀ {ls : Array Bool}, i ∈ Region.ready md ops ls → ls.getD i false = false := fun {ls} h => by
    have h0 := (mem_ready.1 h).1
    by_cases hlt : i < ls.size
    · simp [hlt] at h0 ⊢; exact h0
    · simp [Array.getElem?_eq_none (Nat.le_of_not_lt hlt)]
  intro k
  induction k with
  | zero =>
    intro ls a w _ hm hr hy H
    refine ⟨fun e => (by rw [e] at hr; cases hr), fun j hj => ?_⟩
    by_cases hji : j = i
    · subst hji; exact hy.wpOp hi trivial ⟨fun _ h => hm h, H⟩
    · have h1 := ready_mono hj hji
      rw [H.1] at h1; cases h1
  | succ k ih =>
    intro ls a w hfr hm hr hy H
    refine ⟨fun e => (by rw [e] at hr; cases hr), fun j hj => ?_⟩
    by_cases hji : j = i
    · subst hji; exact hy.wpOp hi trivial ⟨fun _ h => hm h, H⟩
    obtain ⟨hju, oj, hoj, hall⟩ := mem_ready.1 hj
    have hapart : ∀ e ∈ oj.after, Region.binds md e = true → e.on ≠ i := fun e he hb e2 => by
      have h1 := hall e he hb
      rw [e2, unl hr] at h1; cases h1
    have h2 := wpOp_putIf hoj (hfr j oj hoj hji hju hapart) (fun cs b => hsel i o cs b hi) (fun cs b => hsel j oj cs b hoj) hQ hy (H.2 j (ready_mono hj hji))
    have hback : (ls.setIfInBounds i true).getD m true = ls.getD m true := getD_set_ne true hne
    refine wpOp_mono (fun a' w' h3 => ⟨fun e e' => h3.2.1 e (by rw [hback]; exact e'), ih (ls.setIfInBounds j true) a' w' (fun x ox hx hxi hun hno => hfr x ox hx hxi ?_ hno) (fun e' => ?_) (ready_mono hr (Ne.symm hji)) h3.1 ?_⟩) h2
    · by_cases e : j = x
      · subst e; exact hju
      · rw [getD_set_ne true e] at hun; exact hun
    · by_cases hjm : j = m
      · subst hjm
        exfalso
        have : (ls.setIfInBounds j true).getD j true = true := by
          by_cases hlt : j < ls.size
          · simp [hlt]
          · simp [hlt]
        rw [this] at e'; cases e'
      · rw [getD_set_ne true hjm] at e'
        exact h3.2.1 hjm (by rw [hback]; exact e')
    · rw [Array.setIfInBounds_comm _ _ hji]
      exact h3.2.2
theorem UpTil.takePure {i : Nat} {o : Oper} {v : Value} {k : Nat} {ls : Array Bool} {a : Act} {w : World} (hi : ops[i]? = some o) (hne : decide (i ≠ m) = true)
    (hs : Region.noSelect ops = true) (hf : Region.free md ops ls i = true) (hr : (Region.ready md ops ls).contains i = true)
    (hQ : ∀ c a w, Q (.panic c) (a.put o.dst v) w → Q (.panic c) a w) (hy : YieldsIf P ops (fun _ => True) o v a) (hS : S w)
    (h : UpTil P md ops Q S m k (ls.setIfInBounds i true) (a.put o.dst v) w) : UpTil P md ops Q S m (k + 1) ls a w :=
  UpTil.pure hi (of_decide_eq_true hne) (Region.noSelect_spec hs) hQ k ls a w (Region.free_spec hi hf) (fun _ => hS) (by simpa using hr) hy h
/-- One operation alone may come up. -/
theorem UpTil.one {i : Nat} {o : Oper} {k : Nat} {ls : Array Bool} {a : Act} {w : World} (hr : Region.ready md ops ls = [i]) (ho : ops[i]? = some o) (hsel : o.guard = none)
    (h : ∀ K' : Act → World → Prop, Hid (∀ a' w', (ls.getD m true = false → S w') → UpTil P md ops Q S m k (ls.setIfInBounds i true) a' w' → K' a' w') → if Region.wanted o (yielded ops a.tmps) = true then Oper.wp P o a w K' Q else K' (a.put o.dst undef) w) : UpTil P md ops Q S m (k + 1) ls a w := by
  refine ⟨fun e => (by rw [hr] at e; cases e), fun j hj => ?_⟩
  rw [hr] at hj
  obtain rfl : j = i := by simpa using hj
  have hw : Region.wanted o (yielded ops a.tmps) = true := by simp [Region.wanted, hsel]
  have h1 := h (fun a' w' => (j ≠ m → ls.getD m true = false → S w') ∧ UpTil P md ops Q S m k (ls.setIfInBounds j true) a' w') (W_hid (fun a' w' hS hU => ⟨fun _ => hS, hU⟩))
  rw [if_pos hw] at h1
  unfold wpOp
  simp only [ho, hw, if_true]
  exact .inl h1
/-- The last one. -/
theorem UpTil.last {o : Oper} {k : Nat} {ls : Array Bool} {a : Act} {w : World} (hr : Region.ready md ops ls = [m]) (ho : ops[m]? = some o) (hsel : o.guard = none) (hend : Region.ready md ops (ls.setIfInBounds m true) = [])
    (h : Oper.wp P o a w (Q .normal) Q) : UpTil P md ops Q S m (k + 1) ls a w := by
  refine ⟨fun e => (by rw [hr] at e; cases e), fun j hj => ?_⟩
  rw [hr] at hj
  obtain rfl : j = m := by simpa using hj
  have hw : Region.wanted o (yielded ops a.tmps) = true := by simp [Region.wanted, hsel]
  have key : ∀ a' w', Q .normal a' w' → (j ≠ j → ls.getD j true = false → S w') ∧ UpTil P md ops Q S j k (ls.setIfInBounds j true) a' w' := fun a' w' hq => ⟨fun e => absurd rfl e, by
    cases k with
    | zero => exact ⟨hend, hq⟩
    | succ k => exact ⟨fun _ => hq, fun x hx => by rw [hend] at hx; cases hx⟩⟩
  refine wpOp_mono key ?_
  unfold wpOp
  simp only [ho, hw, if_true]
  exact .inl h
theorem UpTil.region {id : Nat} {a : Act} {w : World} (hm : P.follows .mixedOrders = true) (hS : S w.drew) (h : S w.drew → UpTil P .any ops Q S m ops.size (Array.replicate ops.size false) a w.drew) : (Code.region id ops true).wp P Q a w :=
  wp_region_any hm (UpTil.any _ _ _ _ (h hS))
/-- UpTil.take, with what is always asked left to tactics. -/
theorem ul {i : Nat} {v : Value} {o : Oper} {k : Nat} {ls ls' : Array Bool} {a a' : Act} {w : World} (hS : S w) (h : UpTil P md ops Q S m k ls' a' w)
    (hi : ops[i]? = some o := by rfl) (hwait : (Region.waitsFor md ops m i && decide (i ≠ m)) = true := by kernel_rfl) (hs : Region.noSelect ops = true := by kernel_rfl) (hf : Region.free md ops ls i = true := by kernel_rfl) (hr : (Region.ready md ops ls).contains i = true := by kernel_rfl) (hm : ls.getD m true = false := by kernel_rfl)
    (hQ : ∀ c a w, Q (.panic c) (a.put o.dst v) w → Q (.panic c) a w := by exact fun _ _ _ h => h)
    (hw : Region.wanted o (yielded ops a.tmps) = true := by rfl)
    (hv : ∀ w, S w → (execOp a.eval o).run P w = .ok (.value v) w := by (intro w0 hs; repeat (obtain ⟨hq, hs⟩ := hs)); go_simp)
    (hl : ls.setIfInBounds i true = ls' := by (first | (simp only [List.setIfInBounds_toArray, List.set_cons_zero, List.set_cons_succ]; try rfl) | rfl))
    (ha : a.put o.dst v = a' := by (first | (simp only [Act.put, List.setIfInBounds_toArray, List.set_cons_zero, List.set_cons_succ, List.getElem_toArray, List.getElem_cons_zero, List.getElem_cons_succ]; try rfl) | rfl)) : UpTil P md ops Q S m (k + 1) ls a w :=
  UpTil.take hi hwait hs hf hr hm hQ (.inl ⟨hw, hv⟩) hS (by rw [hl, ha]; exact h)
/-- UpTil.take, with what is always asked left to tactics. -/
theorem up {i : Nat} {v : Value} {o : Oper} {k : Nat} {ls ls' : Array Bool} {a a' : Act} {w : World} (hS : S w) (h : UpTil P md ops Q S m k ls' a' w)
    (hi : ops[i]? = some o := by rfl) (hne : decide (i ≠ m) = true := by kernel_rfl) (hs : Region.noSelect ops = true := by kernel_rfl) (hf : Region.free md ops ls i = true := by kernel_rfl) (hr : (Region.ready md ops ls).contains i = true := by kernel_rfl)
    (hQ : ∀ c a w, Q (.panic c) (a.put o.dst v) w → Q (.panic c) a w := by exact fun _ _ _ h => h)
    (hw : Region.wanted o (yielded ops a.tmps) = true := by rfl)
    (hv : ∀ w, True → (execOp a.eval o).run P w = .ok (.value v) w := by (intro w0 hs; repeat (obtain ⟨hq, hs⟩ := hs)); go_simp)
    (hl : ls.setIfInBounds i true = ls' := by (first | (simp only [List.setIfInBounds_toArray, List.set_cons_zero, List.set_cons_succ]; try rfl) | rfl))
    (ha : a.put o.dst v = a' := by (first | (simp only [Act.put, List.setIfInBounds_toArray, List.set_cons_zero, List.set_cons_succ, List.getElem_toArray, List.getElem_cons_zero, List.getElem_cons_succ]; try rfl) | rfl)) : UpTil P md ops Q S m (k + 1) ls a w :=
  UpTil.takePure hi hne hs hf hr hQ (.inl ⟨hw, fun w _ => hv w trivial⟩) hS (by rw [hl, ha]; exact h)
end
end Go.Proofs.YtkomahekdcaiaaaGreatDoor

/- Contracts of package space: create. -/
namespace Go.Proofs.YtkomahekdcaiaaaGreatDoor
open Go.ChangeShapes Go.WideShapes Go.ChangeAt Go.RowKit Go.Shelf
open SQ SB
set_option linter.unusedVariables false
set_option linter.unusedSimpArgs false
attribute [local go_sem] Oper.semAt_some
open RG (Rg)

theorem SM.on {g pg pb n m r b s cap : Nat} {S S' : TS} {L : List Rg} {ao : Option Addr} {w w' : World} (h : SM g pg pb n m r b s S L ao cap w) {X : List Nat} (hT : But X w w') (hX : ∀ x ∈ X, x = pg ∨ x = pb ∨ x = b ∨ w.heap.size ≤ x) (hF : FS g pg pb n m r b S' w') :
    SM g pg pb n m r b s S' L ao cap w' ∧ But [s, pg, pb, b] w w' := by
  have hsn := h.sn
  have hsl := h.sp.lt
  refine ⟨⟨hF, h.sp.but hT (fun hm => by have := hX s hm; omega), own_of h.row (fun k hk => ?_), h.far, h.sn⟩, ⟨hT.os, hT.tape, hT.output, hT.size, fun k hk hS => hT.block k hk (fun hm => ?_)⟩⟩
  · have hl := (gown_cells h.row k hk).1.lt
    refine hT.block k hl (fun hm => ?_)
    have hx := hX k hm
    cases ao with
    | none => cases hk
    | some a =>
      have hf := h.far a rfl
      have e : a.block = k := Option.some.inj hk
      omega
  · have := hX k hm
    simp at hS
    omega
/-- Whatever ends a region but its end is none. -/
def calm (Q : Exit → Act → World → Prop) : Exit → Act → World → Prop
  | .normal, a, w => Q .normal a w
  | _, _, _ => False
theorem region_calm {F : Fence} {n : Nat} {P : Program} {c : Code} {Q : Exit → Act → World → Prop} {a : Act} {w : World} (h : c.wpIn F n P (calm Q) a w) : c.wpIn F n P Q a w :=
  wpIn_mono h (fun e a' w' hq => by cases e <;> first | exact hq | exact hq.elim)
/-- In create's range: so many pages are laid. -/
def CI (g pg pb n m r b j B3 f : Nat) (kd : Int) (Y : Nat → TS) (W : World) (i : Nat) (V : World) : Prop := i ≤ j ∧ FS g pg pb n m r b (Y i) V ∧ But [pg, pb, b, B3] W V ∧ RB V B3 ⟨f, f + i * stp kd, 0, kd⟩
/-- It was left. -/
def CX (g pg pb n m r b j B2 B3 f : Nat) (kd c : Int) (Y : Nat → TS) (W : World) (k : Code) (i : Nat) (V : World) : Prop := k = .ret ∧ i = j ∧ c ≠ 0 ∧ FS g pg pb n m r b (Y j) V ∧ But [pg, pb, b, B2, B3] W V ∧ Blk V B2 29 [.int .i64 c] ∧ RB V B3 ⟨f, f + j * stp kd, 0, kd⟩

set_option maxRecDepth 100000 in
set_option maxHeartbeats 4000000 in
theorem create_any (g pg pb n m r b s f t cap j : Nat) (p kd c : Int) (S S' : TS) (L L' : List Rg) (ao : Option Addr) (Y : Nat → TS) (w : World) (h : SM g pg pb n m r b s S L ao cap w) (ht : t < 281474976710656) (hj : j ≤ (stF f t (stp kd)).length) (hY0 : Y 0 = S)
    (hY : ∀ i va, i < j → (stF f t (stp kd))[i]? = some va → LayC g pg pb n m r b p kd va (Y i) 0 (Y (i + 1)))
    (hend : (j = (stF f t (stp kd)).length ∧ c = 0 ∧ S' = Y j ∧ L' = adL L ⟨f, t, p, kd⟩) ∨ (c ≠ 0 ∧ (∃ va, (stF f t (stp kd))[j]? = some va ∧ LayC g pg pb n m r b p kd va (Y j) c (Y j)) ∧ VacR n [⟨f, f + j * stp kd, 0, kd⟩] (Y j) S' ∧ L' = L)) :
    Calls Tryz.prog 54 #[.pointer (some ⟨s, 0, none⟩), .agg #[.int .u64 (f : Int), .int .u64 (t : Int), .int .i64 p, .int .i64 kd]] w fun e w' => e = .returned (.int .i64 c) ∧ SO g pg pb n m r b s S' L' w w' := by
  have hmf : ∀ (fn : Fn) (first cap : Array Value) (w : World), (Instr.makeFunc fn first cap).run Tryz.prog w = .ok (.func fn first cap) w := fun _ _ _ _ => rfl
  have hlts := h.fs.lts
  have hsl := h.sp.lt
  have hsn := h.sn
  have H := W_hid h
  have hSt := W_hid (fun w => starts_any ⟨f, t, p, kd⟩ w)
  simp only [ra] at hSt
  refine wide_fit ?_
  refine callsIn_of_wp_marks Tryz.func54 rfl trivial ?_ rfl
  simp only [Tryz.ntmps54, List.size_toArray, List.length_cons, List.length_nil, Nat.reduceAdd, Nat.reduceSub, Array.replicate_succ, Array.replicate_zero, List.push_toArray, List.append_toArray, List.nil_append, List.cons_append]
  gi_wp2
  refine ⟨trivial, rfl, ?_⟩
  refine (fit_wide (hSt.out _)).mono ?_
  rintro e w2 ⟨rfl, rfl⟩
  gi_wp2
  obtain ⟨W, hW⟩ : ∃ W, ((((w.alloc (.cells #[.pointer (some ⟨s, 0, none⟩)] 25)).alloc (.cells #[.int .u64 (f : Int), .int .u64 (t : Int), .int .i64 p, .int .i64 kd] 55)).alloc (.cells #[.int .i64 0] 29)).alloc (.cells #[.int .u64 (f : Int), .int .u64 (f : Int), .int .i64 0, .int .i64 kd] 55)).alloc (.cells #[.int .u64 (f : Int), .int .u64 (t : Int), .int .i64 p, .int .i64 kd] 55) = W := ⟨_, rfl⟩
  have hWb : Below w.heap.size w W := by rw [← hW]; exact (((((Below.refl _ _).alloc (Nat.le_refl _) _).alloc (by simp) _).alloc (by simp; omega) _).alloc (by simp; omega) _).alloc (by simp; omega) _
  obtain ⟨B0, e0⟩ : ∃ B0, w.heap.size = B0 := ⟨_, rfl⟩
  obtain ⟨B1, e1⟩ : ∃ B1, B0 + 1 = B1 := ⟨_, rfl⟩
  obtain ⟨B2, e2⟩ : ∃ B2, B1 + 1 = B2 := ⟨_, rfl⟩
  obtain ⟨B3, e3⟩ : ∃ B3, B2 + 1 = B3 := ⟨_, rfl⟩
  obtain ⟨B4, e4⟩ : ∃ B4, B3 + 1 = B4 := ⟨_, rfl⟩
  have hWs : W.heap.size = B4 + 1 := by rw [← hW]; simp; omega
  have hB0 : Blk W B0 25 [.pointer (some ⟨s, 0, none⟩)] := by rw [← hW, ← e0]; exact ((((Blk.new w _ [.pointer (some ⟨s, 0, none⟩)] rfl).alloc _).alloc _).alloc _).alloc _
  have hB1 : RB W B1 ⟨f, t, p, kd⟩ := by rw [← hW]; exact (((Blk.new (w.alloc _) _ [.int .u64 (f : Int), .int .u64 (t : Int), .int .i64 p, .int .i64 kd] (by simp; omega)).alloc _).alloc _).alloc _
  have hB2 : Blk W B2 29 [.int .i64 0] := by rw [← hW]; exact ((Blk.new ((w.alloc _).alloc _) _ [.int .i64 0] (by simp; omega)).alloc _).alloc _
  have hB3 : RB W B3 ⟨f, f + 0 * stp kd, 0, kd⟩ := by rw [← hW, Nat.zero_mul]; exact (Blk.new (((w.alloc _).alloc _).alloc _) _ [.int .u64 (f : Int), .int .u64 (f : Int), .int .i64 0, .int .i64 kd] (by simp; omega)).alloc _
  have hB4 : RB W B4 ⟨f, t, p, kd⟩ := by rw [← hW]; exact Blk.new ((((w.alloc _).alloc _).alloc _).alloc _) _ [.int .u64 (f : Int), .int .u64 (t : Int), .int .i64 p, .int .i64 kd] (by simp; omega)
  have hSW := H.out.keep hWb
  rw [hW]
  rw [e0, e1, e2, e3, e4]
  clear hW hSt
  have hstp := stp_pos kd
  have hstp1 := stp_le kd
  rw [e0] at hlts hsl
  refine range_givesB (gf := 104) rfl enters_starts (starts_gives [pg, pb, b, B3] f t B4 p kd ht (by simp; omega)) (fun W' hb => Blk.keep hB4 hb) (fun x hx => by simp at hx; omega) (fun _ => rfl)
    (CI g pg pb n m r b j B3 f kd Y W) (CX g pg pb n m r b j B2 B3 f kd c Y W)
    (fun i V V' hI hb => ⟨hI.1, hI.2.1.low hb (by omega), hI.2.2.1.low hb, hI.2.2.2.below hb (by omega)⟩)
    (fun k i V V' hI hb => ⟨hI.1, hI.2.1, hI.2.2.1, hI.2.2.2.1.low hb (by omega), hI.2.2.2.2.1.low hb, hI.2.2.2.2.2.1.below hb (by omega), hI.2.2.2.2.2.2.below hb (by omega)⟩)
    ⟨Nat.zero_le _, by rw [hY0]; exact hSW.fs, But.refl _ _, hB3⟩
    (fun mm va a' V => a' = { tmps := #[.pointer (some ⟨s, 0, none⟩), .agg #[.int .u64 (f : Int), .int .u64 (t : Int), .int .i64 p, .int .i64 kd], .pointer (some ⟨B0, 0, none⟩), .pointer (some ⟨B1, 0, none⟩), .pointer (some ⟨B2, 0, none⟩), .pointer (some ⟨B3, 0, none⟩), .int .u64 (va : Int), undef, .pointer (some ⟨B1, 0, none⟩), .int .u64 (f : Int), .pointer (some ⟨B1, 0, none⟩), .int .u64 (f : Int), .pointer (some ⟨B1, 3, none⟩), .int .i64 kd, .agg #[.int .u64 (f : Int), .int .u64 (f : Int), .int .i64 0, .int .i64 kd], .func (.func 94) #[] #[.pointer (some ⟨B2, 0, none⟩), .pointer (some ⟨B0, 0, none⟩), .pointer (some ⟨B3, 0, none⟩)], .agg #[.int .u64 (f : Int), .int .u64 (t : Int), .int .i64 p, .int .i64 kd], .func (.func 104) #[] #[.pointer (some ⟨B4, 0, none⟩)], .int .u64 (va : Int), undef, undef, undef, undef, undef, undef, undef, undef, undef, undef, undef, undef, undef, undef, undef, undef, undef, undef, undef, undef, undef, undef, undef, undef, undef, undef, undef, undef, undef, undef, undef], defers := [] })
    (fun mm va a' => fun _ _ _ _ hh _ _ => hh)
    ?assign ?body ?done ?stop
  case assign =>
    rintro lq i va V K hsz hI hK
    have hKn := hK _ _ (But.refl _ _) hI rfl
    gi_wp2
    exact hKn
  case body =>
    rintro lq i va a' mm V hxi hm hmV hI rfl
    obtain ⟨hij, hF, hBu, hR3⟩ := hI
    have hvB0 := hB0.but hBu (by simp; omega)
    have c0 := hvB0.cell (j := 0) rfl
    have hsV := hSW.sp.but hBu (by simp; omega)
    have s0 := hsV.cell (j := 0) rfl
    have s1 := hsV.cell (j := 1) rfl
    have hvB1 := Blk.but hB1 hBu (by simp; omega)
    have r2 := hvB1.cell (j := 2) rfl
    have r3 := hvB1.cell (j := 3) rfl
    have hvB2 := hB2.but hBu (by simp; omega)
    have hlen : i < (stF f t (stp kd)).length := (List.getElem?_eq_some_iff.1 hxi).1
    have hvt := (stF_lt f t (stp kd) i hstp).1 hlen
    have hvae : va = f + i * stp kd := by have := stF_at f t (stp kd) i hlen; rw [hxi] at this; exact Option.some.inj this
    have hst := W_hid (fun w3 (hb4 : But [pg, pb, b] V w3) => show (w3.cell? ⟨B0, 0, none⟩ = some (.pointer (some ⟨s, 0, none⟩)) ∧ w3.cell? ⟨s, 0, none⟩ = some (.pointer (some ⟨g, 0, none⟩)) ∧ w3.cell? ⟨s, 1, none⟩ = some (.pointer (some ⟨pg, 0, none⟩)) ∧ w3.cell? ⟨B1, 2, none⟩ = some (.int .i64 p) ∧ w3.cell? ⟨B1, 3, none⟩ = some (.int .i64 kd)) ∧ RB w3 B1 ⟨f, t, p, kd⟩ ∧ Blk w3 B2 29 [.int .i64 0] ∧ RB w3 B3 ⟨f, f + i * stp kd, 0, kd⟩ from
      ⟨⟨(hvB0.but hb4 (by simp; omega)).cell (j := 0) rfl, (hsV.but hb4 (by simp; omega)).cell (j := 0) rfl, (hsV.but hb4 (by simp; omega)).cell (j := 1) rfl, (Blk.but hvB1 hb4 (by simp; omega)).cell (j := 2) rfl, (Blk.but hvB1 hb4 (by simp; omega)).cell (j := 3) rfl⟩, Blk.but hvB1 hb4 (by simp; omega), hvB2.but hb4 (by simp; omega), Blk.but hR3 hb4 (by simp; omega)⟩)
    by_cases hlt : i < j
    · have hcall := (hY i va hlt hxi).2 V.drew hF.drew
      simp only [trv] at hcall
      replace hcall := W_hid hcall
      replace hvae := W_hid hvae
      have hvlt : va < 281474976710656 := by have := hvae.out; omega
      have hSt := W_hid (fun w => step_any kd w)
      have hBuH := W_hid hBu
      clear hvB0 hsV hvB1 hvB2 hR3 hBu hF hxi hB0 hB1 hB2 hB3 hB4 hSW hY hend
      gi_wp2
      refine SQ.region_round (S := fun w' => w'.cell? ⟨B0, 0, none⟩ = some (.pointer (some ⟨s, 0, none⟩)) ∧ w'.cell? ⟨s, 0, none⟩ = some (.pointer (some ⟨g, 0, none⟩)) ∧ w'.cell? ⟨s, 1, none⟩ = some (.pointer (some ⟨pg, 0, none⟩)) ∧ w'.cell? ⟨B1, 2, none⟩ = some (.int .i64 p) ∧ w'.cell? ⟨B1, 3, none⟩ = some (.int .i64 kd)) (by kernel_rfl) (by kernel_rfl) (by rintro ⟨_, _, h⟩; exact h) ⟨c0, s0, s1, r2, r3⟩ (fun hHeld => ?_)
      refine wt (i := 0) (v := .pointer (some ⟨s, 0, none⟩)) hHeld ?_
      refine wt (i := 1) (v := .pointer (some ⟨s, 0, none⟩)) hHeld ?_
      refine wt (i := 2) (v := .pointer (some ⟨s, 0, none⟩)) hHeld ?_
      refine wt (i := 3) (v := .agg #[.pointer (some ⟨g, 0, none⟩), .pointer (some ⟨pg, 0, none⟩)]) hHeld ?_
      refine wt (i := 4) (v := .int .u64 (va : Int)) hHeld ?_
      refine wt (i := 5) (v := .pointer (some ⟨B1, 2, none⟩)) hHeld ?_
      refine wt (i := 6) (v := .int .i64 p) hHeld ?_
      refine wt (i := 7) (v := .pointer (some ⟨B1, 3, none⟩)) hHeld ?_
      refine wt (i := 8) (v := .int .i64 kd) hHeld ?_
      refine wpAnyH_ready (rs := [9]) (by kernel_rfl) (by simp) (AllReadyH.cons rfl (fun K' hK => ?_) AllReadyH.nil)
      go_simp
      refine hcall.out.mono ?_
      rintro e w3 ⟨rfl, hF3, hb3⟩
      have hb4 : But [pg, pb, b] V w3 := hb3.undrew (n := 1)
      obtain ⟨hS3, hq1, hq2, hq3⟩ := hst.out _ hb4
      refine hK.out _ _ hS3 (fun hS4 => wt (i := 10) (v := .int .i64 0) hS4 ?_)
      refine wpAnyH_done (by kernel_rfl) ?_ _
      clear hHeld hK hS3 hst hcall c0 s0 s1 r2 r3
      obtain ⟨z0, z1, z2, z3⟩ := RB.re hq1
      have g1 := Blk.fz hq3 1
      have g0 : w3.cell? ⟨B3, 1, none⟩ = some (.int .u64 ((f + i * stp kd : Nat) : Int)) := Blk.cell hq3 (j := 1) rfl
      have hq3 := W_hid hq3
      clear hvt
      gi_wp2
      refine ⟨trivial, rfl, ?_⟩
      refine (show CallsIn (Fence.wide.inRound lq) 0 Tryz.prog _ _ _ _ from callsIn_wide.2 (hSt.out _)).mono ?_
      rintro e w4 ⟨rfl, rfl⟩
      have hbb : But [pg, pb, b, B3] V w3 := hb4.moreS (by intro x hx; simp at hx ⊢; omega)
      have hnx : (va : Int) + ((stp kd : Nat) : Int) = ((f + (i + 1) * stp kd : Nat) : Int) := by have := hvae.out; rw [Nat.succ_mul]; omega
      have hfin := W_hid (show BN mm [pg, pb, b, B3] V (w3.setCell ⟨B3, 1, none⟩ (.int .u64 ((va : Int) + ((stp kd : Nat) : Int)))) ∧ CI g pg pb n m r b j B3 f kd Y W (i + 1) (w3.setCell ⟨B3, 1, none⟩ (.int .u64 ((va : Int) + ((stp kd : Nat) : Int)))) from
        ⟨(BN.refl _ hmV).then (hbb.set (.inl (by simp)) _), by omega, hF3.far _ (by omega), hBuH.out.trans (hbb.set (.inl (by simp)) _), by rw [hnx]; exact Blk.set hq3.out 1 _⟩)
      clear hnx hbb
      gi_wp2
      exact hfin.out
    · have hije : i = j := by omega
      subst hije
      rcases hend with ⟨hjl, -⟩ | ⟨hc0, ⟨va', hva', hC⟩, hVac, rfl⟩
      · omega
      obtain rfl : va' = va := by rw [hxi] at hva'; exact (Option.some.inj hva').symm
      have hcall := hC.2 V.drew hF.drew
      simp only [trv] at hcall
      replace hcall := W_hid hcall
      replace hvae := W_hid hvae
      have d1 : decide (c = 0) = false := decide_eq_false hc0
      have hBuH := W_hid hBu
      clear hvB0 hsV hvB1 hvB2 hR3 hBu hF hxi hB0 hB1 hB2 hB3 hB4 hSW hY hC hva' hVac hj hvt
      gi_wp2
      refine SQ.region_round (S := fun w' => w'.cell? ⟨B0, 0, none⟩ = some (.pointer (some ⟨s, 0, none⟩)) ∧ w'.cell? ⟨s, 0, none⟩ = some (.pointer (some ⟨g, 0, none⟩)) ∧ w'.cell? ⟨s, 1, none⟩ = some (.pointer (some ⟨pg, 0, none⟩)) ∧ w'.cell? ⟨B1, 2, none⟩ = some (.int .i64 p) ∧ w'.cell? ⟨B1, 3, none⟩ = some (.int .i64 kd)) (by kernel_rfl) (by kernel_rfl) (by rintro ⟨_, _, h⟩; exact h) ⟨c0, s0, s1, r2, r3⟩ (fun hHeld => ?_)
      refine wt (i := 0) (v := .pointer (some ⟨s, 0, none⟩)) hHeld ?_
      refine wt (i := 1) (v := .pointer (some ⟨s, 0, none⟩)) hHeld ?_
      refine wt (i := 2) (v := .pointer (some ⟨s, 0, none⟩)) hHeld ?_
      refine wt (i := 3) (v := .agg #[.pointer (some ⟨g, 0, none⟩), .pointer (some ⟨pg, 0, none⟩)]) hHeld ?_
      refine wt (i := 4) (v := .int .u64 (va' : Int)) hHeld ?_
      refine wt (i := 5) (v := .pointer (some ⟨B1, 2, none⟩)) hHeld ?_
      refine wt (i := 6) (v := .int .i64 p) hHeld ?_
      refine wt (i := 7) (v := .pointer (some ⟨B1, 3, none⟩)) hHeld ?_
      refine wt (i := 8) (v := .int .i64 kd) hHeld ?_
      refine wpAnyH_ready (rs := [9]) (by kernel_rfl) (by simp) (AllReadyH.cons rfl (fun K' hK => ?_) AllReadyH.nil)
      go_simp
      refine hcall.out.mono ?_
      rintro e w3 ⟨rfl, hF3, hb3⟩
      have hb4 : But [pg, pb, b] V w3 := hb3.undrew (n := 1)
      obtain ⟨hS3, hq1, hq2, hq3⟩ := hst.out _ hb4
      refine hK.out _ _ hS3 (fun hS4 => wt (i := 10) (v := .int .i64 c) hS4 ?_)
      refine wpAnyH_done (by kernel_rfl) ?_ _
      clear hHeld hK hS3 hst hcall c0 s0 s1 r2 r3
      have g1 := Blk.fz hq2 0
      have g0 := Blk.cell hq2 (j := 0) rfl
      have hbb : But [pg, pb, b, B2, B3] V w3 := hb4.moreS (by intro x hx; simp at hx ⊢; omega)
      have hb5 := hbb.set (p := ⟨B2, 0, none⟩) (.inl (by simp)) (.int .i64 c)
      have hfin := W_hid (show KeepsFrom W.heap.size V (w3.setCell ⟨B2, 0, none⟩ (.int .i64 c)) ∧ CX g pg pb n m r b i B2 B3 f kd c Y W .ret i (w3.setCell ⟨B2, 0, none⟩ (.int .i64 c)) from
        ⟨⟨hb5.size, fun x o hx ho _ => (hb5.block x (Array.getElem?_eq_some_iff.1 ho).1 (by simp; omega)).trans ho⟩, rfl, rfl, hc0, hF3.far _ (by omega), (hBuH.out.moreS (by intro x hx; simp at hx ⊢; omega)).trans hb5, hq2.set 0 _, Blk.far hq3 (by show B3 ≠ B2; omega) _⟩)
      clear hb5 hbb hq1 hq2 hq3
      gi_wp2
      exact hfin.out
  case done =>
    rintro D V hD ⟨hij, hF, hBu, hR3⟩ hkp hK0
    have hjl : (stF f t (stp kd)).length = j := by omega
    rw [hjl] at hF
    rcases hend with ⟨-, rfl, rfl, rfl⟩ | ⟨-, ⟨va, hva, -⟩, -⟩
    rotate_left
    · rw [List.getElem?_eq_none (by omega)] at hva; cases hva
    have hT : But [pg, pb, b, B3] w V := (But.of hWb).trans hBu
    obtain ⟨hM, hBf⟩ := SM.on H.out hT (fun x hx => by simp at hx; omega) hF
    have hvB0 := hB0.but hBu (by simp; omega)
    have hvB1 := Blk.but hB1 hBu (by simp; omega)
    have hvB2 := hB2.but hBu (by simp; omega)
    have c0 := hvB0.cell (j := 0) rfl
    have s2 := hM.sp.cell (j := 2) rfl
    obtain ⟨r0, r1, r2, r3⟩ := RB.re hvB1
    have hdr : Below V.heap.size V V.drew := ⟨rfl, rfl, rfl, Nat.le_refl _, fun _ _ => rfl⟩
    have hcall := Add_any ao L.length cap L f t p kd V.drew (hM.keep hdr).gl
    unfold GvE at hcall
    replace hcall := W_hid hcall
    have hst := W_hid (fun w3 (hb : Below V.heap.size V.drew w3) => show (w3.cell? ⟨B0, 0, none⟩ = some (.pointer (some ⟨s, 0, none⟩)) ∧ w3.cell? ⟨s, 2, none⟩ = some (.slice ao L.length cap) ∧ w3.cell? ⟨B1, 0, none⟩ = some (.int .u64 (f : Int)) ∧ w3.cell? ⟨B1, 1, none⟩ = some (.int .u64 (t : Int)) ∧ w3.cell? ⟨B1, 2, none⟩ = some (.int .i64 p) ∧ w3.cell? ⟨B1, 3, none⟩ = some (.int .i64 kd)) ∧ Blk w3 B2 29 [.int .i64 0] from
      have hb' : Below V.heap.size V w3 := ⟨hb.os, hb.tape, hb.output, hb.size, hb.block⟩
      ⟨⟨(hvB0.keep hb').cell (j := 0) rfl, (hM.sp.keep hb').cell (j := 2) rfl, RB.re (Blk.keep hvB1 hb')⟩, hvB2.keep hb'⟩)
    replace hM := W_hid hM
    replace hBf := W_hid hBf
    clear hR3 hBu hF hT hY hB0 hB1 hB2 hB3 hB4 hSW hkp
    gi_wp2
    refine region_calm (wpIn_wide.2 ?_)
    refine UpTil.region (S := fun w' => w'.cell? ⟨B0, 0, none⟩ = some (.pointer (some ⟨s, 0, none⟩)) ∧ w'.cell? ⟨s, 2, none⟩ = some (.slice ao L.length cap) ∧ w'.cell? ⟨B1, 0, none⟩ = some (.int .u64 (f : Int)) ∧ w'.cell? ⟨B1, 1, none⟩ = some (.int .u64 (t : Int)) ∧ w'.cell? ⟨B1, 2, none⟩ = some (.int .i64 p) ∧ w'.cell? ⟨B1, 3, none⟩ = some (.int .i64 kd)) (m := 12) (by kernel_rfl) ⟨c0, s2, r0, r1, r2, r3⟩ (fun hHeld => ?_)
    refine ul (i := 0) (v := .pointer (some ⟨s, 0, none⟩)) hHeld ?_
    refine ul (i := 1) (v := .pointer (some ⟨s, 0, none⟩)) hHeld ?_
    refine ul (i := 2) (v := .pointer (some ⟨s, 0, none⟩)) hHeld ?_
    refine ul (i := 3) (v := .pointer (some ⟨s, 2, none⟩)) hHeld ?_
    refine ul (i := 4) (v := .slice ao L.length cap) hHeld ?_
    refine ul (i := 5) (v := .agg #[.int .u64 (f : Int), .int .u64 (t : Int), .int .i64 p, .int .i64 kd]) hHeld ?_
    refine UpTil.one (i := 6) (by kernel_rfl) rfl rfl (fun K hK => ?_)
    go_simp
    refine hcall.out.mono ?_
    rintro e w3 ⟨a1, d1, rfl, ho1, hb3⟩
    obtain ⟨hS3, hq2⟩ := hst.out _ hb3
    have hb4 : Below V.heap.size V w3 := ⟨hb3.os, hb3.tape, hb3.output, hb3.size, hb3.block⟩
    have hs3 := hM.out.sp.keep hb4
    have f2 := hs3.fz 2
    have s2' := hs3.cell (j := 2) rfl
    have hVs := hBf.out.size
    have hge1 := gown_cells ho1
    have hVl : V.drew.heap.size = V.heap.size := rfl
    have hSt3 := SM.store hs3 (hM.out.fs.keep hb4) hsn ho1 (by omega)
    have hKD : (w3.setCell ⟨s, 2, none⟩ (.slice a1 (adL L ⟨f, t, p, kd⟩).length d1)).heap[D]? = some (.deferred (some [])) := (Below.heap_setCell _ _ _ _ (by show D ≠ s; omega)).trans ((hb4.block D (Array.getElem?_eq_some_iff.1 hK0).1).trans hK0)
    have hE3 : Blk (w3.setCell ⟨s, 2, none⟩ (.slice a1 (adL L ⟨f, t, p, kd⟩).length d1)) B2 29 [.int .i64 0] := Blk.far hq2 (by show B2 ≠ s; omega) _
    have e3 := hE3.cell (j := 0) rfl
    have fe3 := hE3.fz 0
    have hbt : But [s, pg, pb, b] w (w3.setCell ⟨s, 2, none⟩ (.slice a1 (adL L ⟨f, t, p, kd⟩).length d1)) := (hBf.out.trans (But.of hb4)).set (.inl (by simp)) _
    replace hSt3 := W_hid hSt3
    replace hbt := W_hid hbt
    replace hE3 := W_hid hE3
    replace hKD := W_hid hKD
    have hge := W_hid (fun k (hk : (Value.slice a1 (adL L ⟨f, t, p, kd⟩).length d1).ownBlock = some k) => (hge1 k hk).2)
    clear hs3 ho1 hq2 hb3 hb4 hge1
    refine hK.out _ _ (fun _ => hS3) ?_
    clear hK hHeld
    refine ul (i := 7) (v := .tuple #[.slice a1 (adL L ⟨f, t, p, kd⟩).length d1, .int .i64 (adE L ⟨f, t, p, kd⟩)]) hS3 ?_
    refine ul (i := 8) (v := .slice a1 (adL L ⟨f, t, p, kd⟩).length d1) hS3 ?_
    refine up (i := 9) (v := .int .i64 (adE L ⟨f, t, p, kd⟩)) hS3 ?_
    refine up (i := 10) (v := .pointer (some ⟨s, 0, none⟩)) hS3 ?_
    refine ul (i := 11) (v := .pointer (some ⟨s, 2, none⟩)) hS3 ?_
    refine UpTil.last (by kernel_rfl) rfl rfl (by kernel_rfl) ?_
    go_simp
    simp only [calm]
    gi_wp2
    have hDl : D < V.heap.size := (Array.getElem?_eq_some_iff.1 hK0).1
    obtain ⟨V4, hV4⟩ : ∃ V4, (w3.setCell ⟨s, 2, none⟩ (.slice a1 (adL L ⟨f, t, p, kd⟩).length d1)).setCell ⟨B2, 0, none⟩ (.int .i64 0) = V4 := ⟨_, rfl⟩
    have hK4 : V4.heap[D]? = some (.deferred (some [])) := by rw [← hV4]; exact (Below.heap_setCell _ _ _ _ (by show D ≠ B2; omega)).trans hKD.out
    have hE4 : Blk (V4.putObj D (.deferred none)) B2 29 [.int .i64 0] := by rw [← hV4]; exact (hE3.out.set 0 (.int .i64 0)).below (below_put _ (Nat.le_refl D)) (by omega)
    have hrow4 := own_of (w' := V4.putObj D (.deferred none)) hSt3.out.row (fun k hk => by
      have := hge.out k hk
      rw [← hV4]
      exact (World.putObj_heap_other (by omega)).trans (Below.heap_setCell _ _ _ _ (by show k ≠ B2; omega)))
    have hF4 : FS g pg pb n m r b (Y j) (V4.putObj D (.deferred none)) := by rw [← hV4]; exact (hSt3.out.fs.far _ (by omega)).low (below_put _ (Nat.le_refl D)) (by omega)
    have hs4 := (hSt3.out.sp.far (p := ⟨B2, 0, none⟩) (by show s ≠ B2; omega) (.int .i64 0)).below (below_put (l := D) (.deferred none) (Nat.le_refl D)) (by omega)
    rw [hV4] at hs4
    have hb5 : But [s, pg, pb, b] w (V4.putObj D (.deferred none)) := by rw [← hV4]; exact (hbt.out.set (p := ⟨B2, 0, none⟩) (.inr (by show w.heap.size ≤ B2; omega)) _).low (below_put _ (by omega))
    have hfin := W_hid (show SO g pg pb n m r b s (Y j) (adL L ⟨f, t, p, kd⟩) w (V4.putObj D (.deferred none)) from ⟨⟨_, _, hF4, hs4, hrow4, hSt3.out.far, hSt3.out.sn⟩, hb5⟩)
    have hcell := hE4.cell (j := 0) rfl
    rw [hV4]
    clear hE4 hrow4 hF4 hs4 hb5 hV4 hSt3 hbt hge
    refine ⟨by simp, .inl ⟨_, _, rfl, run_takeDeferred hK4, ?_⟩⟩
    refine ⟨by simp, .inr ⟨fun e => by simp [Fence.wide] at e, _, _, 94, #[.pointer (some ⟨B2, 0, none⟩), .pointer (some ⟨B0, 0, none⟩), .pointer (some ⟨B3, 0, none⟩)], rfl, by simp [go_sem], fun _ _ => trivial, ?_⟩⟩
    refine (crd_none B2 B0 B3 _ hcell).mono ?_
    rintro e u' w'' ⟨rfl, rfl, rfl⟩
    simp [LeavesInM, LeavesIn, settle, results, Tryz.results54, go_sem, hcell]
    exact hfin.out
  case stop =>
    rintro D k i V hD hi hI hK
    obtain ⟨rfl, rfl, hc0, hF, hBu, hE2, hR3⟩ := hI
    rcases hend with ⟨hjl, -⟩ | ⟨hc0', -, hVac, rfl⟩
    · omega
    have hB0' := hB0.but hBu (by simp; omega)
    have hs' := hSW.sp.but hBu (by simp; omega)
    have hc2 := hE2.cell (j := 0) rfl
    have hcr := crd_some g pg pb n m r b s B2 B0 B3 f (f + i * stp kd) 0 kd c _ _ _ (V.putObj D (.deferred none)) (hF.low (below_put _ hD) (by omega)) (hs'.below (below_put _ hD) (by omega)) ⟨hsn.2.1, hsn.2.2.1, hsn.2.2.2.1⟩
      ((hE2.below (below_put _ hD) (by omega)).cell (j := 0) rfl) hc0 ((hB0'.below (below_put _ hD) (by omega)).cell (j := 0) rfl) (Blk.below hR3 (below_put _ hD) (by omega)) hVac
    have hT : But [pg, pb, b, B2, B3] w V := (But.of hWb).trans hBu
    gi_wp2
    refine ⟨by simp, .inl ⟨_, _, rfl, run_takeDeferred hK, ?_⟩⟩
    refine ⟨by simp, .inr ⟨fun e => by simp [Fence.wide] at e, _, _, 94, #[.pointer (some ⟨B2, 0, none⟩), .pointer (some ⟨B0, 0, none⟩), .pointer (some ⟨B3, 0, none⟩)], rfl, by simp [go_sem], fun _ _ => trivial, ?_⟩⟩
    refine hcr.mono ?_
    rintro e u' w'' ⟨rfl, rfl, hF', hB'⟩
    have hT2 : But [pg, pb, b, B2, B3] w w'' := (hT.low (below_put _ (by omega))).trans (hB'.moreS (by intro x hx; simp at hx ⊢; omega))
    obtain ⟨hM, hBf⟩ := SM.on H.out hT2 (fun x hx => by simp at hx; omega) hF'
    have hcell := ((hE2.below (below_put (.deferred none) hD) (by omega)).but hB' (by simp; omega)).cell (j := 0) rfl
    have hfin := W_hid (show SO g pg pb n m r b s S' L' w w'' from ⟨⟨_, _, hM⟩, hBf⟩)
    clear hM hBf hT2 hT hcr hs' hB0' hc2 hR3 hE2 hBu hF hF' hB' hY hVac hSW hB0 hB1 hB2 hB3 hB4
    simp [LeavesInM, LeavesIn, settle, results, Tryz.results54, go_sem, hcell]
    exact hfin.out
end Go.Proofs.YtkomahekdcaiaaaGreatDoor

/- Page tables, on plain numbers: the pages below a table, by rising addresses. -/
namespace Go.Proofs.YtkomahekdcaiaaaGreatDoor
namespace RX
set_option linter.unusedVariables false

/-- A page: its first address, its frame, its permissions, is it huge? -/
abbrev Pg := Nat × Nat × Int × Bool

/-- The pages at place c of level l; of a table below it: rec. -/
def one (F : Tabs) (G : Pags) (rec : Nat → List Pg) (l c : Nat) : List Pg :=
  match F (l - 1) c with
  | some _ => rec c
  | none => match G l c with
    | some (f, p) => [(c * EN.sz (l - 1), f, p, decide (l = 2))]
    | none => []
/-- The pages below the table of level l at place j. -/
def und (F : Tabs) (G : Pags) : Nat → Nat → List Pg
  | 0, _ => []
  | l + 1, j => (List.range 512).flatMap fun i => one F G (und F G l) (l + 1) (512 * j + i)

theorem sz_mul (va k : Nat) : va / EN.sz (k + 1) = va / EN.sz k / 512 := by rw [EN.sz_succ, Nat.div_div_eq_div_mul]
/-- Page x is mapped at level k. -/
def Is (G : Pags) (k : Nat) (x : Pg) : Prop := G k (x.1 / EN.sz (k - 1)) = some (x.2.1, x.2.2.1) ∧ x.2.2.2 = decide (k = 2) ∧ x.1 % EN.sz (k - 1) = 0
theorem is_at {G : Pags} {k c f : Nat} {p : Int} (h : G k c = some (f, p)) : Is G k (c * EN.sz (k - 1), f, p, decide (k = 2)) :=
  ⟨by show G k (c * EN.sz (k - 1) / EN.sz (k - 1)) = _; rw [Nat.mul_div_cancel _ (EN.sz_pos _)]; exact h, rfl, Nat.mul_mod_left _ _⟩
theorem is_uniq {G : Pags} {k k' : Nat} {x : Pg} (h : Is G k x) (h' : Is G k' x) (hk : 1 ≤ k ∧ k ≤ 2) (hk' : 1 ≤ k' ∧ k' ≤ 2) : k = k' := by
  have a := h.2.1
  have b := h'.2.1
  rw [a] at b
  have : (k = 2) ↔ (k' = 2) := by simpa using b
  omega

section
variable {F : Tabs} {G : Pags} {r n : Nat}

theorem chain (I : Inv F G r n) {k l : Nat} {va : Nat} {y : Nat × Int} (h : G k (va / EN.sz (k - 1)) = some y) (hl : k ≤ l) (h4 : l ≤ 4) : ∃ f, F l (va / EN.sz l) = some f := by
  obtain ⟨f, p⟩ := y
  have hp := I.page h
  obtain ⟨f', hw⟩ := I.way h
  rw [sz_down va k hp.1] at hw
  obtain ⟨f2, h2⟩ := up_to I va (l - k) k f' hw (by omega)
  rw [show k + (l - k) = l by omega] at h2
  exact ⟨f2, h2⟩
theorem chainF (I : Inv F G r n) {k l : Nat} {va f : Nat} (h : F k (va / EN.sz k) = some f) (hl : k ≤ l) (h4 : l ≤ 4) : ∃ f, F l (va / EN.sz l) = some f := by
  obtain ⟨f2, h2⟩ := up_to I va (l - k) k f h (by omega)
  rw [show k + (l - k) = l by omega] at h2
  exact ⟨f2, h2⟩
theorem noF0 (I : Inv F G r n) (c : Nat) : F 0 c = none := by
  cases h : F 0 c with
  | none => rfl
  | some y => have := I.lev h; omega

theorem mem_und (I : Inv F G r n) : ∀ (l j : Nat), l ≤ 4 → (∃ y, F l j = some y) → ∀ x : Pg, x ∈ und F G l j ↔ ∃ k, 1 ≤ k ∧ k ≤ l ∧ Is G k x ∧ x.1 / EN.sz l = j
  | 0, j, _, ⟨y, hy⟩, x => by have := I.lev hy; omega
  | l + 1, j, h4, hF, x => by
    unfold und
    rw [List.mem_flatMap]
    constructor
    · rintro ⟨i, hi, hx⟩
      rw [List.mem_range] at hi
      unfold one at hx
      rw [Nat.add_sub_cancel] at hx
      cases hf : F l (512 * j + i) with
      | some y =>
        rw [hf] at hx
        obtain ⟨k, k1, k2, h1, h2⟩ := (mem_und I l (512 * j + i) (by omega) ⟨y, hf⟩ x).1 hx
        exact ⟨k, k1, by omega, h1, by rw [sz_mul, h2]; omega⟩
      | none =>
        rw [hf] at hx
        cases hg : G (l + 1) (512 * j + i) with
        | none => rw [hg] at hx; cases hx
        | some y =>
          obtain ⟨f, p⟩ := y
          rw [hg] at hx
          simp only [List.mem_singleton] at hx
          subst hx
          have e := is_at hg
          rw [Nat.add_sub_cancel] at e
          refine ⟨l + 1, by omega, Nat.le_refl _, e, ?_⟩
          show (512 * j + i) * EN.sz l / EN.sz (l + 1) = j
          rw [sz_mul, Nat.mul_div_cancel _ (EN.sz_pos _)]
          omega
    · rintro ⟨k, k1, k2, h1, h2⟩
      have hp := I.page h1.1
      rcases Nat.lt_or_ge k (l + 1) with hlt | hge
      · obtain ⟨f, hf⟩ := chain I h1.1 (show k ≤ l by omega) (by omega)
        refine ⟨x.1 / EN.sz l % 512, List.mem_range.2 (Nat.mod_lt _ (by decide)), ?_⟩
        have e : 512 * j + x.1 / EN.sz l % 512 = x.1 / EN.sz l := by rw [← h2, sz_mul]; omega
        rw [e]
        unfold one
        rw [Nat.add_sub_cancel, hf]
        exact (mem_und I l _ (by omega) ⟨f, hf⟩ x).2 ⟨k, k1, by omega, h1, rfl⟩
      · obtain rfl : k = l + 1 := by omega
        refine ⟨x.1 / EN.sz l % 512, List.mem_range.2 (Nat.mod_lt _ (by decide)), ?_⟩
        have e : 512 * j + x.1 / EN.sz l % 512 = x.1 / EN.sz l := by rw [← h2, sz_mul]; omega
        rw [e]
        have hg := h1.1
        rw [Nat.add_sub_cancel] at hg
        have hf : F l (x.1 / EN.sz l) = none := by
          have : l = 0 ∨ l = 1 := by omega
          rcases this with rfl | rfl
          · exact noF0 I _
          · exact I.apart hg
        unfold one
        rw [Nat.add_sub_cancel, hf, hg]
        simp only [List.mem_singleton]
        obtain ⟨a, f, p, q⟩ := x
        have h3 := h1.2.1
        have h5 := h1.2.2
        simp only at h3 h5 ⊢
        rw [Nat.add_sub_cancel] at h5
        rw [h3]
        congr 1
        have := Nat.div_add_mod a (EN.sz l)
        rw [Nat.mul_comm] at this
        omega

/-- By rising addresses. -/
def Rising (l : List Pg) : Prop := l.Pairwise fun a b => a.1 < b.1
theorem one_at (I : Inv F G r n) (l c : Nat) (h4 : l + 1 ≤ 4) (x : Pg) (h : x ∈ one F G (und F G l) (l + 1) c) : x.1 / EN.sz l = c := by
  unfold one at h
  rw [Nat.add_sub_cancel] at h
  cases hf : F l c with
  | some y =>
    rw [hf] at h
    obtain ⟨k, k1, k2, h1, h2⟩ := (mem_und I l c (by omega) ⟨y, hf⟩ x).1 h
    exact h2
  | none =>
    rw [hf] at h
    cases hg : G (l + 1) c with
    | none => rw [hg] at h; cases h
    | some y =>
      obtain ⟨f, p⟩ := y
      rw [hg] at h
      simp only [List.mem_singleton] at h
      subst h
      exact Nat.mul_div_cancel _ (EN.sz_pos _)
theorem und_rising (I : Inv F G r n) : ∀ (l j : Nat), l ≤ 4 → Rising (und F G l j)
  | 0, _, _ => List.Pairwise.nil
  | l + 1, j, h4 => by
    unfold und Rising
    rw [List.pairwise_flatMap]
    constructor
    · intro i _
      unfold one
      rw [Nat.add_sub_cancel]
      cases hf : F l (512 * j + i) with
      | some y => exact und_rising I l _ (by omega)
      | none =>
        cases hg : G (l + 1) (512 * j + i) with
        | none => exact List.Pairwise.nil
        | some y => exact List.pairwise_singleton _ _
    · refine (List.pairwise_lt_range (n := 512)).imp ?_
      intro a b hab x hx y hy
      have e1 := one_at I l _ h4 x hx
      have e2 := one_at I l _ h4 y hy
      apply Classical.byContradiction
      intro hc
      have := Nat.div_le_div_right (c := EN.sz l) (Nat.le_of_not_lt hc)
      omega
theorem flat_le {α : Type} (f : Nat → List α) (c : Nat) (h : ∀ i, (f i).length ≤ c) : ∀ m, ((List.range m).flatMap f).length ≤ m * c
  | 0 => by simp
  | m + 1 => by
    rw [List.range_succ, List.flatMap_append, List.length_append, Nat.succ_mul]
    refine Nat.add_le_add (flat_le f c h m) ?_
    simpa using h m
theorem one_le {F : Tabs} {G : Pags} {rec : Nat → List Pg} {l c m : Nat} (h : (rec c).length ≤ m) (hm : 1 ≤ m) : (one F G rec l c).length ≤ m := by
  unfold one
  cases hf : F (l - 1) c with
  | some y => exact h
  | none =>
    cases hg : G l c with
    | none => exact Nat.zero_le _
    | some y => exact hm
theorem und_length : ∀ (l j : Nat), (und F G l j).length ≤ 512 ^ l
  | 0, _ => Nat.zero_le _
  | l + 1, j => by
    have := flat_le (fun i => one F G (und F G l) (l + 1) (512 * j + i)) (512 ^ l) (fun i => one_le (und_length l _) (Nat.pow_pos (by decide))) 512
    rw [Nat.pow_succ, Nat.mul_comm (512 ^ l)]
    exact this
end

theorem rising_eq : ∀ {a b : List Pg}, Rising a → Rising b → (∀ x, x ∈ a ↔ x ∈ b) → a = b
  | [], [], _, _, _ => rfl
  | [], y :: b, _, _, h => absurd ((h y).2 (by simp)) (by simp)
  | x :: a, [], _, _, h => absurd ((h x).1 (by simp)) (by simp)
  | x :: a, y :: b, ha, hb, h => by
    unfold Rising at ha hb
    rw [List.pairwise_cons] at ha hb
    have hxy : x = y := by
      rcases List.mem_cons.1 ((h x).1 (by simp)) with e | hx
      · exact e
      · rcases List.mem_cons.1 ((h y).2 (by simp)) with e | hy
        · exact e.symm
        · have := ha.1 y hy
          have := hb.1 x hx
          omega
    subst hxy
    congr 1
    refine rising_eq ha.2 hb.2 fun z => ?_
    have hz := h z
    simp only [List.mem_cons] at hz
    constructor
    · intro hm
      rcases hz.1 (.inr hm) with e | e
      · subst e; have := ha.1 z hm; omega
      · exact e
    · intro hm
      rcases hz.2 (.inr hm) with e | e
      · subst e; have := hb.1 z hm; omega
      · exact e
end RX
end Go.Proofs.YtkomahekdcaiaaaGreatDoor

/- Page tables, on plain numbers: every table has a page, every frame that is taken a table; what calls leave of that. -/
namespace Go.Proofs.YtkomahekdcaiaaaGreatDoor
set_option linter.unusedVariables false
namespace RX
section
variable {F : Tabs} {G : Pags} {r n : Nat}

theorem addT_ne : ∀ (fs : List Nat) (F : Tabs) (va L k c : Nat), fs.length < L → ¬ (L - fs.length ≤ k ∧ k < L ∧ c = va / EN.sz k) → addT F va L fs k c = F k c
  | [], F, va, L, k, c, _, _ => rfl
  | f :: fs, F, va, L, k, c, hl, h => by
    simp only [List.length_cons] at hl h
    show addT _ va (L - 1) fs k c = _
    rw [addT_ne fs _ va (L - 1) k c (by omega) (by intro hh; exact h ⟨by omega, by omega, hh.2.2⟩), updF_ne]
    rintro ⟨rfl, rfl⟩
    exact h ⟨by omega, by omega, rfl⟩
theorem addT_at : ∀ (fs : List Nat) (F : Tabs) (va L j : Nat) (hj : j < fs.length), fs.length < L → addT F va L fs (L - 1 - j) (va / EN.sz (L - 1 - j)) = some fs[j]
  | [], F, va, L, j, hj, _ => absurd hj (by simp)
  | f :: fs, F, va, L, 0, hj, hl => by
    simp only [List.length_cons] at hl
    show addT _ va (L - 1) fs _ _ = _
    rw [addT_ne fs _ va (L - 1) _ _ (by omega) (by omega), Nat.sub_zero, updF_at]
    rfl
  | f :: fs, F, va, L, j + 1, hj, hl => by
    simp only [List.length_cons] at hl hj
    have := addT_at fs (updF F (L - 1) (va / EN.sz (L - 1)) (some f)) va (L - 1) j (by omega) (by omega)
    rw [show L - 1 - (j + 1) = L - 1 - 1 - j by omega]
    exact this
/-- What stands in the tables that were added. -/
theorem addT_inv {fs : List Nat} {F : Tabs} {va L k c y : Nat} (hl : fs.length < L) (h : addT F va L fs k c = some y) : (L - fs.length ≤ k ∧ k < L ∧ c = va / EN.sz k ∧ ∃ hj : L - 1 - k < fs.length, y = fs[L - 1 - k]) ∨ (¬ (L - fs.length ≤ k ∧ k < L ∧ c = va / EN.sz k) ∧ F k c = some y) := by
  by_cases e : L - fs.length ≤ k ∧ k < L ∧ c = va / EN.sz k
  · obtain ⟨e1, e2, rfl⟩ := e
    have hj : L - 1 - k < fs.length := by omega
    have := addT_at fs F va L (L - 1 - k) hj hl
    rw [show L - 1 - (L - 1 - k) = k by omega, h] at this
    exact .inl ⟨e1, e2, rfl, hj, Option.some.inj this⟩
  · rw [addT_ne fs F va L k c hl e] at h
    exact .inr ⟨e, h⟩

/-- Below where a search ended there is no table on its way. -/
theorem desc_below (I : Inv F G r n) {va lo L : Nat} {fr : Nat → Nat} (hd : Desc F va lo L fr) (k : Nat) (h1 : lo ≤ k) (h2 : k < L) : F k (va / EN.sz k) = none := by
  cases h : F k (va / EN.sz k) with
  | none => rfl
  | some y =>
    obtain ⟨f, hf⟩ := chainF I h (show k ≤ L - 1 by omega) (by have := hd.l4; omega)
    rcases hd.stop with e | e
    · omega
    · rw [hf] at e; cases e

structure Good (F : Tabs) (G : Pags) (T : Nat → Bool) (n : Nat) : Prop where
  used : Used F G
  all : ∀ f, f < n → T f = true → ∃ l j, F l j = some f

theorem pres_tab {F : Tabs} {G : Pags} {l c y : Nat} (h : F (l - 1) c = some y) : pres F G l c = true := by unfold pres; rw [h]; rfl
theorem pres_pag {F : Tabs} {G : Pags} {l c : Nat} {y : Nat × Int} (h : G l c = some y) : pres F G l c = true := by unfold pres; rw [h]; simp
theorem pres_or {F : Tabs} {G : Pags} {l c : Nat} (h : pres F G l c = true) : (∃ y, F (l - 1) c = some y) ∨ ∃ y, G l c = some y := by
  unfold pres at h
  rw [Bool.or_eq_true, Option.isSome_iff_exists, Option.isSome_iff_exists] at h
  exact h

theorem good_map (I : Inv F G r n) {T : Nat → Bool} (g : Good F G T n) {va l L f : Nat} {p : Int} {fr : Nat → Nat} {fs : List Nat} (h1 : 1 ≤ l) (hd : Desc F va l L fr) (hl : fs.length = L - l) :
    Good (addT F va L fs) (updG G l (va / EN.sz (l - 1)) (some (f, p))) (takeAll T fs) n := by
  have hge := hd.ge
  have h4 := hd.l4
  have hlt : fs.length < L := by omega
  have old : ∀ {k c y}, F k c = some y → addT F va L fs k c = some y := by
    intro k c y h
    rw [addT_ne fs F va L k c hlt, h]
    rintro ⟨a1, a2, rfl⟩
    rw [desc_below I hd k (by omega) a2] at h
    cases h
  have oldG : ∀ {k c y}, G k c = some y → ∃ z, updG G l (va / EN.sz (l - 1)) (some (f, p)) k c = some z := by
    intro k c y h
    by_cases e : k = l ∧ c = va / EN.sz (l - 1)
    · rw [e.1, e.2, updG_at]; exact ⟨_, rfl⟩
    · rw [updG_ne e]; exact ⟨_, h⟩
  refine ⟨fun k j y hy h3 => ?_, fun x hx ht => ?_⟩
  · rcases addT_inv hlt hy with ⟨a1, a2, rfl, hj, -⟩ | ⟨-, h0⟩
    · refine ⟨EN.idx va k, EN.idx_lt va k, ?_⟩
      rw [at_sz va k (by omega)]
      by_cases e : k = l
      · subst e
        exact pres_pag (updG_at _ _ _ _)
      · have := addT_at fs F va L (L - 1 - (k - 1)) (by omega) hlt
        rw [show L - 1 - (L - 1 - (k - 1)) = k - 1 by omega] at this
        exact pres_tab this
    · obtain ⟨i, hi, hp⟩ := g.used k j y h0 h3
      refine ⟨i, hi, ?_⟩
      rcases pres_or hp with ⟨z, hz⟩ | ⟨z, hz⟩
      · exact pres_tab (old hz)
      · obtain ⟨z', hz'⟩ := oldG hz
        exact pres_pag hz'
  · unfold takeAll at ht
    by_cases e : x ∈ fs
    · obtain ⟨j, hj, rfl⟩ := List.getElem_of_mem e
      exact ⟨_, _, addT_at fs F va L j hj hlt⟩
    · rw [if_neg e] at ht
      obtain ⟨a, b, hab⟩ := g.all x hx ht
      exact ⟨a, b, old hab⟩

theorem good_prot {T : Nat → Bool} (g : Good F G T n) {k c f : Nat} {p q : Int} (h : G k c = some (f, p)) : Good F (updG G k c (some (f, q))) T n := by
  refine ⟨fun l j y hy h3 => ?_, g.all⟩
  obtain ⟨i, hi, hp⟩ := g.used l j y hy h3
  refine ⟨i, hi, ?_⟩
  rcases pres_or hp with ⟨z, hz⟩ | ⟨z, hz⟩
  · exact pres_tab hz
  · by_cases e : l = k ∧ 512 * j + i = c
    · rw [e.1, e.2]; exact pres_pag (updG_at _ _ _ _)
    · exact pres_pag (show updG G k c _ l _ = some z by rw [updG_ne e]; exact hz)

/-- All tables but one are used. -/
def UsedBut (F : Tabs) (G : Pags) (k c : Nat) : Prop := ∀ l j y, F l j = some y → l ≤ 3 → (l = k ∧ j = c) ∨ ∃ i, i < 512 ∧ pres F G l (512 * j + i) = true

theorem good_strike (h : Used F G) (k c : Nat) : UsedBut F (updG G k c none) k (c / 512) := by
  intro l j y hy h3
  obtain ⟨i, hi, hp⟩ := h l j y hy h3
  rcases pres_or hp with ⟨z, hz⟩ | ⟨z, hz⟩
  · exact .inr ⟨i, hi, pres_tab hz⟩
  · by_cases e : l = k ∧ 512 * j + i = c
    · exact .inl ⟨e.1, by omega⟩
    · exact .inr ⟨i, hi, pres_pag (show updG G k c none l _ = some z by rw [updG_ne e]; exact hz)⟩

theorem but_drop (I : Inv F G r n) {va k f : Nat} (h : UsedBut F G k (va / EN.sz k)) (hk1 : 1 ≤ k) (hf : F k (va / EN.sz k) = some f) : UsedBut (updF F k (va / EN.sz k) none) G (k + 1) (va / EN.sz (k + 1)) := by
  intro l j y hy h3
  by_cases e : l = k ∧ j = va / EN.sz k
  · rw [e.1, e.2, updF_at] at hy; cases hy
  · rw [updF_ne e] at hy
    rcases h l j y hy h3 with e' | ⟨i, hi, hp⟩
    · exact absurd e' e
    · rcases pres_or hp with ⟨z, hz⟩ | ⟨z, hz⟩
      · by_cases e2 : l - 1 = k ∧ 512 * j + i = va / EN.sz k
        · have := I.lev hy
          refine .inl ⟨by omega, ?_⟩
          rw [sz_mul, ← e2.2]; omega
        · exact .inr ⟨i, hi, pres_tab (show updF F k _ none (l - 1) _ = some z by rw [updF_ne e2]; exact hz)⟩
      · exact .inr ⟨i, hi, pres_pag hz⟩

/-- What prune leaves is good. -/
theorem good_prune {G : Pags} {va : Nat} {fr : Nat → Nat} {k : Nat} {F F' : Tabs} {T T' : Nat → Bool} (hP : PruneR G va fr k F T F' T') : Inv F G r n → 1 ≤ k → UsedBut F G k (va / EN.sz k) → (∀ f, f < n → T f = true → ∃ l j, F l j = some f) →
    (∀ j, k ≤ j → j ≤ 4 → F j (va / EN.sz j) = some (fr j)) → Good F' G T' n := by
  induction hP with
  | top F T => exact fun I _ h ha _ => ⟨fun l j y hy h3 => by
      rcases h l j y hy h3 with e | e
      · omega
      · exact e, ha⟩
  | stay k F T hk i hi hp => exact fun I _ h ha _ => ⟨fun l j y hy h3 => by
      rcases h l j y hy h3 with ⟨rfl, rfl⟩ | e
      · exact ⟨i, hi, hp⟩
      · exact e, ha⟩
  | drop k F F' T T' hk he hn ih =>
    intro I hk1 h ha hon
    refine ih (inv_drop I hk he) (by omega) (but_drop I h hk1 (hon k (Nat.le_refl _) (by omega))) (fun f hf ht => ?_) (fun j h1 h2 => ?_)
    · unfold FR.st at ht
      by_cases e : f = fr k
      · rw [if_pos (by omega)] at ht; cases ht
      · rw [if_neg (by omega)] at ht
        obtain ⟨l, j, hlj⟩ := ha f hf ht
        refine ⟨l, j, ?_⟩
        rw [updF_ne, hlj]
        rintro ⟨rfl, rfl⟩
        rw [hon l (Nat.le_refl _) (by omega)] at hlj
        exact e (Option.some.inj hlj).symm
    · rw [updF_ne (by omega)]
      exact hon j (by omega) h2

theorem good_unmap (I : Inv F G r n) {T : Nat → Bool} (g : Good F G T n) {va L : Nat} {fr : Nat → Nat} {F' : Tabs} {T' : Nat → Bool} (hd : Desc F va 1 L fr) (hP : PruneR (updG G L (va / EN.sz (L - 1)) none) va fr L F T F' T') :
    Good F' (updG G L (va / EN.sz (L - 1)) none) T' n := by
  have hb := good_strike g.used L (va / EN.sz (L - 1))
  rw [sz_down va L hd.l1] at hb
  exact good_prune hP (inv_strike I _ _) hd.l1 hb g.all hd.on
end
end RX

theorem good_mapR {F F' : RX.Tabs} {G G' : RX.Pags} {T T' : Nat → Bool} {r n va l f : Nat} {p c : Int} (I : RX.Inv F G r n) (g : RX.Good F G T n) (h1 : 1 ≤ l) (h : MapR F G T n va l f p c F' G' T') : RX.Good F' G' T' n := by
  cases h with
  | busy L fr hd hp => exact g
  | full L fr hd hp fs hl ht hn => exact g
  | done L fr hd hp fs hl ht => exact RX.good_map I g h1 hd hl
theorem good_unmapR {F F' : RX.Tabs} {G G' : RX.Pags} {T T' : Nat → Bool} {r n va : Nat} {c : Int} {ml : List Value} (I : RX.Inv F G r n) (g : RX.Good F G T n) (h : UnmapR F G T va c ml F' G' T') : RX.Good F' G' T' n := by
  cases h with
  | none h => exact g
  | done L f p fr F' T' hd h hP => exact RX.good_unmap I g hd hP
theorem good_protR {F : RX.Tabs} {G G' : RX.Pags} {T : Nat → Bool} {n va : Nat} {c perm : Int} (g : RX.Good F G T n) (h : ProtR G va perm c G') : RX.Good F G' T n := by
  cases h with
  | none h => exact g
  | done k f p h =>
    refine RX.good_prot g (f := f) (p := p) ?_
    unfold RX.pg at h
    cases h1 : G 1 (va / EN.sz 0) with
    | some x =>
      rw [h1] at h
      simp only [Option.some.injEq, Prod.mk.injEq] at h
      obtain ⟨rfl, rfl, rfl⟩ := h
      exact h1
    | none =>
      rw [h1] at h
      cases h2 : G 2 (va / EN.sz 1) with
      | some x =>
        rw [h2] at h
        simp only [Option.some.injEq, Prod.mk.injEq] at h
        obtain ⟨rfl, rfl, rfl⟩ := h
        exact h2
      | none => rw [h2] at h; cases h
end Go.Proofs.YtkomahekdcaiaaaGreatDoor

/- Tables that the same pages need are the same (plain). -/
namespace Go.Proofs.YtkomahekdcaiaaaGreatDoor
set_option linter.unusedVariables false
set_option linter.unusedSimpArgs false

/-- Pages say which tables there are, where each has its use. -/
theorem dom_eq {F1 F2 : RX.Tabs} {G : RX.Pags} {r n : Nat} (I1 : RX.Inv F1 G r n) (I2 : RX.Inv F2 G r n) (u1 : RX.Used F1 G) : ∀ (l j f : Nat), l ≤ 3 → F1 l j = some f → ∃ y, F2 l j = some y
  | 0, j, f, _, h => absurd (I1.lev h).1 (by omega)
  | l + 1, j, f, h3, h => by
    obtain ⟨i, hi, hp⟩ := u1 (l + 1) j f h h3
    have ej : (512 * j + i) / 512 = j := by omega
    rcases RX.pres_or hp with ⟨y, hy⟩ | ⟨y, hy⟩
    · rw [Nat.add_sub_cancel] at hy
      obtain ⟨z, hz⟩ := dom_eq I1 I2 u1 l (512 * j + i) y (by omega) hy
      have := I2.up hz (by omega)
      rw [ej] at this
      exact this
    · have := I2.way hy
      rw [ej] at this
      exact this
theorem back_F {F1 F2 F' : RX.Tabs} {G : RX.Pags} {r n : Nat} (I1 : RX.Inv F1 G r n) (I2 : RX.Inv F2 G r n) (u1 : RX.Used F1 G) (u2 : RX.Used F2 G)
    (l1 : ∀ l j f, F1 l j = some f → F' l j = some f) (l2 : ∀ l j f, F2 l j = some f → F' l j = some f) : F1 = F2 := by
  have one : ∀ {F1 F2 : RX.Tabs}, RX.Inv F1 G r n → RX.Inv F2 G r n → RX.Used F1 G → (∀ l j f, F1 l j = some f → F' l j = some f) → (∀ l j f, F2 l j = some f → F' l j = some f) → ∀ l j f, F1 l j = some f → F2 l j = some f := by
    intro F1 F2 I1 I2 u1 l1 l2 l j f h
    have hl := I1.lev h
    have hex : ∃ y, F2 l j = some y := by
      by_cases e : l = 4
      · subst e
        rw [hl.2.2.1 rfl]
        exact ⟨r, I2.root⟩
      · exact dom_eq I1 I2 u1 l j f (by omega) h
    obtain ⟨y, hy⟩ := hex
    have a := l1 l j f h
    have b := l2 l j y hy
    rw [a] at b
    rw [hy, ← Option.some.inj b]
  funext l j
  cases h : F1 l j with
  | some f => rw [one I1 I2 u1 l1 l2 l j f h]
  | none =>
    cases h2 : F2 l j with
    | none => rfl
    | some y => rw [one I2 I1 u2 l2 l1 l j y h2] at h; cases h
theorem prune_le {G : RX.Pags} {va : Nat} {fr : Nat → Nat} {k : Nat} {F F' : RX.Tabs} {T T' : Nat → Bool} (h : PruneR G va fr k F T F' T') : ∀ l j f, F' l j = some f → F l j = some f := by
  induction h with
  | top F T => exact fun l j f h => h
  | stay k F T hk i hi hp => exact fun l j f h => h
  | drop k F F' T T' hk he next ih =>
    intro l j f h
    have h2 := ih l j f h
    unfold RX.updF at h2
    split at h2
    · cases h2
    · exact h2
theorem addT_le {F : RX.Tabs} {G : RX.Pags} {r n va l L : Nat} {fr : Nat → Nat} {fs : List Nat} (I : RX.Inv F G r n) (hd : RX.Desc F va l L fr) (hl : fs.length = L - l) (h1 : 1 ≤ l) : ∀ k j f, F k j = some f → RX.addT F va L fs k j = some f := by
  intro k j f h
  have hge := hd.ge
  rw [RX.addT_ne fs F va L k j (by omega) (fun ⟨a, b, c⟩ => by
    subst c
    rw [RX.desc_below I hd k (by omega) b] at h
    cases h)]
  exact h
end Go.Proofs.YtkomahekdcaiaaaGreatDoor

/- Spaces, plain: what the frames that are taken stand for; pages lifted, tables with them. -/
namespace Go.Proofs.YtkomahekdcaiaaaGreatDoor
open Go.ChangeShapes Go.WideShapes Go.ChangeAt Go.RowKit
set_option linter.unusedVariables false
set_option linter.unusedSimpArgs false

/-- How many frames a page of a level has. -/
def fsz (l : Nat) : Nat := if l = 2 then 512 else 1
theorem fsz_lv (kind : Int) : fsz (lv (kind == 1)) = stq kind := by
  unfold fsz stq lv
  by_cases h : kind = 1
  · subst h; rfl
  · have : (kind == 1) = false := by simpa using h
    rw [this, if_neg h]; rfl
theorem fsz_pos (l : Nat) : 0 < fsz l := by unfold fsz; split <;> omega
/-- A frame is in a page. -/
def InG (G : RX.Pags) (f : Nat) : Prop := ∃ l c a p, G l c = some (a, p) ∧ a ≤ f ∧ f < a + fsz l
def InF (F : RX.Tabs) (f : Nat) : Prop := ∃ l j, F l j = some f
theorem fresh_in {n x : Nat} (h : x < n) : fresh n x = false := by
  unfold fresh FR.st
  simp
  omega
/-- What is taken is a table's or a page's, and one alone; or lies behind the pool's end. -/
structure SpI (r n : Nat) (S : TS) : Prop where
  inv : RX.Inv S.F S.G r n
  used : RX.Used S.F S.G
  ex : ∀ f, S.T f = true ↔ InF S.F f ∨ (InG S.G f ∨ fresh n f = true)
  apart : ∀ f, InF S.F f → ¬ InG S.G f
  one : ∀ l c a p l' c' a' p' f, S.G l c = some (a, p) → S.G l' c' = some (a', p') → a ≤ f → f < a + fsz l → a' ≤ f → f < a' + fsz l' → l = l' ∧ c = c'
  fit : ∀ l c a p, S.G l c = some (a, p) → a % fsz l = 0 ∧ a + fsz l ≤ n
theorem ts_ext {S S' : TS} (h1 : S.T = S'.T) (h2 : S.F = S'.F) (h3 : S.G = S'.G) : S = S' := by
  cases S; cases S'; simp only at h1 h2 h3; subst h1 h2 h3; rfl
/-- Tables and pages say what is taken. -/
theorem SpI.same {r n : Nat} {S S' : TS} (h : SpI r n S) (h' : SpI r n S') (hF : S.F = S'.F) (hG : S.G = S'.G) : S = S' := by
  refine ts_ext ?_ hF hG
  funext f
  have a := h.ex f
  have b := h'.ex f
  rw [hF, hG] at a
  have : S.T f = true ↔ S'.T f = true := a.trans b.symm
  cases e : S.T f <;> cases e' : S'.T f <;> simp [e, e'] at this ⊢
/-- Tables struck: what is taken afterwards. -/
theorem prune_T {G : RX.Pags} {va : Nat} {fr : Nat → Nat} {k : Nat} {F F' : RX.Tabs} {T T' : Nat → Bool} (hP : PruneR G va fr k F T F' T') (P : Nat → Prop) :
    (∀ l j l' j' f, F l j = some f → F l' j' = some f → l = l' ∧ j = j') → (∀ j, k ≤ j → j ≤ 4 → F j (va / EN.sz j) = some (fr j)) → (∀ f, InF F f → ¬ P f) → (∀ f, T f = true ↔ InF F f ∨ P f) → ∀ f, T' f = true ↔ InF F' f ∨ P f := by
  induction hP with
  | top F T => exact fun _ _ _ h => h
  | stay k F T hk i hi hp => exact fun _ _ _ h => h
  | drop k F F' T T' hk he next ih =>
    intro inj hon dis hT
    have hk' := hon k (Nat.le_refl _) (by omega)
    have sub : ∀ {l j f}, RX.updF F k (va / EN.sz k) none l j = some f → F l j = some f ∧ f ≠ fr k := by
      intro l j f h
      unfold RX.updF at h
      split at h
      · cases h
      · rename_i hne
        refine ⟨h, fun e => ?_⟩
        subst e
        exact hne (inj _ _ _ _ _ h hk')
    refine ih (fun l j l' j' f h1 h2 => inj l j l' j' f (sub h1).1 (sub h2).1) (fun j h1 h2 => ?_) (fun f ⟨l, j, h⟩ => dis f ⟨l, j, (sub h).1⟩) (fun f => ?_)
    · unfold RX.updF
      rw [if_neg (by omega)]
      exact hon j (by omega) h2
    · unfold FR.st
      by_cases e : f = fr k
      · subst e
        rw [if_pos (by omega)]
        constructor
        · intro h; cases h
        · rintro (⟨l, j, h⟩ | h)
          · exact absurd rfl (sub h).2
          · exact absurd h (dis _ ⟨_, _, hk'⟩)
      · rw [if_neg (by omega), hT f]
        constructor
        · rintro (⟨l, j, h⟩ | h)
          · refine .inl ⟨l, j, ?_⟩
            unfold RX.updF
            rw [if_neg]
            · exact h
            · rintro ⟨rfl, rfl⟩
              rw [hk'] at h
              exact e (Option.some.inj h).symm
          · exact .inr h
        · rintro (⟨l, j, h⟩ | h)
          · exact .inl ⟨l, j, (sub h).1⟩
          · exact .inr h
/-- A page is laid: all stays as it should. -/
theorem SpI.lay {r n va : Nat} {p kind : Int} {S S1 : TS} (h : SpI r n S) (hL : LayS n p kind va S 0 S1) (I1 : RX.Inv S1.F S1.G r n) : SpI r n S1 ∧ (∀ l j f, S.F l j = some f → S1.F l j = some f) ∧ S.G (lv (kind == 1)) (va / EN.sz (lv (kind == 1) - 1)) = none ∧ ∃ a, S1.G = RX.updG S.G (lv (kind == 1)) (va / EN.sz (lv (kind == 1) - 1)) (some (a, p)) := by
  have hlv := lv_le (kind == 1)
  rcases hL with ⟨h0, -⟩ | ⟨-, a, hlow, hr, hM, hs, hva⟩
  · exact absurd rfl h0
  obtain ⟨l, hl⟩ : ∃ l, lv (kind == 1) = l := ⟨_, rfl⟩
  have hq : fsz l = stq kind := by rw [← hl]; exact fsz_lv kind
  rw [hl] at hM hlv hs ⊢
  rw [← hq] at hlow hM
  obtain ⟨T, F, G⟩ := S
  obtain ⟨T1, F1, G1⟩ := S1
  simp only at hM I1 hlow ⊢
  have hI := h.inv
  have hU := h.used
  have hE := h.ex
  have hA := h.apart
  have hO := h.one
  have hFt := h.fit
  simp only at hI hU hE hA hO hFt
  cases hM with
  | done L fr hd hp fs hlen ht =>
    have hfree : ∀ f, a ≤ f → f < a + fsz l → T f = false := fun f h1 h2 => by
      have := hlow.2.2.1 (f - a) (by omega)
      rwa [show a + (f - a) = f by omega] at this
    have hnew : ∀ f ∈ fs, f < n ∧ T f = false ∧ ¬ (a ≤ f ∧ f < a + fsz l) := fun f hf => by
      obtain ⟨h1, h2⟩ := ht.free f hf
      unfold FR.st at h2
      by_cases e : a ≤ f ∧ f < a + fsz l
      · rw [if_pos e] at h2; cases h2
      · rw [if_neg e] at h2; exact ⟨h1, h2, e⟩
    have hG0 : G l (va / EN.sz (l - 1)) = none := by
      cases hg : G l (va / EN.sz (l - 1)) with
      | none => rfl
      | some y =>
        exfalso
        rcases Nat.lt_or_ge l L with h1 | h1
        · obtain ⟨z, hz⟩ := hI.way hg
          rw [RX.sz_down va l hlv.1, RX.desc_below hI hd l (Nat.le_refl _) h1] at hz
          cases hz
        · obtain rfl : L = l := by have := hd.ge; omega
          rw [RX.pres_pag hg] at hp
          cases hp
    have hlt : fs.length < L := by have := hd.ge; omega
    have old := addT_le hI hd hlen hlv.1
    have hInF : ∀ f, InF (RX.addT F va L fs) f ↔ InF F f ∨ f ∈ fs := fun f => by
      constructor
      · rintro ⟨k, c, hk⟩
        rcases RX.addT_inv hlt hk with ⟨-, -, -, hj, rfl⟩ | ⟨-, hk⟩
        · exact .inr (List.getElem_mem hj)
        · exact .inl ⟨k, c, hk⟩
      · rintro (⟨k, c, hk⟩ | hf)
        · exact ⟨k, c, old k c f hk⟩
        · obtain ⟨j, hj, rfl⟩ := List.getElem_of_mem hf
          exact ⟨_, _, RX.addT_at fs F va L j hj hlt⟩
    have hInG : ∀ f, InG (RX.updG G l (va / EN.sz (l - 1)) (some (a, p))) f ↔ InG G f ∨ (a ≤ f ∧ f < a + fsz l) := fun f => by
      constructor
      · rintro ⟨k, c, a', p', hk, h1, h2⟩
        unfold RX.updG at hk
        split at hk
        · rename_i he
          cases hk
          rw [he.1] at h2
          exact .inr ⟨h1, h2⟩
        · exact .inl ⟨k, c, a', p', hk, h1, h2⟩
      · rintro (⟨k, c, a', p', hk, h1, h2⟩ | ⟨h1, h2⟩)
        · refine ⟨k, c, a', p', ?_, h1, h2⟩
          unfold RX.updG
          rw [if_neg]
          · exact hk
          · rintro ⟨rfl, rfl⟩
            rw [hG0] at hk; cases hk
        · exact ⟨l, _, a, p, RX.updG_at .., h1, h2⟩
    have gd : RX.Good F G (fun _ => false) n := ⟨hU, fun f _ hf => by cases hf⟩
    have gd1 := RX.good_map (f := a) (p := p) hI gd hlv.1 hd hlen
    have old1 : ∀ {k c a' p'}, RX.updG G l (va / EN.sz (l - 1)) (some (a, p)) k c = some (a', p') → (k = l ∧ c = va / EN.sz (l - 1) ∧ a' = a) ∨ G k c = some (a', p') := fun {k c a' p'} hk => by
      unfold RX.updG at hk
      split at hk
      · rename_i he
        cases hk
        exact .inl ⟨he.1, he.2, rfl⟩
      · exact .inr hk
    have run : ∀ f, a ≤ f → f < a + fsz l → ¬ (InF F f ∨ InG G f) := fun f h1 h2 h3 => by
      have := (hE f).2 (h3.imp id .inl)
      rw [hfree f h1 h2] at this
      cases this
    refine ⟨⟨I1, gd1.used, fun f => ?_, fun f h1 h2 => ?_, fun k c a1 p1 k' c' a2 p2 f h1 h2 h3 h4 h5 h6 => ?_, fun k c a1 p1 h1 => ?_⟩, old, hG0, a, rfl⟩
    · simp only
      rw [hInF, hInG]
      unfold takeAll FR.st
      by_cases e : f ∈ fs
      · simp [e]
      · by_cases e2 : a ≤ f ∧ f < a + fsz l
        · simp [e, e2]
        · rw [if_neg e, if_neg e2, hE f]
          constructor
          · rintro (h | h | h)
            · exact .inl (.inl h)
            · exact .inr (.inl (.inl h))
            · exact .inr (.inr h)
          · rintro ((h | h) | ((h | h) | h))
            · exact .inl h
            · exact absurd h e
            · exact .inr (.inl h)
            · exact absurd h e2
            · exact .inr (.inr h)
    · rw [hInF] at h1
      rw [hInG] at h2
      rcases h1 with h1 | h1 <;> rcases h2 with h2 | h2
      · exact hA f h1 h2
      · exact run f h2.1 h2.2 (.inl h1)
      · have := (hE f).2 (.inr (.inl h2))
        rw [(hnew f h1).2.1] at this
        cases this
      · exact (hnew f h1).2.2 h2
    · rcases old1 h1 with ⟨rfl, rfl, rfl⟩ | g1 <;> rcases old1 h2 with ⟨rfl, rfl, rfl⟩ | g2
      · exact ⟨rfl, rfl⟩
      · exact absurd (.inr ⟨k', c', a2, p2, g2, h5, h6⟩) (run f h3 h4)
      · exact absurd (.inr ⟨k, c, a1, p1, g1, h3, h4⟩) (run f h5 h6)
      · exact hO k c a1 p1 k' c' a2 p2 f g1 g2 h3 h4 h5 h6
    · rcases old1 h1 with ⟨rfl, rfl, rfl⟩ | g1
      · exact ⟨hlow.1, hlow.2.1⟩
      · exact hFt k c a1 p1 g1
theorem pruneR_any {G : RX.Pags} {va : Nat} {fr : Nat → Nat} {k : Nat} {F F' : RX.Tabs} {T T' : Nat → Bool} (hP : PruneR G va fr k F T F' T') : ∀ T0, ∃ T1, PruneR G va fr k F T0 F' T1 := by
  induction hP with
  | top F T => exact fun T0 => ⟨T0, .top F T0⟩
  | stay k F T hk i hi hp => exact fun T0 => ⟨T0, .stay k F T0 hk i hi hp⟩
  | drop k F F' T T' hk he next ih =>
    intro T0
    obtain ⟨T1, h⟩ := ih (FR.st T0 (fr k) 1 false)
    exact ⟨T1, .drop k F F' T0 T1 hk he h⟩
/-- The page at an address, by its level and place. -/
theorem pg_of {F : RX.Tabs} {G : RX.Pags} {r n va l a : Nat} {p : Int} (I : RX.Inv F G r n) (hl : 1 ≤ l ∧ l ≤ 2) (hG : G l (va / EN.sz (l - 1)) = some (a, p)) : RX.pg G va = some (l, a, p) := by
  unfold RX.pg
  have hc : l = 1 ∨ l = 2 := by omega
  rcases hc with rfl | rfl
  · rw [show (1 : Nat) - 1 = 0 from rfl] at hG
    rw [hG]
  · rw [show (2 : Nat) - 1 = 1 from rfl] at hG
    have hn : G 1 (va / EN.sz 0) = none := by
      cases hh : G 1 (va / EN.sz 0) with
      | none => rfl
      | some y =>
        obtain ⟨z, hz⟩ := I.way hh
        have hap := I.apart hG
        have e : va / EN.sz 0 / 512 = va / EN.sz 1 := by rw [Nat.div_div_eq_div_mul]; rfl
        rw [e, hap] at hz
        cases hz
    rw [hn, hG]
/-- A page is lifted: all stays as it should. -/
theorem SpI.lift {g pg pb n m r b va a : Nat} {p kind : Int} {S : TS} {w : World} (h : SpI r n S) (hF : FS g pg pb n m r b S w) (hva : va < 140737488355328) (hG : S.G (lv (kind == 1)) (va / EN.sz (lv (kind == 1) - 1)) = some (a, p)) :
    ∃ S', LiftR n kind va S S' ∧ SpI r n S' ∧ S'.G = RX.updG S.G (lv (kind == 1)) (va / EN.sz (lv (kind == 1) - 1)) none ∧ (∀ l j f, S'.F l j = some f → S.F l j = some f) ∧ ∃ w', FS g pg pb n m r b S' w' := by
  have hlv := lv_le (kind == 1)
  have hrun := stq_run kind
  obtain ⟨l, hl⟩ : ∃ l, lv (kind == 1) = l := ⟨_, rfl⟩
  have hq : fsz l = stq kind := by rw [← hl]; exact fsz_lv kind
  rw [hl] at hG hlv ⊢
  have hpg := pg_of h.inv hlv hG
  obtain ⟨c, mm, F', G', T', hU⟩ := unmapR_some h.inv S.T va hva
  cases hU with
  | none h0 => rw [hpg] at h0; cases h0
  | done L f p2 fr F' T' hd h0 hP =>
    rw [hpg] at h0
    simp only [Option.some.injEq, Prod.mk.injEq] at h0
    obtain ⟨rfl, rfl, rfl⟩ := h0
    have hle := prune_le hP
    have hT' := prune_T hP (fun f => InG S.G f ∨ fresh n f = true) (fun l j l' j' f h1 h2 => h.inv.inj h1 h2) (fun j h1 h2 => hd.on j h1 h2) (fun f h1 h2 => h2.elim (h.apart f h1) (fun h3 => by
      obtain ⟨l', j, hf⟩ := h1
      rw [fresh_in (h.inv.lev hf).2.2.2] at h3
      cases h3)) h.ex
    obtain ⟨hft1, hft2⟩ := h.fit _ _ _ _ hG
    have hn2 := h.inv.n2
    have inrun : ∀ f, a ≤ f → f < a + fsz l → InG S.G f := fun f h1 h2 => ⟨l, _, a, p, hG, h1, h2⟩
    have hsub : ∀ f, InF F' f → InF S.F f := fun f ⟨k, c, hk⟩ => ⟨k, c, hle k c f hk⟩
    have hPuts : FR.Puts T' n a (stq kind : Int) 0 (FR.st T' a (fsz l) false) := .inr (.inr (.inr ⟨rfl, stq kind, rfl, hrun, by rw [← hq]; exact hft1, by rw [← hq]; exact hft2, fun i hi => (hT' (a + i)).2 (.inr (.inl (inrun _ (by omega) (by rw [hq]; omega)))), by rw [hq]⟩))
    have hTk : Tk F' (FR.st T' a (fsz l) false) := fun k c f hk => by
      unfold FR.st
      rw [if_neg (fun e => h.apart f (hsub f ⟨k, c, hk⟩) (inrun f e.1 e.2))]
      exact (hT' f).2 (.inl ⟨k, c, hk⟩)
    have hR : LiftR n kind va S ⟨FR.st T' a (fsz l) false, F', RX.updG S.G l (va / EN.sz (l - 1)) none⟩ :=
      ⟨hva, _, a, p, _, 0, T', .done l a p fr F' T' hd hpg hP, by have := fsz_pos l; omega, hPuts, hTk⟩
    obtain ⟨e, w', -, hF', -⟩ := calls_some (lift_S hF hR)
    have hI' : RX.Inv F' (RX.updG S.G l (va / EN.sz (l - 1)) none) r n := by obtain ⟨M, hM⟩ := hF'; exact hM.inv
    have old1 : ∀ {k c a' p'}, RX.updG S.G l (va / EN.sz (l - 1)) none k c = some (a', p') → ¬ (k = l ∧ c = va / EN.sz (l - 1)) ∧ S.G k c = some (a', p') := fun {k c a' p'} hk => by
      unfold RX.updG at hk
      split at hk
      · cases hk
      · rename_i he; exact ⟨he, hk⟩
    have hInG : ∀ f, InG (RX.updG S.G l (va / EN.sz (l - 1)) none) f → InG S.G f ∧ ¬ (a ≤ f ∧ f < a + fsz l) := fun f ⟨k, c, a', p', hk, h1, h2⟩ => by
      obtain ⟨h3, h4⟩ := old1 hk
      exact ⟨⟨k, c, a', p', h4, h1, h2⟩, fun h5 => h3 (h.one _ _ _ _ _ _ _ _ f h4 hG h1 h2 h5.1 h5.2)⟩
    have gd : RX.Good S.F S.G (fun _ => false) n := ⟨h.used, fun f _ hf => by cases hf⟩
    obtain ⟨T1, hP1⟩ := pruneR_any hP (fun _ => false)
    have gd1 := RX.good_unmap h.inv gd hd hP1
    refine ⟨_, hR, ⟨hI', gd1.used, fun f => ?_, fun f h1 h2 => h.apart f (hsub f h1) (hInG f h2).1, fun k c a1 p1 k' c' a2 p2 f h1 h2 => h.one k c a1 p1 k' c' a2 p2 f (old1 h1).2 (old1 h2).2, fun k c a1 p1 h1 => h.fit k c a1 p1 (old1 h1).2⟩, rfl, hle, w', hF'⟩
    simp only
    unfold FR.st
    by_cases e : a ≤ f ∧ f < a + fsz l
    · rw [if_pos e]
      constructor
      · intro h1; cases h1
      · rintro (h1 | h1 | h1)
        · exact absurd (inrun f e.1 e.2) (h.apart f (hsub f h1))
        · exact absurd e (hInG f h1).2
        · rw [fresh_in (by omega)] at h1
          cases h1
    · rw [if_neg e, hT' f]
      constructor
      · rintro (h1 | ⟨k, c, a', p', hk, h1, h2⟩ | h1)
        · exact .inl h1
        rotate_left
        · exact .inr (.inr h1)
        · refine .inr (.inl ⟨k, c, a', p', ?_, h1, h2⟩)
          unfold RX.updG
          rw [if_neg]
          · exact hk
          · rintro ⟨rfl, rfl⟩
            rw [hG] at hk
            cases hk
            exact e ⟨h1, h2⟩
      · rintro (h1 | h1 | h1)
        · exact .inl h1
        · exact .inr (.inl (hInG f h1).1)
        · exact .inr (.inr h1)
end Go.Proofs.YtkomahekdcaiaaaGreatDoor

/- Spaces, plain: what was laid page by page is taken back page by page. -/
namespace Go.Proofs.YtkomahekdcaiaaaGreatDoor
open Go.ChangeShapes Go.WideShapes Go.ChangeAt Go.RowKit
set_option linter.unusedVariables false
set_option linter.unusedSimpArgs false
open RG (Rg)

theorem sz_stp (kd : Int) : EN.sz (lv (kd == 1) - 1) = stp kd := by
  unfold lv stp EN.sz
  by_cases h : kd = 1
  · subst h; rfl
  · have : (kd == 1) = false := by simpa using h
    rw [this, if_neg h]; rfl
/-- The place of a page. -/
def cm (f : Nat) (kd : Int) (i : Nat) : Nat := (f + i * stp kd) / EN.sz (lv (kd == 1) - 1)
theorem cm_inj {f : Nat} {kd : Int} {i i' : Nat} (h : cm f kd i = cm f kd i') : i = i' := by
  have hp := stp_pos kd
  unfold cm at h
  rw [sz_stp, Nat.add_mul_div_right _ _ hp, Nat.add_mul_div_right _ _ hp] at h
  omega
theorem stF_run (f j : Nat) (kd : Int) : (stF f (f + j * stp kd) (stp kd)).length = j := by
  have hp := stp_pos kd
  rw [stF_len, Nat.add_sub_cancel_left]
  rw [show j * stp kd + stp kd - 1 = (stp kd - 1) + j * stp kd by omega, Nat.add_mul_div_right _ _ hp, Nat.div_eq_of_lt (by omega), Nat.zero_add]
/-- As far as pages are laid. -/
structure LaidTo (r n f : Nat) (p kd : Int) (Y : Nat → TS) (i : Nat) : Prop where
  sp : SpI r n (Y i)
  le : ∀ l j x, (Y 0).F l j = some x → (Y i).F l j = some x
  no : ∀ q, q < i → (Y 0).G (lv (kd == 1)) (cm f kd q) = none
  yes : ∀ q, q < i → ∃ a, (Y i).G (lv (kd == 1)) (cm f kd q) = some (a, p)
  off : ∀ k c, ¬ (k = lv (kd == 1) ∧ ∃ q, q < i ∧ c = cm f kd q) → (Y i).G k c = (Y 0).G k c
theorem laid_to {g pg pb n m r b f t j : Nat} {p kd : Int} {Y : Nat → TS} {w : World} (h0 : SpI r n (Y 0)) (hF : FS g pg pb n m r b (Y 0) w) (hj : j ≤ (stF f t (stp kd)).length)
    (hY : ∀ i va, i < j → (stF f t (stp kd))[i]? = some va → LayC g pg pb n m r b p kd va (Y i) 0 (Y (i + 1))) : ∀ i, i ≤ j → LaidTo r n f p kd Y i ∧ ∃ w', FS g pg pb n m r b (Y i) w' := by
  intro i
  induction i with
  | zero => exact fun _ => ⟨⟨h0, fun l j x h => h, fun q hq => by omega, fun q hq => by omega, fun k c _ => rfl⟩, w, hF⟩
  | succ i ih =>
    intro hi
    obtain ⟨hL, w1, hF1⟩ := ih (by omega)
    have hva := stF_at f t (stp kd) i (by omega)
    have hC := hY i _ (by omega) hva
    obtain ⟨e, w2, -, hF2, -⟩ := calls_some (hC.2 w1 hF1)
    have hI2 : RX.Inv (Y (i + 1)).F (Y (i + 1)).G r n := by obtain ⟨M, hM⟩ := hF2; exact hM.inv
    obtain ⟨h1, h2, h3, a, h4⟩ := hL.sp.lay hC.1 hI2
    have h3' : (Y i).G (lv (kd == 1)) (cm f kd i) = none := h3
    have h4' : (Y (i + 1)).G = RX.updG (Y i).G (lv (kd == 1)) (cm f kd i) (some (a, p)) := h4
    refine ⟨⟨h1, fun l j x h => h2 l j x (hL.le l j x h), fun q hq => ?_, fun q hq => ?_, fun k c hk => ?_⟩, w2, hF2⟩
    · by_cases e : q = i
      · subst e
        rw [← hL.off _ _ (fun ⟨_, q', h5, h6⟩ => by have := cm_inj h6; omega)]
        exact h3'
      · exact hL.no q (by omega)
    · rw [h4']
      by_cases e : q = i
      · subst e
        exact ⟨a, RX.updG_at ..⟩
      · obtain ⟨a', ha'⟩ := hL.yes q (by omega)
        refine ⟨a', ?_⟩
        rw [RX.updG_ne (fun h => e (cm_inj h.2))]
        exact ha'
    · rw [h4', RX.updG_ne (fun h => hk ⟨h.1, i, by omega, h.2⟩)]
      exact hL.off k c (fun ⟨h5, q, h6, h7⟩ => hk ⟨h5, q, by omega, h7⟩)
/-- They are taken back. -/
theorem vac_back {g pg pb n m r b f t j : Nat} {p kd : Int} {Y : Nat → TS} {w : World} (h0 : SpI r n (Y 0)) (hF : FS g pg pb n m r b (Y 0) w) (hf : f < 281474976710656) (hj : j ≤ (stF f t (stp kd)).length)
    (hY : ∀ i va, i < j → (stF f t (stp kd))[i]? = some va → LayC g pg pb n m r b p kd va (Y i) 0 (Y (i + 1))) : SpI r n (Y j) ∧ VacR n [⟨f, f + j * stp kd, 0, kd⟩] (Y j) (Y 0) := by
  obtain ⟨hL, wj, hFj⟩ := laid_to h0 hF hj hY j (Nat.le_refl _)
  have hvas : ∀ i, i < j → f + i * stp kd < 140737488355328 := fun i hi => by
    have hC := (hY i _ hi (stF_at f t (stp kd) i (by omega))).1
    rcases hC with ⟨hc, -⟩ | ⟨-, a, -, -, -, -, hva⟩
    · exact absurd rfl hc
    · exact hva
  have key : ∀ i, i ≤ j → ∃ Z : Nat → TS, Z 0 = Y j ∧ (∀ q, q < i → LiftR n kd (f + q * stp kd) (Z q) (Z (q + 1))) ∧ SpI r n (Z i) ∧ (∃ w', FS g pg pb n m r b (Z i) w') ∧ (∀ l c x, (Z i).F l c = some x → (Y j).F l c = some x) ∧
      (∀ q, q < i → (Z i).G (lv (kd == 1)) (cm f kd q) = none) ∧ ∀ k c, ¬ (k = lv (kd == 1) ∧ ∃ q, q < i ∧ c = cm f kd q) → (Z i).G k c = (Y j).G k c := by
    intro i
    induction i with
    | zero => exact fun _ => ⟨fun _ => Y j, rfl, fun q hq => by omega, hL.sp, ⟨wj, hFj⟩, fun l c x h => h, fun q hq => by omega, fun k c _ => rfl⟩
    | succ i ih =>
      intro hi
      obtain ⟨Z, z0, z1, z2, ⟨w1, z3⟩, z4, z5, z6⟩ := ih (by omega)
      obtain ⟨a, ha⟩ := hL.yes i (by omega)
      have hG : (Z i).G (lv (kd == 1)) ((f + i * stp kd) / EN.sz (lv (kd == 1) - 1)) = some (a, p) := by
        show (Z i).G (lv (kd == 1)) (cm f kd i) = _
        rw [z6 _ _ (fun ⟨_, q, h1, h2⟩ => by have := cm_inj h2; omega)]
        exact ha
      obtain ⟨S', hR, hS, hG', hle, w2, hF2⟩ := z2.lift z3 (hvas i (by omega)) hG
      have hG2 : S'.G = RX.updG (Z i).G (lv (kd == 1)) (cm f kd i) none := hG'
      refine ⟨fun q => if q = i + 1 then S' else Z q, ?_, fun q hq => ?_, ?_, ⟨w2, ?_⟩, fun l c x h => ?_, fun q hq => ?_, fun k c hk => ?_⟩
      · simp only
        rw [if_neg (by omega)]; exact z0
      · simp only
        by_cases e : q = i
        · subst e
          rw [if_neg (by omega), if_pos rfl]
          exact hR
        · rw [if_neg (by omega), if_neg (by omega)]
          exact z1 q (by omega)
      · simpa using hS
      · simpa using hF2
      · simp only [if_true] at h
        exact z4 l c x (hle l c x h)
      · simp only [if_true]
        rw [hG2]
        by_cases e : q = i
        · subst e; exact RX.updG_at ..
        · rw [RX.updG_ne (fun h => e (cm_inj h.2))]
          exact z5 q (by omega)
      · simp only [if_true]
        rw [hG2, RX.updG_ne (fun h => hk ⟨h.1, i, by omega, h.2⟩)]
        exact z6 k c (fun ⟨h5, q, h6, h7⟩ => hk ⟨h5, q, by omega, h7⟩)
  obtain ⟨Z, z0, z1, z2, -, z4, z5, z6⟩ := key j (Nat.le_refl _)
  have hGe : (Z j).G = (Y 0).G := by
    funext k c
    by_cases e : k = lv (kd == 1) ∧ ∃ q, q < j ∧ c = cm f kd q
    · obtain ⟨rfl, q, hq, rfl⟩ := e
      rw [z5 q hq, hL.no q hq]
    · rw [z6 k c e, hL.off k c e]
  have hI1 := z2.inv
  have hU1 := z2.used
  rw [hGe] at hI1 hU1
  have hFe : (Z j).F = (Y 0).F := back_F hI1 h0.inv hU1 h0.used z4 hL.le
  have hZ : Z j = Y 0 := z2.same h0 hFe hGe
  refine ⟨hL.sp, fun i => if i = 0 then Y j else Y 0, rfl, rfl, fun i x hx => ?_⟩
  have hi : i = 0 := by have := (List.getElem?_eq_some_iff.1 hx).1; simp at this; omega
  subst hi
  simp only [List.getElem?_cons_zero, Option.some.injEq] at hx
  subst hx
  refine ⟨?_, Z, z0, ?_, fun i va hva => ?_⟩
  · show f + j * stp kd < 281474976710656
    rcases Nat.eq_zero_or_pos j with e | e
    · subst e; simpa using hf
    · have h1 := hvas (j - 1) (by omega)
      have h2 := stp_le kd
      have h3 : j * stp kd = (j - 1) * stp kd + stp kd := by
        obtain ⟨q, rfl⟩ : ∃ q, j = q + 1 := ⟨j - 1, by omega⟩
        rw [Nat.add_sub_cancel, Nat.add_mul, Nat.one_mul]
      omega
  · show Z (stF f (f + j * stp kd) (stp kd)).length = Y 0
    rw [stF_run]; exact hZ
  · have hva : (stF f (f + j * stp kd) (stp kd))[i]? = some va := hva
    have hi : i < j := by have := (List.getElem?_eq_some_iff.1 hva).1; rwa [stF_run] at this
    have := stF_at f (f + j * stp kd) (stp kd) i (by rw [stF_run]; exact hi)
    rw [hva] at this
    cases this
    exact z1 i hi
end Go.Proofs.YtkomahekdcaiaaaGreatDoor

/- What follows of the program's answers alone: adding and cutting, in either order, in pieces. -/
namespace Go.Proofs.YtkomahekdcaiaaaGreatDoor
set_option linter.unusedVariables false
set_option linter.unusedSimpArgs false
open RG (Rg)

theorem adE_cases (l : List Rg) (r : Rg) : adE l r = 0 ∨ (adE l r = 2 ∧ adL l r = []) ∨ (adE l r = 102 ∧ adL l r = []) := by
  unfold adE adL
  by_cases h : RG.Ok true none l ∧ RG.good r
  · by_cases hp : RG.parts r.f r.t l = []
    · left; rw [if_pos h, if_pos hp]
    · right; right; rw [if_pos h, if_neg hp, if_neg (fun x => hp x.2.2)]; exact ⟨rfl, rfl⟩
  · right; left; rw [if_neg h, if_neg (fun x => h ⟨x.1, x.2.1⟩)]; exact ⟨rfl, rfl⟩
theorem adE_zero {l : List Rg} {r : Rg} (h : adE l r = 0) : RG.Ok true none l ∧ RG.good r ∧ RG.parts r.f r.t l = [] ∧ adL l r = RG.rep l r.f r.t [r] := by
  unfold adE at h
  by_cases h1 : RG.Ok true none l ∧ RG.good r
  · rw [if_pos h1] at h
    by_cases hp : RG.parts r.f r.t l = []
    · exact ⟨h1.1, h1.2, hp, by unfold adL; rw [if_pos ⟨h1.1, h1.2, hp⟩]⟩
    · rw [if_neg hp] at h; cases h
  · rw [if_neg h1] at h; cases h
theorem ok_one {r : Rg} (h : RG.good r) : RG.Ok false none [r] := ⟨⟨h, fun _ e => by cases e⟩, trivial⟩
theorem ad_rep {l : List Rg} {r : Rg} (h1 : RG.Ok true none l) (h2 : RG.good r) : RG.Ok true none (RG.rep l r.f r.t [r]) ∧ ∀ a, RG.D (RG.rep l r.f r.t [r]) a = if r.f ≤ a ∧ a < r.t then some (r.p, r.k) else RG.D l a := by
  obtain ⟨q1, q2⟩ := RG.rep_ok h1 h2.1 (ok_one h2) (fun x hx => by rw [List.mem_singleton.1 hx]; exact ⟨Nat.le_refl _, Nat.le_refl _⟩)
  refine ⟨q1, fun a => ?_⟩
  rw [q2]
  by_cases c : r.f ≤ a ∧ a < r.t
  · rw [if_pos c, if_pos c]
    simp only [RG.D]
    rw [if_pos c]
  · rw [if_neg c, if_neg c]

/-- What was added is there, alone in its range, and goes again. -/
theorem reg_back {l : List Rg} {r : Rg} (h : adE l r = 0) : ctE (adL l r) r.f r.t = 0 ∧ ctL (adL l r) r.f r.t = l ∧ ctO (adL l r) r.f r.t = [r] ∧
    ∃ (x : Rg), atV (adL l r) r.f = .tuple #[ra x, .bool true] ∧ x.p = r.p ∧ x.k = r.k := by
  obtain ⟨h1, h2, h3, h4⟩ := adE_zero h
  obtain ⟨m1, m2⟩ := ad_rep h1 h2
  rw [h4]
  have hfree := RG.parts_nil.1 h3
  have hft := h2.1.2.2.1
  refine ⟨by unfold ctE; rw [if_pos ⟨m1, h2.1⟩], ?_, ?_, ?_⟩
  · unfold ctL
    rw [if_pos ⟨m1, h2.1⟩]
    obtain ⟨n1, n2⟩ := RG.rep_ok (m := []) m1 h2.1 trivial (fun _ hx => by cases hx)
    refine RG.ok_unique _ _ none none n1 h1 (fun a => ?_)
    rw [n2]
    by_cases c : r.f ≤ a ∧ a < r.t
    · rw [if_pos c, hfree a c.1 c.2]; rfl
    · rw [if_neg c, m2, if_neg c]
  · unfold ctO
    rw [if_pos ⟨m1, h2.1⟩]
    refine RG.ok_unique _ _ none none (RG.ok_parts _ _ h2.1.1 h2.1.2.1 m1) ⟨⟨h2, fun _ e => by cases e⟩, trivial⟩ (fun a => ?_)
    rw [RG.D_parts, m2]
    simp only [RG.D]
    by_cases c : r.f ≤ a ∧ a < r.t
    · rw [if_pos c, if_pos c, if_pos c]
    · rw [if_neg c, if_neg c]
  · have hva : r.f < 140737488355328 := by have := h2.1.2.2.2; omega
    have hD := m2 r.f
    rw [if_pos ⟨Nat.le_refl _, hft⟩] at hD
    unfold atV
    rw [if_pos ⟨m1, hva⟩]
    have key : ∀ (L : List Rg), RG.D L r.f = some (r.p, r.k) → ∃ x X, RG.meeting r.f (r.f + 1) L = x :: X ∧ x.p = r.p ∧ x.k = r.k := by
      intro L
      induction L with
      | nil => intro e; cases e
      | cons y L ih =>
        intro e
        simp only [RG.D] at e
        rw [RG.meeting_cons]
        by_cases c : y.f ≤ r.f ∧ r.f < y.t
        · rw [if_pos c] at e
          rw [if_pos (show RG.meets r.f (r.f + 1) y by show max y.f r.f < min y.t (r.f + 1); omega)]
          simp only [Option.some.injEq, Prod.mk.injEq] at e
          exact ⟨y, _, rfl, e.1, e.2⟩
        · rw [if_neg c] at e
          rw [if_neg (show ¬ RG.meets r.f (r.f + 1) y by show ¬ max y.f r.f < min y.t (r.f + 1); omega)]
          exact ih e
    obtain ⟨x, X, e, e1, e2⟩ := key _ hD
    rw [e]
    exact ⟨x, rfl, e1, e2⟩

/-- In either order. -/
theorem reg_order {l : List Rg} {a b : Rg} (h1 : adE l a = 0) (h2 : adE (adL l a) b = 0) : adE l b = 0 ∧ adE (adL l b) a = 0 ∧ adL (adL l a) b = adL (adL l b) a := by
  obtain ⟨o1, g1, p1, e1⟩ := adE_zero h1
  obtain ⟨o2, g2, p2, e2⟩ := adE_zero h2
  rw [e1] at o2 p2 e2
  obtain ⟨m1, m2⟩ := ad_rep o1 g1
  have f1 := RG.parts_nil.1 p1
  have f2 := RG.parts_nil.1 p2
  have apart : ∀ x, ¬ ((a.f ≤ x ∧ x < a.t) ∧ (b.f ≤ x ∧ x < b.t)) := fun x hx => by
    have := f2 x hx.2.1 hx.2.2
    rw [m2, if_pos hx.1] at this
    cases this
  have p3 : RG.parts b.f b.t l = [] := RG.parts_nil.2 fun x hx1 hx2 => by
    have := f2 x hx1 hx2
    rwa [m2, if_neg (fun hx => apart x ⟨hx, hx1, hx2⟩)] at this
  obtain ⟨z1, z2⟩ := ad_rep o1 g2
  have e3 : adL l b = RG.rep l b.f b.t [b] := by unfold adL; rw [if_pos ⟨o1, g2, p3⟩]
  have p4 : RG.parts a.f a.t (RG.rep l b.f b.t [b]) = [] := RG.parts_nil.2 fun x hx1 hx2 => by
    rw [z2, if_neg (fun hx => apart x ⟨⟨hx1, hx2⟩, hx⟩)]
    exact f1 x hx1 hx2
  refine ⟨by unfold adE; rw [if_pos ⟨o1, g2⟩, if_pos p3], ?_, ?_⟩
  · rw [e3]
    unfold adE; rw [if_pos ⟨z1, g1⟩, if_pos p4]
  · rw [e1, e2, e3]
    unfold adL
    rw [if_pos ⟨z1, g1, p4⟩]
    obtain ⟨y1, y2⟩ := ad_rep m1 g2
    obtain ⟨w1, w2⟩ := ad_rep z1 g1
    refine RG.ok_unique _ _ none none y1 w1 (fun x => ?_)
    rw [y2, w2, m2, z2]
    have := apart x
    by_cases c1 : a.f ≤ x ∧ x < a.t
    · rw [if_neg (fun c2 => this ⟨c1, c2⟩), if_pos c1, if_pos c1]
    · rw [if_neg c1, if_neg c1]

theorem ctE_zero {l : List Rg} {lo hi : Nat} (h : ctE l lo hi = 0) : RG.Ok true none l ∧ RG.isRange lo hi ∧ ctL l lo hi = RG.rep l lo hi [] ∧ ctO l lo hi = RG.parts lo hi l := by
  unfold ctE at h
  by_cases h1 : RG.Ok true none l ∧ RG.isRange lo hi
  · exact ⟨h1.1, h1.2, by unfold ctL; rw [if_pos h1], by unfold ctO; rw [if_pos h1]⟩
  · rw [if_neg h1] at h; cases h
theorem ctE_cases (l : List Rg) (lo hi : Nat) : ctE l lo hi = 0 ∨ ctE l lo hi = 2 := by
  unfold ctE
  split
  · exact .inl rfl
  · exact .inr rfl
theorem ctO_ok (l : List Rg) (lo hi : Nat) : RG.Ok true none (ctO l lo hi) := by
  unfold ctO
  split
  · rename_i h; exact RG.ok_parts lo hi h.2.1 h.2.2.1 h.1
  · trivial
/-- In two pieces, or at once. -/
theorem reg_pieces {l : List Rg} {x y z : Nat} (h1 : ctE l x z = 0) (h2 : ctE l x y = 0) (h3 : ctE (ctL l x y) y z = 0) :
    ctL l x z = ctL (ctL l x y) y z ∧ RG.Sz (ctO l x z) = RG.Sz (ctO l x y) + RG.Sz (ctO (ctL l x y) y z) := by
  obtain ⟨o1, r1, e1, q1⟩ := ctE_zero h1
  obtain ⟨o2, r2, e2, q2⟩ := ctE_zero h2
  obtain ⟨o3, r3, e3, q3⟩ := ctE_zero h3
  rw [e2] at o3 e3 q3
  have hxy := r2.2.2.1
  have hyz := r3.2.2.1
  obtain ⟨a1, a2⟩ := RG.rep_ok (m := []) o1 r1 trivial (fun _ hx => by cases hx)
  obtain ⟨b1, b2⟩ := RG.rep_ok (m := []) o1 r2 trivial (fun _ hx => by cases hx)
  obtain ⟨c1, c2⟩ := RG.rep_ok (m := []) o3 r3 trivial (fun _ hx => by cases hx)
  have hp : RG.parts y z (RG.rep l x y []) = RG.parts y z l := by
    refine RG.ok_unique _ _ none none (RG.ok_parts y z r3.1 r3.2.1 o3) (RG.ok_parts y z r3.1 r3.2.1 o1) (fun a => ?_)
    rw [RG.D_parts, RG.D_parts]
    by_cases c : y ≤ a ∧ a < z
    · rw [if_pos c, if_pos c, b2, if_neg (by omega)]
    · rw [if_neg c, if_neg c]
  refine ⟨?_, ?_⟩
  · rw [e1, e2, e3]
    refine RG.ok_unique _ _ none none a1 c1 (fun a => ?_)
    rw [a2, c2, b2]
    by_cases c : x ≤ a ∧ a < y
    · rw [if_pos (by omega), if_neg (by omega), if_pos c]
    · by_cases d : y ≤ a ∧ a < z
      · rw [if_pos (by omega), if_pos d]
      · rw [if_neg (by omega), if_neg d, if_neg c]
  · rw [q1, q2, e2, q3, hp]
    exact RG.Sz_parts x y z (by omega) (by omega) l
end Go.Proofs.YtkomahekdcaiaaaGreatDoor

/- The program's own Gap: a round of its loop. -/
namespace Go.Proofs.YtkomahekdcaiaaaGreatDoor
open Go.ChangeShapes Go.WideShapes Go.ChangeAt Go.RowKit Go.Shelf
open SQ
set_option linter.unusedVariables false
set_option linter.unusedSimpArgs false
attribute [local go_sem] Oper.semAt_some
open RG (Rg)

/-- A round goes on with the next place, or leaves, the place as it was. -/
def gapPost (m q a sz st : Nat) (x : Rg) (V : World) : Exit → Act → World → Prop
  | .normal, _, W' => ¬ RG.fits a x.f sz ∧ Kq m q V W' ∧ Blk W' q 36 [.int .u64 ((RG.up x.t st : Nat) : Int)]
  | .exit id, _, W' => id = 1 ∧ RG.fits a x.f sz ∧ W' = V
  | _, _, _ => False

set_option maxRecDepth 100000 in
set_option maxHeartbeats 8000000 in
theorem gap_body (c : Code) (hcode : Tryz.f53.body.bind rfBody = some c) (lq m q a sz st b8 b9 bx : Nat) (V : World) (f t : Nat) (p s : Int)
    (u0 u1 u2 u3 u4 u5 u6 u7 u10 u11 u14 u15 u16 u17 u18 u19 u20 u21 u22 u23 u24 u25 u26 u27 u28 u29 u30 u31 u32 u33 u34 u35 u36 u37 u38 u39 u40 u41 u42 u43 u44 u45 u46 u47 u48 u49 u50 u51 u52 u53 u54 u56 u57 u58 u59 u60 u61 u62 u63 u64 u65 u66 u67 u68 u69 u70 : Value)
    (hQ : Blk V q 36 [.int .u64 (a : Int)]) (h8 : Blk V b8 36 [.int .u64 (sz : Int)]) (h9 : Blk V b9 36 [.int .u64 (st : Int)]) (hX : RB V bx ⟨f, t, p, s⟩) (hmV : m ≤ V.heap.size)
    (ha : a < 18446744073709551616) (hf : f < 18446744073709551616) (ht : t ≤ 140737488355328) (hst : 0 < st) (hst2 : st ≤ 2097152) :
    c.wpIn (Fence.wide.inRound lq) 0 Tryz.prog (gapPost m q a sz st ⟨f, t, p, s⟩ V) { tmps := #[u0, u1, u2, u3, u4, u5, u6, u7, .pointer (some ⟨b8, 0, none⟩), .pointer (some ⟨b9, 0, none⟩), u10, u11, .pointer (some ⟨q, 0, none⟩), .pointer (some ⟨bx, 0, none⟩), u14, u15, u16, u17, u18, u19, u20, u21, u22, u23, u24, u25, u26, u27, u28, u29, u30, u31, u32, u33, u34, u35, u36, u37, u38, u39, u40, u41, u42, u43, u44, u45, u46, u47, u48, u49, u50, u51, u52, u53, u54, .agg #[.int .u64 (f : Int), .int .u64 (t : Int), .int .i64 p, .int .i64 s], u56, u57, u58, u59, u60, u61, u62, u63, u64, u65, u66, u67, u68, u69, u70], defers := [] } V := by
  obtain ⟨x0, x1, x2, x3⟩ := hX.re
  have c8 := h8.cell (j := 0) rfl
  have c9 := h9.cell (j := 0) rfl
  have cq := hQ.cell (j := 0) rfl
  have fq := hQ.fz 0
  have hF := W_hid (fun w => fits_any a f sz w ha hf)
  simp only [Tryz.f53, rfBody, Option.bind_some, Option.or, Option.some.injEq] at hcode
  by_cases hfit : RG.fits a f sz
  · rw [decide_eq_true hfit] at hF
    subst hcode
    gi_wp2
    refine ⟨trivial, rfl, ?_⟩
    refine (CallsIn.inRound lq (fit_wide (hF.out _))).mono ?_
    rintro e w2 ⟨rfl, rfl⟩
    gi_wp2
    exact ⟨rfl, hfit, rfl⟩
  · rw [decide_eq_false hfit] at hF
    have hU := W_hid (fun w => up_any t st w ht hst hst2)
    have hnf := W_hid hfit
    obtain ⟨z, hz⟩ : ∃ z : Nat, RG.up t st = z := ⟨_, rfl⟩
    have hz' := W_hid hz
    rw [hz] at hU
    have hkq := W_hid ((Kq.refl q hmV).setq (v := .int .u64 (z : Int)) cq (fun g hg => by cases hg))
    have hQ2 := W_hid (hQ.set 0 (.int .u64 (z : Int)))
    clear hz hfit
    subst hcode
    gi_wp2
    refine ⟨trivial, rfl, ?_⟩
    refine (CallsIn.inRound lq (fit_wide (hF.out _))).mono ?_
    rintro e w2 ⟨rfl, rfl⟩
    gi_wp2
    refine ⟨trivial, rfl, ?_⟩
    refine (CallsIn.inRound lq (fit_wide (hU.out _))).mono ?_
    rintro e w3 ⟨rfl, rfl⟩
    gi_wp2
    refine ⟨hnf.out, hkq.out, ?_⟩
    show Blk _ q _ [.int .u64 ((RG.up t st : Nat) : Int)]
    rw [hz'.out]
    exact hQ2.out

/-- The activation in a round of Gap's loop. -/
def GapAct (b8 b9 q bx : Nat) (x : Rg) (a : Act) : Prop := ∃ u0 u1 u2 u3 u4 u5 u6 u7 u10 u11 u14 u15 u16 u17 u18 u19 u20 u21 u22 u23 u24 u25 u26 u27 u28 u29 u30 u31 u32 u33 u34 u35 u36 u37 u38 u39 u40 u41 u42 u43 u44 u45 u46 u47 u48 u49 u50 u51 u52 u53 u54 u56 u57 u58 u59 u60 u61 u62 u63 u64 u65 u66 u67 u68 u69 u70 : Value, a = { tmps := #[u0, u1, u2, u3, u4, u5, u6, u7, .pointer (some ⟨b8, 0, none⟩), .pointer (some ⟨b9, 0, none⟩), u10, u11, .pointer (some ⟨q, 0, none⟩), .pointer (some ⟨bx, 0, none⟩), u14, u15, u16, u17, u18, u19, u20, u21, u22, u23, u24, u25, u26, u27, u28, u29, u30, u31, u32, u33, u34, u35, u36, u37, u38, u39, u40, u41, u42, u43, u44, u45, u46, u47, u48, u49, u50, u51, u52, u53, u54, ra x, u56, u57, u58, u59, u60, u61, u62, u63, u64, u65, u66, u67, u68, u69, u70], defers := [] }
theorem gap_round (c : Code) (hcode : Tryz.f53.body.bind rfBody = some c) (lq m q a sz st b8 b9 bx : Nat) (V : World) (x : Rg) (a' : Act) (hact : GapAct b8 b9 q bx x a')
    (hQ : Blk V q 36 [.int .u64 (a : Int)]) (h8 : Blk V b8 36 [.int .u64 (sz : Int)]) (h9 : Blk V b9 36 [.int .u64 (st : Int)]) (hX : RB V bx x) (hmV : m ≤ V.heap.size)
    (ha : a < 18446744073709551616) (hg : RG.good x) (hst : 0 < st) (hst2 : st ≤ 2097152) :
    c.wpIn (Fence.wide.inRound lq) 0 Tryz.prog (gapPost m q a sz st x V) a' V := by
  obtain ⟨u0, u1, u2, u3, u4, u5, u6, u7, u10, u11, u14, u15, u16, u17, u18, u19, u20, u21, u22, u23, u24, u25, u26, u27, u28, u29, u30, u31, u32, u33, u34, u35, u36, u37, u38, u39, u40, u41, u42, u43, u44, u45, u46, u47, u48, u49, u50, u51, u52, u53, u54, u56, u57, u58, u59, u60, u61, u62, u63, u64, u65, u66, u67, u68, u69, u70, rfl⟩ := hact
  obtain ⟨f, t, p, s⟩ := x
  obtain ⟨⟨g1, g2, g3, g4⟩, _⟩ := hg
  simp only at g1 g2 g3 g4
  exact gap_body c hcode lq m q a sz st b8 b9 bx V f t p s _ _ _ _ _ _ _ _ _ _ _ _ _ _ _ _ _ _ _ _ _ _ _ _ _ _ _ _ _ _ _ _ _ _ _ _ _ _ _ _ _ _ _ _ _ _ _ _ _ _ _ _ _ _ _ _ _ _ _ _ _ _ _ _ _ _ hQ h8 h9 hX hmV ha (by omega) g4 hst hst2
end Go.Proofs.YtkomahekdcaiaaaGreatDoor

namespace Go.Proofs.YtkomahekdcaiaaaGreatDoor
open Go.ChangeShapes Go.WideShapes Go.ChangeAt Go.RowKit Go.Shelf
open SQ
set_option linter.unusedVariables false
set_option linter.unusedSimpArgs false
attribute [local go_sem] Oper.semAt_some
open RG (Rg)

/-- Are the arguments sound? -/
def gpOk (l : List Rg) (lo hi sz st : Nat) : Prop := RG.Ok true none l ∧ (st = 4096 ∨ st = 2097152) ∧ lo % st = 0 ∧ sz % st = 0 ∧ sz ≠ 0 ∧ lo ≤ hi ∧ hi ≤ 140737488355328
noncomputable instance (l : List Rg) (lo hi sz st : Nat) : Decidable (gpOk l lo hi sz st) := Classical.propDecidable _
noncomputable def gpV (l : List Rg) (lo hi sz st : Nat) : Nat := if gpOk l lo hi sz st then (RG.gq sz hi (RG.gp st sz lo (RG.meeting lo hi l))).getD 0 else 0
noncomputable def gpE (l : List Rg) (lo hi sz st : Nat) : Int := if gpOk l lo hi sz st then (if (RG.gq sz hi (RG.gp st sz lo (RG.meeting lo hi l))).isSome then 0 else 24) else 2
theorem gp_bound {st sz : Nat} (hst : 0 < st) (hst2 : st ≤ 2097152) : ∀ (L : List Rg) (a : Nat), (∀ r ∈ L, RG.good r) → a ≤ 140737490452480 → RG.gp st sz a L ≤ 140737490452480
  | [], a, _, h => h
  | r :: L, a, hg, h => by
    simp only [RG.gp]
    split
    · exact h
    · refine gp_bound hst hst2 L _ (fun z hz => hg z (by simp [hz])) ?_
      have h1 := (hg r (by simp)).1.2.2.2
      rw [RG.up_eq hst]
      split <;> omega

set_option maxRecDepth 100000 in
set_option maxHeartbeats 8000000 in
theorem Gap_any (ao : Option Addr) (n cap : Nat) (l : List Rg) (lo hi sz st : Nat) (w : World) (h : GL w ao n cap l) (hlo : lo < 18446744073709551616) (hhi : hi < 18446744073709551616) :
    Gv 53 #[.slice ao n cap, .int .u64 (lo : Int), .int .u64 (hi : Int), .int .u64 (sz : Int), .int .u64 (st : Int)] (.tuple #[.int .u64 ((gpV l lo hi sz st : Nat) : Int), .int .i64 (gpE l lo hi sz st)]) w := by
  refine wide_fit ?_
  obtain ⟨LO, hLO⟩ : ∃ x : Int, x = lo := ⟨_, rfl⟩
  obtain ⟨HI, hHI⟩ : ∃ x : Int, x = hi := ⟨_, rfl⟩
  obtain ⟨SZ, hSZ⟩ : ∃ x : Int, x = sz := ⟨_, rfl⟩
  obtain ⟨ST, hST⟩ : ∃ x : Int, x = st := ⟨_, rfl⟩
  rw [← hLO, ← hHI, ← hSZ, ← hST]
  obtain ⟨w0, hw0⟩ : ∃ w0, (w.alloc (.cells #[.int .u64 SZ] 36)).alloc (.cells #[.int .u64 ST] 36) = w0 := ⟨_, rfl⟩
  have bb : Below w.heap.size w w0 := by rw [← hw0]; exact ((Below.refl _ _).alloc (Nat.le_refl _) _).alloc (by simp) _
  have h80 : Blk w0 w.heap.size 36 [.int .u64 SZ] := by rw [← hw0]; exact (Blk.new _ _ [.int .u64 SZ] rfl).alloc _
  have h90 : Blk w0 (w.heap.size + 1) 36 [.int .u64 ST] := by rw [← hw0]; exact Blk.new _ _ [.int .u64 ST] (by simp)
  have hs0 : Hid (w0.heap.size = w.heap.size + 2) := by show _ = _; rw [← hw0]; simp
  have c8 := h80.cell (j := 0) rfl
  have c9 := h90.cell (j := 0) rfl
  have hL := W_hid (h.keep bb)
  have hV := valid_any ao n cap l _ hL.out.1
  have hl0 : 0 ≤ LO ∧ LO ≤ 18446744073709551615 := by omega
  have hh0 : 0 ≤ HI ∧ HI ≤ 18446744073709551615 := by omega
  replace hLO := W_hid hLO
  replace hHI := W_hid hHI
  replace hSZ := W_hid hSZ
  replace hST := W_hid hST
  by_cases hok : RG.Ok true none l
  · rw [decide_eq_true hok] at hV
    replace hV := W_hid hV
    by_cases hs : st = 4096 ∨ st = 2097152
    · have hst : 0 < st := by omega
      have hst2 : st ≤ 2097152 := by omega
      obtain ⟨m, hm⟩ : ∃ m, LO.tmod ST = m := ⟨_, rfl⟩
      obtain ⟨k, hk⟩ : ∃ k, SZ.tmod ST = k := ⟨_, rfl⟩
      have hm' : Hid (m = 0 ↔ lo % st = 0) := by
        show _ ↔ _
        rw [← hm, hLO.out, hST.out, show (lo : Int).tmod (st : Int) = ((lo % st : Nat) : Int) from rfl]
        omega
      have hk' : Hid (k = 0 ↔ sz % st = 0) := by
        show _ ↔ _
        rw [← hk, hSZ.out, hST.out, show (sz : Int).tmod (st : Int) = ((sz % st : Nat) : Int) from rfl]
        omega
      have hs' : ST = 4096 ∨ ST = 2097152 := by
        rcases hs with hs | hs
        · left; rw [hST.out, hs]; rfl
        · right; rw [hST.out, hs]; rfl
      have hs9 : Hid (st = 4096 ∨ st = 2097152) := hs
      clear hs
      have hr := W_hid hs'
      clear hs'
      by_cases h1 : m = 0
      · by_cases h2 : k = 0
        · by_cases h3 : SZ = 0
          · have hE : Hid (gpE l lo hi sz st = 2 ∧ gpV l lo hi sz st = 0) := by
              show _ ∧ _
              unfold gpE gpV
              rw [if_neg (fun h => h.2.2.2.2.1 (by have := hSZ.out; omega)), if_neg (fun h => h.2.2.2.2.1 (by have := hSZ.out; omega))]
              exact ⟨rfl, rfl⟩
            rw [hE.out.1, hE.out.2]
            have g3 : (SZ == 0) = true := by simpa using h3
            have g3' := W_hid h3
            clear h3
            rcases hr.out with rfl | rfl
            · refine callsIn_of_wp_marks Tryz.func53 rfl trivial ?_ rfl
              simp only [Tryz.ntmps53, List.size_toArray, List.length_cons, List.length_nil, Nat.reduceAdd, Nat.reduceSub, Array.replicate_succ, Array.replicate_zero, List.push_toArray, List.append_toArray, List.nil_append, List.cons_append]
              gi_wp2
              refine ⟨trivial, rfl, ?_⟩
              refine (fit_wide hV.out).mono ?_
              rintro e w1 ⟨rfl, bel1⟩
              have h81 := h80.keep bel1
              have h91 := h90.keep bel1
              have c8 := h81.cell (j := 0) rfl
              have c9 := h91.cell (j := 0) rfl
              replace hL := W_hid (hL.out.keep bel1)
              replace bb := bb.trans (bel1.mono bb.size)
              have hs1 := W_hid (Nat.le_trans (Nat.le_of_eq hs0.out.symm) bel1.size)
              clear bel1 hw0 h80 h90
              gi_wp2
              exact ⟨_, results_tmp2 rfl _ _ _, rfl, bb⟩
            · refine callsIn_of_wp_marks Tryz.func53 rfl trivial ?_ rfl
              simp only [Tryz.ntmps53, List.size_toArray, List.length_cons, List.length_nil, Nat.reduceAdd, Nat.reduceSub, Array.replicate_succ, Array.replicate_zero, List.push_toArray, List.append_toArray, List.nil_append, List.cons_append]
              gi_wp2
              refine ⟨trivial, rfl, ?_⟩
              refine (fit_wide hV.out).mono ?_
              rintro e w1 ⟨rfl, bel1⟩
              have h81 := h80.keep bel1
              have h91 := h90.keep bel1
              have c8 := h81.cell (j := 0) rfl
              have c9 := h91.cell (j := 0) rfl
              replace hL := W_hid (hL.out.keep bel1)
              replace bb := bb.trans (bel1.mono bb.size)
              have hs1 := W_hid (Nat.le_trans (Nat.le_of_eq hs0.out.symm) bel1.size)
              clear bel1 hw0 h80 h90
              gi_wp2
              exact ⟨_, results_tmp2 rfl _ _ _, rfl, bb⟩
          · have g3 : (SZ == 0) = false := by simpa using h3
            by_cases h4 : HI < LO
            · have hE : Hid (gpE l lo hi sz st = 2 ∧ gpV l lo hi sz st = 0) := by
                show _ ∧ _
                unfold gpE gpV
                rw [if_neg (fun h => by have := h.2.2.2.2.2.1; have := hLO.out; have := hHI.out; omega), if_neg (fun h => by have := h.2.2.2.2.2.1; have := hLO.out; have := hHI.out; omega)]
                exact ⟨rfl, rfl⟩
              rw [hE.out.1, hE.out.2]
              rcases hr.out with rfl | rfl
              · refine callsIn_of_wp_marks Tryz.func53 rfl trivial ?_ rfl
                simp only [Tryz.ntmps53, List.size_toArray, List.length_cons, List.length_nil, Nat.reduceAdd, Nat.reduceSub, Array.replicate_succ, Array.replicate_zero, List.push_toArray, List.append_toArray, List.nil_append, List.cons_append]
                gi_wp2
                refine ⟨trivial, rfl, ?_⟩
                refine (fit_wide hV.out).mono ?_
                rintro e w1 ⟨rfl, bel1⟩
                have h81 := h80.keep bel1
                have h91 := h90.keep bel1
                have c8 := h81.cell (j := 0) rfl
                have c9 := h91.cell (j := 0) rfl
                replace hL := W_hid (hL.out.keep bel1)
                replace bb := bb.trans (bel1.mono bb.size)
                have hs1 := W_hid (Nat.le_trans (Nat.le_of_eq hs0.out.symm) bel1.size)
                clear bel1 hw0 h80 h90
                gi_wp2
                exact ⟨_, results_tmp2 rfl _ _ _, rfl, bb⟩
              · refine callsIn_of_wp_marks Tryz.func53 rfl trivial ?_ rfl
                simp only [Tryz.ntmps53, List.size_toArray, List.length_cons, List.length_nil, Nat.reduceAdd, Nat.reduceSub, Array.replicate_succ, Array.replicate_zero, List.push_toArray, List.append_toArray, List.nil_append, List.cons_append]
                gi_wp2
                refine ⟨trivial, rfl, ?_⟩
                refine (fit_wide hV.out).mono ?_
                rintro e w1 ⟨rfl, bel1⟩
                have h81 := h80.keep bel1
                have h91 := h90.keep bel1
                have c8 := h81.cell (j := 0) rfl
                have c9 := h91.cell (j := 0) rfl
                replace hL := W_hid (hL.out.keep bel1)
                replace bb := bb.trans (bel1.mono bb.size)
                have hs1 := W_hid (Nat.le_trans (Nat.le_of_eq hs0.out.symm) bel1.size)
                clear bel1 hw0 h80 h90
                gi_wp2
                exact ⟨_, results_tmp2 rfl _ _ _, rfl, bb⟩
            · by_cases h5 : 140737488355328 < HI
              · have hE : Hid (gpE l lo hi sz st = 2 ∧ gpV l lo hi sz st = 0) := by
                  show _ ∧ _
                  unfold gpE gpV
                  rw [if_neg (fun h => by have := h.2.2.2.2.2.2; have := hHI.out; omega), if_neg (fun h => by have := h.2.2.2.2.2.2; have := hHI.out; omega)]
                  exact ⟨rfl, rfl⟩
                rw [hE.out.1, hE.out.2]
                rcases hr.out with rfl | rfl
                · refine callsIn_of_wp_marks Tryz.func53 rfl trivial ?_ rfl
                  simp only [Tryz.ntmps53, List.size_toArray, List.length_cons, List.length_nil, Nat.reduceAdd, Nat.reduceSub, Array.replicate_succ, Array.replicate_zero, List.push_toArray, List.append_toArray, List.nil_append, List.cons_append]
                  gi_wp2
                  refine ⟨trivial, rfl, ?_⟩
                  refine (fit_wide hV.out).mono ?_
                  rintro e w1 ⟨rfl, bel1⟩
                  have h81 := h80.keep bel1
                  have h91 := h90.keep bel1
                  have c8 := h81.cell (j := 0) rfl
                  have c9 := h91.cell (j := 0) rfl
                  replace hL := W_hid (hL.out.keep bel1)
                  replace bb := bb.trans (bel1.mono bb.size)
                  have hs1 := W_hid (Nat.le_trans (Nat.le_of_eq hs0.out.symm) bel1.size)
                  clear bel1 hw0 h80 h90
                  gi_wp2
                  exact ⟨_, results_tmp2 rfl _ _ _, rfl, bb⟩
                · refine callsIn_of_wp_marks Tryz.func53 rfl trivial ?_ rfl
                  simp only [Tryz.ntmps53, List.size_toArray, List.length_cons, List.length_nil, Nat.reduceAdd, Nat.reduceSub, Array.replicate_succ, Array.replicate_zero, List.push_toArray, List.append_toArray, List.nil_append, List.cons_append]
                  gi_wp2
                  refine ⟨trivial, rfl, ?_⟩
                  refine (fit_wide hV.out).mono ?_
                  rintro e w1 ⟨rfl, bel1⟩
                  have h81 := h80.keep bel1
                  have h91 := h90.keep bel1
                  have c8 := h81.cell (j := 0) rfl
                  have c9 := h91.cell (j := 0) rfl
                  replace hL := W_hid (hL.out.keep bel1)
                  replace bb := bb.trans (bel1.mono bb.size)
                  have hs1 := W_hid (Nat.le_trans (Nat.le_of_eq hs0.out.symm) bel1.size)
                  clear bel1 hw0 h80 h90
                  gi_wp2
                  exact ⟨_, results_tmp2 rfl _ _ _, rfl, bb⟩
              · have hgp : Hid (gpOk l lo hi sz st) := ⟨hok, hs9.out, hm'.out.1 h1, hk'.out.1 h2, by have := hSZ.out; omega, by have := hLO.out; have := hHI.out; omega, by have := hHI.out; omega⟩
                have hE : Hid (gpV l lo hi sz st = (RG.gq sz hi (RG.gp st sz lo (RG.meeting lo hi l))).getD 0 ∧ gpE l lo hi sz st = if (RG.gq sz hi (RG.gp st sz lo (RG.meeting lo hi l))).isSome then 0 else 24) := by
                  show _ ∧ _
                  unfold gpV gpE
                  rw [if_pos hgp.out, if_pos hgp.out]
                  exact ⟨rfl, rfl⟩
                have hgood : Hid (∀ r ∈ RG.meeting lo hi l, RG.good r) := fun r hr => hok.good_of r (List.mem_filter.1 hr).1
                have hMk := W_hid (fun w => meeting_any ao n cap lo hi w)
                rw [← hLO.out, ← hHI.out] at hMk
                have hml : Hid (∀ w, GL w ao n cap l → ML ao n cap l lo hi w.heap.size (w.heap.size + 1) (w.heap.size + 1 + 1) (((w.alloc (.cells #[.slice ao n cap] 41)).alloc (.cells #[.int .u64 LO] 36)).alloc (.cells #[.int .u64 HI] 36))) := by
                  intro w h
                  rw [hLO.out, hHI.out]
                  exact ML.made lo hi h.1 h.2
                rw [hE.out.1, hE.out.2]
                have hG := fun q b1 b2 b3 => meet_gives q ao n cap l lo hi b1 b2 b3
                generalize RG.meeting lo hi l = X at *
                obtain ⟨VV, hVV⟩ : ∃ v, (RG.gq sz hi (RG.gp st sz lo X)).getD 0 = v := ⟨_, rfl⟩
                obtain ⟨EE, hEE⟩ : ∃ e : Int, (if (RG.gq sz hi (RG.gp st sz lo X)).isSome then (0 : Int) else 24) = e := ⟨_, rfl⟩
                rw [hVV, hEE]
                replace hVV := W_hid hVV
                replace hEE := W_hid hEE
                have hlob : Hid (lo ≤ 140737488355328) := by show _ ≤ _; have := hLO.out; have := hHI.out; omega
                have ha0 : Hid (∀ a, a = w.heap.size → True) := fun _ _ => trivial
                clear hgp hE ha0
                have hblk : Hid (∀ a, ao = some a → 0 < n → a.block < w.heap.size) := h.2
                clear h
                have h1' := W_hid h1
                have h3' := W_hid h3
                clear h3
                have h4' : ¬ HI < LO := h4
                have h5' : ¬ 140737488355328 < HI := h5
                rcases hr.out with rfl | rfl
                · refine callsIn_of_wp_marks Tryz.func53 rfl trivial ?_ rfl
                  simp only [Tryz.ntmps53, List.size_toArray, List.length_cons, List.length_nil, Nat.reduceAdd, Nat.reduceSub, Array.replicate_succ, Array.replicate_zero, List.push_toArray, List.append_toArray, List.nil_append, List.cons_append]
                  gi_wp2
                  refine ⟨trivial, rfl, ?_⟩
                  refine (fit_wide hV.out).mono ?_
                  rintro e w1 ⟨rfl, bel1⟩
                  have h81 := h80.keep bel1
                  have h91 := h90.keep bel1
                  have c8 := h81.cell (j := 0) rfl
                  have c9 := h91.cell (j := 0) rfl
                  replace hL := W_hid (hL.out.keep bel1)
                  replace bb := bb.trans (bel1.mono bb.size)
                  have hs1 := W_hid (Nat.le_trans (Nat.le_of_eq hs0.out.symm) bel1.size)
                  clear bel1 hw0 h80 h90
                  gi_wp2
                  have hQ2 : Blk (w1.alloc (.cells #[.int .u64 LO] 36)) w1.heap.size 36 [.int .u64 (lo : Int)] := by rw [hLO.out]; exact Blk.new _ _ [.int .u64 (lo : Int)] rfl
                  obtain ⟨w2, hw2⟩ : ∃ w2, w1.alloc (.cells #[.int .u64 LO] 36) = w2 := ⟨_, rfl⟩
                  have bel2 : Below w1.heap.size w1 w2 := by rw [← hw2]; exact (Below.refl _ _).alloc (Nat.le_refl _) _
                  have hs2 : Hid (w2.heap.size = w1.heap.size + 1) := by show _ = _; rw [← hw2]; simp
                  rw [hw2] at hQ2
                  have h82 := h81.keep bel2
                  have h92 := h91.keep bel2
                  replace hL := W_hid (hL.out.keep bel2)
                  have hm2 := hml.out _ hL.out
                  obtain ⟨w3, hw3⟩ : ∃ w3, ((w2.alloc (.cells #[.slice ao n cap] 41)).alloc (.cells #[.int .u64 LO] 36)).alloc (.cells #[.int .u64 HI] 36) = w3 := ⟨_, rfl⟩
                  have bel3 : Below w2.heap.size w2 w3 := by rw [← hw3]; exact (((Below.refl _ _).alloc (Nat.le_refl _) _).alloc (by simp) _).alloc (by simp; omega) _
                  rw [hw3] at hm2
                  have h83 := h82.keep bel3
                  have h93 := h92.keep bel3
                  have hQ3 := hQ2.keep bel3
                  have b13 := bb.size
                  have b23 := bel2.size
                  have b33 := bel3.size
                  have hB3 : Below w.heap.size w w3 := (bb.trans (bel2.mono bb.size)).trans (bel3.mono (by omega))
                  have hM := hm2.ma (q := w1.heap.size) (by have := hs2.out; omega) (by have := hs2.out; omega) (by have := hs2.out; omega) (fun a e e' => by have := hblk.out a e e'; omega) (rowOf_blk hQ3)
                  have hord := W_hid (show w.heap.size + 2 ≤ w1.heap.size ∧ w1.heap.size + 1 ≤ w3.heap.size from ⟨hs1.out, by have := hs2.out; omega⟩)
                  rw [hw2]
                  refine ⟨trivial, rfl, ?_⟩
                  refine (fit_wide (hMk.out _)).mono ?_
                  rintro e w3' ⟨rfl, rfl⟩
                  rw [hw3]
                  gi_wp2
                  clear hw2 hw3 hs2 b13 b23 b33 bel2 bel3 hQ2 h82 h92 h81 h91 c8 c9
                  refine range_gives (gf := 135) rfl enters_meet (hG w1.heap.size _ _ _) hM (fun V V' _ hk h => h.kp hk) (fun _ => rfl)
                    (fun k V => ∃ a : Nat, Blk V w1.heap.size 36 [.int .u64 (a : Int)] ∧ Hid (RG.gp st sz lo X = RG.gp st sz a (X.drop k) ∧ a ≤ 140737490452480) ∧ Blk V w.heap.size 36 [.int .u64 SZ] ∧ Blk V (w.heap.size + 1) 36 [.int .u64 4096] ∧ Below w.heap.size w V)
                    (fun c k V => c = .exit 1 ∧ ∃ a : Nat, Blk V w1.heap.size 36 [.int .u64 (a : Int)] ∧ Hid (RG.gp st sz lo X = a ∧ a ≤ 140737490452480) ∧ Blk V w.heap.size 36 [.int .u64 SZ] ∧ Blk V (w.heap.size + 1) 36 [.int .u64 4096] ∧ Below w.heap.size w V)
                    (fun k V V' row ⟨a, h1, h2, h3, h4, h5⟩ hg hr => ⟨a, h1.own2 hg (by have := hord.out; omega) hr, h2, h3.own2 hg (by have := hord.out; omega) hr, h4.own2 hg (by have := hord.out; omega) hr, Below.own2 h5 hg (Nat.le_refl _) (by have := hord.out; omega) hr⟩)
                    (fun c k V V' row ⟨h0, a, h1, h2, h3, h4, h5⟩ hg hr => ⟨h0, a, h1.own2 hg (by have := hord.out; omega) hr, h2, h3.own2 hg (by have := hord.out; omega) hr, h4.own2 hg (by have := hord.out; omega) hr, Below.own2 h5 hg (Nat.le_refl _) (by have := hord.out; omega) hr⟩)
                    (fun k V ⟨a, h1, h2⟩ => rw_blk h1 rfl) (fun c k V ⟨h0, a, h1, h2⟩ => rw_blk h1 rfl) ⟨lo, hQ3, W_hid ⟨rfl, by have := hlob.out; omega⟩, h83, h93, hB3⟩
                    (fun m' x a' V => ∃ bx, m' ≤ bx ∧ RB V bx x ∧ GapAct w.heap.size (w.heap.size + 1) w1.heap.size bx x a')
                    (fun m' x a' _ V V' row h hg hr => by
                      obtain ⟨bx, h1, h3, h5⟩ := h
                      exact ⟨bx, h1, Blk.own' h3 hg (fun r e => (hr r e).2), h5⟩)
                    ?assign ?body ?done ?stop
                  case assign =>
                    rintro lq k ⟨f, t, p, s⟩ V K hsz ⟨a, hQ, hga, h8, h9, hB⟩ hK
                    have hkp := (Kp.refl w1.heap.size V).alloc hQ.lt (.cells #[.int .u64 (f : Int), .int .u64 (t : Int), .int .i64 p, .int .i64 s] 55)
                    have hKn := fun a' ha' => hK a' _ hkp ⟨a, hQ.alloc _, hga, h8.alloc _, h9.alloc _, hB.alloc hB.size _⟩ ⟨V.heap.size, Nat.le_refl _, Blk.new _ _ _ rfl, ha'⟩
                    replace hKn := W_hid hKn
                    simp only [ra]
                    gi_wp2
                    exact hKn.out _ ⟨_, _, _, _, _, _, _, _, _, _, _, _, _, _, _, _, _, _, _, _, _, _, _, _, _, _, _, _, _, _, _, _, _, _, _, _, _, _, _, _, _, _, _, _, _, _, _, _, _, _, _, _, _, _, _, _, _, _, _, _, _, _, _, _, _, _, rfl⟩
                  case body =>
                    rintro lq k x a' m' V hx hm hmV ⟨a, hQ, hga, h8, h9, hB⟩ ⟨bx, hbx, hX, hact⟩
                    have hkl : k < X.length := (List.getElem?_eq_some_iff.1 hx).1
                    have hdrop : X.drop k = x :: X.drop (k + 1) := by
                      rw [List.drop_eq_getElem_cons hkl, (List.getElem?_eq_some_iff.1 hx).2]
                    have hgx : RG.good x := hgood.out x (List.mem_of_getElem? hx)
                    have hgp := hga.out.1
                    rw [hdrop] at hgp
                    simp only [RG.gp] at hgp
                    have ho := hord.out
                    refine wpIn_mono (gap_round _ (by kernel_rfl) lq m' w1.heap.size a sz st w.heap.size (w.heap.size + 1) bx V x a' hact hQ (by have e := hSZ.out; rw [← e]; exact h8) (by have e := hST.out; rw [← e]; exact h9) hX hmV (by have := hga.out.2; omega) hgx hst hst2) ?_
                    rintro e a3 W3 hp
                    cases e with
                    | normal =>
                      obtain ⟨nf, hkq, hQ'⟩ := hp
                      rw [if_neg nf] at hgp
                      have hro : rowOf V w1.heap.size = none := rowOf_blk hQ
                      refine ⟨hkq, RG.up x.t st, hQ', W_hid ⟨hgp, ?_⟩, (hkq.block _ (by omega) (by omega) (by rw [hro]; simp)).trans h8, (hkq.block _ (by omega) (by omega) (by rw [hro]; simp)).trans h9, hB.trans ⟨hkq.os, hkq.tape, hkq.output, hkq.size, fun i hi => hkq.block i (by omega) (by omega) (by rw [hro]; simp)⟩⟩
                      have h1 := hgx.1.2.2.2
                      rw [RG.up_eq hst]
                      split <;> omega
                    | exit id =>
                      obtain ⟨rfl, hf, rfl⟩ := hp
                      rw [if_pos hf] at hgp
                      exact ⟨KeepsFrom.refl _ _, rfl, a, hQ, W_hid ⟨hgp, hga.out.2⟩, h8, h9, hB⟩
                    | ret => exact hp.elim
                    | goto t => exact hp.elim
                    | panic c => exact hp.elim
                    | outgrown => exact hp.elim
                  case done =>
                    rintro D V hD ⟨a, hQ, hga0, h8, h9, hB⟩ hkp hK
                    have ha9 := hga0.out.2
                    have hga : Hid (RG.gp st sz lo X = a) := by
                      have := hga0.out.1
                      rw [List.drop_length] at this
                      exact this
                    have hDw : Hid (w.heap.size ≤ D) := by show _ ≤ _; have := hord.out; omega
                    have c8 := h8.cell (j := 0) rfl
                    have c9 := h9.cell (j := 0) rfl
                    have cq := hQ.cell (j := 0) rfl
                    have fq := hQ.fz 0
                    have hfit := W_hid (fun w => fits_any a hi sz w (by omega) hhi)
                    rw [← hHI.out, ← hSZ.out] at hfit
                    have hqv := W_hid (show RG.gq sz hi a = if RG.fits a hi sz then some a else none from rfl)
                    by_cases hff : RG.fits a hi sz
                    · rw [decide_eq_true hff] at hfit
                      rw [if_pos hff] at hqv
                      have hv : Hid (VV = a ∧ EE = 0) := by
                        show _ ∧ _
                        rw [← hVV.out, ← hEE.out, hga.out, hqv.out]; exact ⟨rfl, rfl⟩
                      clear hff hqv
                      gi_wp2
                      refine ⟨trivial, rfl, ?_⟩
                      refine (fit_wide (hfit.out _)).mono ?_
                      rintro e w5 ⟨rfl, rfl⟩
                      gi_wp2
                      refine ⟨by simp, .inl ⟨_, _, rfl, run_takeDeferred hK, ?_⟩⟩
                      exact ⟨_, results_tmp2 rfl _ _ _, by rw [hv.out.1, hv.out.2]; rfl, Below.putD hB hDw.out hK⟩
                    · rw [decide_eq_false hff] at hfit
                      rw [if_neg hff] at hqv
                      have hv : Hid (VV = 0 ∧ EE = 24) := by
                        show _ ∧ _
                        rw [← hVV.out, ← hEE.out, hga.out, hqv.out]; exact ⟨rfl, rfl⟩
                      clear hff hqv
                      gi_wp2
                      refine ⟨trivial, rfl, ?_⟩
                      refine (fit_wide (hfit.out _)).mono ?_
                      rintro e w5 ⟨rfl, rfl⟩
                      gi_wp2
                      refine ⟨by simp, .inl ⟨_, _, rfl, run_takeDeferred hK, ?_⟩⟩
                      exact ⟨_, results_tmp2 rfl _ _ _, by rw [hv.out.1, hv.out.2]; rfl, Below.putD hB hDw.out hK⟩
                  case stop =>
                    rintro D c k V hD hlt ⟨rfl, a, hQ, hga0, h8, h9, hB⟩ hK
                    have ha9 := hga0.out.2
                    have hga : Hid (RG.gp st sz lo X = a) := hga0.out.1
                    have hDw : Hid (w.heap.size ≤ D) := by show _ ≤ _; have := hord.out; omega
                    have c8 := h8.cell (j := 0) rfl
                    have c9 := h9.cell (j := 0) rfl
                    have cq := hQ.cell (j := 0) rfl
                    have fq := hQ.fz 0
                    have hfit := W_hid (fun w => fits_any a hi sz w (by omega) hhi)
                    rw [← hHI.out, ← hSZ.out] at hfit
                    have hqv := W_hid (show RG.gq sz hi a = if RG.fits a hi sz then some a else none from rfl)
                    by_cases hff : RG.fits a hi sz
                    · rw [decide_eq_true hff] at hfit
                      rw [if_pos hff] at hqv
                      have hv : Hid (VV = a ∧ EE = 0) := by
                        show _ ∧ _
                        rw [← hVV.out, ← hEE.out, hga.out, hqv.out]; exact ⟨rfl, rfl⟩
                      clear hff hqv
                      gi_wp2
                      refine ⟨trivial, rfl, ?_⟩
                      refine (fit_wide (hfit.out _)).mono ?_
                      rintro e w5 ⟨rfl, rfl⟩
                      gi_wp2
                      refine ⟨by simp, .inl ⟨_, _, rfl, run_takeDeferred hK, ?_⟩⟩
                      exact ⟨_, results_tmp2 rfl _ _ _, by rw [hv.out.1, hv.out.2]; rfl, Below.putD hB hDw.out hK⟩
                    · rw [decide_eq_false hff] at hfit
                      rw [if_neg hff] at hqv
                      have hv : Hid (VV = 0 ∧ EE = 24) := by
                        show _ ∧ _
                        rw [← hVV.out, ← hEE.out, hga.out, hqv.out]; exact ⟨rfl, rfl⟩
                      clear hff hqv
                      gi_wp2
                      refine ⟨trivial, rfl, ?_⟩
                      refine (fit_wide (hfit.out _)).mono ?_
                      rintro e w5 ⟨rfl, rfl⟩
                      gi_wp2
                      refine ⟨by simp, .inl ⟨_, _, rfl, run_takeDeferred hK, ?_⟩⟩
                      exact ⟨_, results_tmp2 rfl _ _ _, by rw [hv.out.1, hv.out.2]; rfl, Below.putD hB hDw.out hK⟩
                · refine callsIn_of_wp_marks Tryz.func53 rfl trivial ?_ rfl
                  simp only [Tryz.ntmps53, List.size_toArray, List.length_cons, List.length_nil, Nat.reduceAdd, Nat.reduceSub, Array.replicate_succ, Array.replicate_zero, List.push_toArray, List.append_toArray, List.nil_append, List.cons_append]
                  gi_wp2
                  refine ⟨trivial, rfl, ?_⟩
                  refine (fit_wide hV.out).mono ?_
                  rintro e w1 ⟨rfl, bel1⟩
                  have h81 := h80.keep bel1
                  have h91 := h90.keep bel1
                  have c8 := h81.cell (j := 0) rfl
                  have c9 := h91.cell (j := 0) rfl
                  replace hL := W_hid (hL.out.keep bel1)
                  replace bb := bb.trans (bel1.mono bb.size)
                  have hs1 := W_hid (Nat.le_trans (Nat.le_of_eq hs0.out.symm) bel1.size)
                  clear bel1 hw0 h80 h90
                  gi_wp2
                  have hQ2 : Blk (w1.alloc (.cells #[.int .u64 LO] 36)) w1.heap.size 36 [.int .u64 (lo : Int)] := by rw [hLO.out]; exact Blk.new _ _ [.int .u64 (lo : Int)] rfl
                  obtain ⟨w2, hw2⟩ : ∃ w2, w1.alloc (.cells #[.int .u64 LO] 36) = w2 := ⟨_, rfl⟩
                  have bel2 : Below w1.heap.size w1 w2 := by rw [← hw2]; exact (Below.refl _ _).alloc (Nat.le_refl _) _
                  have hs2 : Hid (w2.heap.size = w1.heap.size + 1) := by show _ = _; rw [← hw2]; simp
                  rw [hw2] at hQ2
                  have h82 := h81.keep bel2
                  have h92 := h91.keep bel2
                  replace hL := W_hid (hL.out.keep bel2)
                  have hm2 := hml.out _ hL.out
                  obtain ⟨w3, hw3⟩ : ∃ w3, ((w2.alloc (.cells #[.slice ao n cap] 41)).alloc (.cells #[.int .u64 LO] 36)).alloc (.cells #[.int .u64 HI] 36) = w3 := ⟨_, rfl⟩
                  have bel3 : Below w2.heap.size w2 w3 := by rw [← hw3]; exact (((Below.refl _ _).alloc (Nat.le_refl _) _).alloc (by simp) _).alloc (by simp; omega) _
                  rw [hw3] at hm2
                  have h83 := h82.keep bel3
                  have h93 := h92.keep bel3
                  have hQ3 := hQ2.keep bel3
                  have b13 := bb.size
                  have b23 := bel2.size
                  have b33 := bel3.size
                  have hB3 : Below w.heap.size w w3 := (bb.trans (bel2.mono bb.size)).trans (bel3.mono (by omega))
                  have hM := hm2.ma (q := w1.heap.size) (by have := hs2.out; omega) (by have := hs2.out; omega) (by have := hs2.out; omega) (fun a e e' => by have := hblk.out a e e'; omega) (rowOf_blk hQ3)
                  have hord := W_hid (show w.heap.size + 2 ≤ w1.heap.size ∧ w1.heap.size + 1 ≤ w3.heap.size from ⟨hs1.out, by have := hs2.out; omega⟩)
                  rw [hw2]
                  refine ⟨trivial, rfl, ?_⟩
                  refine (fit_wide (hMk.out _)).mono ?_
                  rintro e w3' ⟨rfl, rfl⟩
                  rw [hw3]
                  gi_wp2
                  clear hw2 hw3 hs2 b13 b23 b33 bel2 bel3 hQ2 h82 h92 h81 h91 c8 c9
                  refine range_gives (gf := 135) rfl enters_meet (hG w1.heap.size _ _ _) hM (fun V V' _ hk h => h.kp hk) (fun _ => rfl)
                    (fun k V => ∃ a : Nat, Blk V w1.heap.size 36 [.int .u64 (a : Int)] ∧ Hid (RG.gp st sz lo X = RG.gp st sz a (X.drop k) ∧ a ≤ 140737490452480) ∧ Blk V w.heap.size 36 [.int .u64 SZ] ∧ Blk V (w.heap.size + 1) 36 [.int .u64 2097152] ∧ Below w.heap.size w V)
                    (fun c k V => c = .exit 1 ∧ ∃ a : Nat, Blk V w1.heap.size 36 [.int .u64 (a : Int)] ∧ Hid (RG.gp st sz lo X = a ∧ a ≤ 140737490452480) ∧ Blk V w.heap.size 36 [.int .u64 SZ] ∧ Blk V (w.heap.size + 1) 36 [.int .u64 2097152] ∧ Below w.heap.size w V)
                    (fun k V V' row ⟨a, h1, h2, h3, h4, h5⟩ hg hr => ⟨a, h1.own2 hg (by have := hord.out; omega) hr, h2, h3.own2 hg (by have := hord.out; omega) hr, h4.own2 hg (by have := hord.out; omega) hr, Below.own2 h5 hg (Nat.le_refl _) (by have := hord.out; omega) hr⟩)
                    (fun c k V V' row ⟨h0, a, h1, h2, h3, h4, h5⟩ hg hr => ⟨h0, a, h1.own2 hg (by have := hord.out; omega) hr, h2, h3.own2 hg (by have := hord.out; omega) hr, h4.own2 hg (by have := hord.out; omega) hr, Below.own2 h5 hg (Nat.le_refl _) (by have := hord.out; omega) hr⟩)
                    (fun k V ⟨a, h1, h2⟩ => rw_blk h1 rfl) (fun c k V ⟨h0, a, h1, h2⟩ => rw_blk h1 rfl) ⟨lo, hQ3, W_hid ⟨rfl, by have := hlob.out; omega⟩, h83, h93, hB3⟩
                    (fun m' x a' V => ∃ bx, m' ≤ bx ∧ RB V bx x ∧ GapAct w.heap.size (w.heap.size + 1) w1.heap.size bx x a')
                    (fun m' x a' _ V V' row h hg hr => by
                      obtain ⟨bx, h1, h3, h5⟩ := h
                      exact ⟨bx, h1, Blk.own' h3 hg (fun r e => (hr r e).2), h5⟩)
                    ?assign ?body ?done ?stop
                  case assign =>
                    rintro lq k ⟨f, t, p, s⟩ V K hsz ⟨a, hQ, hga, h8, h9, hB⟩ hK
                    have hkp := (Kp.refl w1.heap.size V).alloc hQ.lt (.cells #[.int .u64 (f : Int), .int .u64 (t : Int), .int .i64 p, .int .i64 s] 55)
                    have hKn := fun a' ha' => hK a' _ hkp ⟨a, hQ.alloc _, hga, h8.alloc _, h9.alloc _, hB.alloc hB.size _⟩ ⟨V.heap.size, Nat.le_refl _, Blk.new _ _ _ rfl, ha'⟩
                    replace hKn := W_hid hKn
                    simp only [ra]
                    gi_wp2
                    exact hKn.out _ ⟨_, _, _, _, _, _, _, _, _, _, _, _, _, _, _, _, _, _, _, _, _, _, _, _, _, _, _, _, _, _, _, _, _, _, _, _, _, _, _, _, _, _, _, _, _, _, _, _, _, _, _, _, _, _, _, _, _, _, _, _, _, _, _, _, _, _, rfl⟩
                  case body =>
                    rintro lq k x a' m' V hx hm hmV ⟨a, hQ, hga, h8, h9, hB⟩ ⟨bx, hbx, hX, hact⟩
                    have hkl : k < X.length := (List.getElem?_eq_some_iff.1 hx).1
                    have hdrop : X.drop k = x :: X.drop (k + 1) := by
                      rw [List.drop_eq_getElem_cons hkl, (List.getElem?_eq_some_iff.1 hx).2]
                    have hgx : RG.good x := hgood.out x (List.mem_of_getElem? hx)
                    have hgp := hga.out.1
                    rw [hdrop] at hgp
                    simp only [RG.gp] at hgp
                    have ho := hord.out
                    refine wpIn_mono (gap_round _ (by kernel_rfl) lq m' w1.heap.size a sz st w.heap.size (w.heap.size + 1) bx V x a' hact hQ (by have e := hSZ.out; rw [← e]; exact h8) (by have e := hST.out; rw [← e]; exact h9) hX hmV (by have := hga.out.2; omega) hgx hst hst2) ?_
                    rintro e a3 W3 hp
                    cases e with
                    | normal =>
                      obtain ⟨nf, hkq, hQ'⟩ := hp
                      rw [if_neg nf] at hgp
                      have hro : rowOf V w1.heap.size = none := rowOf_blk hQ
                      refine ⟨hkq, RG.up x.t st, hQ', W_hid ⟨hgp, ?_⟩, (hkq.block _ (by omega) (by omega) (by rw [hro]; simp)).trans h8, (hkq.block _ (by omega) (by omega) (by rw [hro]; simp)).trans h9, hB.trans ⟨hkq.os, hkq.tape, hkq.output, hkq.size, fun i hi => hkq.block i (by omega) (by omega) (by rw [hro]; simp)⟩⟩
                      have h1 := hgx.1.2.2.2
                      rw [RG.up_eq hst]
                      split <;> omega
                    | exit id =>
                      obtain ⟨rfl, hf, rfl⟩ := hp
                      rw [if_pos hf] at hgp
                      exact ⟨KeepsFrom.refl _ _, rfl, a, hQ, W_hid ⟨hgp, hga.out.2⟩, h8, h9, hB⟩
                    | ret => exact hp.elim
                    | goto t => exact hp.elim
                    | panic c => exact hp.elim
                    | outgrown => exact hp.elim
                  case done =>
                    rintro D V hD ⟨a, hQ, hga0, h8, h9, hB⟩ hkp hK
                    have ha9 := hga0.out.2
                    have hga : Hid (RG.gp st sz lo X = a) := by
                      have := hga0.out.1
                      rw [List.drop_length] at this
                      exact this
                    have hDw : Hid (w.heap.size ≤ D) := by show _ ≤ _; have := hord.out; omega
                    have c8 := h8.cell (j := 0) rfl
                    have c9 := h9.cell (j := 0) rfl
                    have cq := hQ.cell (j := 0) rfl
                    have fq := hQ.fz 0
                    have hfit := W_hid (fun w => fits_any a hi sz w (by omega) hhi)
                    rw [← hHI.out, ← hSZ.out] at hfit
                    have hqv := W_hid (show RG.gq sz hi a = if RG.fits a hi sz then some a else none from rfl)
                    by_cases hff : RG.fits a hi sz
                    · rw [decide_eq_true hff] at hfit
                      rw [if_pos hff] at hqv
                      have hv : Hid (VV = a ∧ EE = 0) := by
                        show _ ∧ _
                        rw [← hVV.out, ← hEE.out, hga.out, hqv.out]; exact ⟨rfl, rfl⟩
                      clear hff hqv
                      gi_wp2
                      refine ⟨trivial, rfl, ?_⟩
                      refine (fit_wide (hfit.out _)).mono ?_
                      rintro e w5 ⟨rfl, rfl⟩
                      gi_wp2
                      refine ⟨by simp, .inl ⟨_, _, rfl, run_takeDeferred hK, ?_⟩⟩
                      exact ⟨_, results_tmp2 rfl _ _ _, by rw [hv.out.1, hv.out.2]; rfl, Below.putD hB hDw.out hK⟩
                    · rw [decide_eq_false hff] at hfit
                      rw [if_neg hff] at hqv
                      have hv : Hid (VV = 0 ∧ EE = 24) := by
                        show _ ∧ _
                        rw [← hVV.out, ← hEE.out, hga.out, hqv.out]; exact ⟨rfl, rfl⟩
                      clear hff hqv
                      gi_wp2
                      refine ⟨trivial, rfl, ?_⟩
                      refine (fit_wide (hfit.out _)).mono ?_
                      rintro e w5 ⟨rfl, rfl⟩
                      gi_wp2
                      refine ⟨by simp, .inl ⟨_, _, rfl, run_takeDeferred hK, ?_⟩⟩
                      exact ⟨_, results_tmp2 rfl _ _ _, by rw [hv.out.1, hv.out.2]; rfl, Below.putD hB hDw.out hK⟩
                  case stop =>
                    rintro D c k V hD hlt ⟨rfl, a, hQ, hga0, h8, h9, hB⟩ hK
                    have ha9 := hga0.out.2
                    have hga : Hid (RG.gp st sz lo X = a) := hga0.out.1
                    have hDw : Hid (w.heap.size ≤ D) := by show _ ≤ _; have := hord.out; omega
                    have c8 := h8.cell (j := 0) rfl
                    have c9 := h9.cell (j := 0) rfl
                    have cq := hQ.cell (j := 0) rfl
                    have fq := hQ.fz 0
                    have hfit := W_hid (fun w => fits_any a hi sz w (by omega) hhi)
                    rw [← hHI.out, ← hSZ.out] at hfit
                    have hqv := W_hid (show RG.gq sz hi a = if RG.fits a hi sz then some a else none from rfl)
                    by_cases hff : RG.fits a hi sz
                    · rw [decide_eq_true hff] at hfit
                      rw [if_pos hff] at hqv
                      have hv : Hid (VV = a ∧ EE = 0) := by
                        show _ ∧ _
                        rw [← hVV.out, ← hEE.out, hga.out, hqv.out]; exact ⟨rfl, rfl⟩
                      clear hff hqv
                      gi_wp2
                      refine ⟨trivial, rfl, ?_⟩
                      refine (fit_wide (hfit.out _)).mono ?_
                      rintro e w5 ⟨rfl, rfl⟩
                      gi_wp2
                      refine ⟨by simp, .inl ⟨_, _, rfl, run_takeDeferred hK, ?_⟩⟩
                      exact ⟨_, results_tmp2 rfl _ _ _, by rw [hv.out.1, hv.out.2]; rfl, Below.putD hB hDw.out hK⟩
                    · rw [decide_eq_false hff] at hfit
                      rw [if_neg hff] at hqv
                      have hv : Hid (VV = 0 ∧ EE = 24) := by
                        show _ ∧ _
                        rw [← hVV.out, ← hEE.out, hga.out, hqv.out]; exact ⟨rfl, rfl⟩
                      clear hff hqv
                      gi_wp2
                      refine ⟨trivial, rfl, ?_⟩
                      refine (fit_wide (hfit.out _)).mono ?_
                      rintro e w5 ⟨rfl, rfl⟩
                      gi_wp2
                      refine ⟨by simp, .inl ⟨_, _, rfl, run_takeDeferred hK, ?_⟩⟩
                      exact ⟨_, results_tmp2 rfl _ _ _, by rw [hv.out.1, hv.out.2]; rfl, Below.putD hB hDw.out hK⟩
        · have hE : Hid (gpE l lo hi sz st = 2 ∧ gpV l lo hi sz st = 0) := by
            show _ ∧ _
            unfold gpE gpV
            rw [if_neg (fun h => h2 (hk'.out.2 h.2.2.2.1)), if_neg (fun h => h2 (hk'.out.2 h.2.2.2.1))]
            exact ⟨rfl, rfl⟩
          rw [hE.out.1, hE.out.2]
          have g2 : (k == 0) = false := by simpa using h2
          have g2x : (k != 0) = true := by simpa using h2
          rcases hr.out with rfl | rfl
          · refine callsIn_of_wp_marks Tryz.func53 rfl trivial ?_ rfl
            simp only [Tryz.ntmps53, List.size_toArray, List.length_cons, List.length_nil, Nat.reduceAdd, Nat.reduceSub, Array.replicate_succ, Array.replicate_zero, List.push_toArray, List.append_toArray, List.nil_append, List.cons_append]
            gi_wp2
            refine ⟨trivial, rfl, ?_⟩
            refine (fit_wide hV.out).mono ?_
            rintro e w1 ⟨rfl, bel1⟩
            have h81 := h80.keep bel1
            have h91 := h90.keep bel1
            have c8 := h81.cell (j := 0) rfl
            have c9 := h91.cell (j := 0) rfl
            replace hL := W_hid (hL.out.keep bel1)
            replace bb := bb.trans (bel1.mono bb.size)
            have hs1 := W_hid (Nat.le_trans (Nat.le_of_eq hs0.out.symm) bel1.size)
            clear bel1 hw0 h80 h90
            gi_wp2
            exact ⟨_, results_tmp2 rfl _ _ _, rfl, bb⟩
          · refine callsIn_of_wp_marks Tryz.func53 rfl trivial ?_ rfl
            simp only [Tryz.ntmps53, List.size_toArray, List.length_cons, List.length_nil, Nat.reduceAdd, Nat.reduceSub, Array.replicate_succ, Array.replicate_zero, List.push_toArray, List.append_toArray, List.nil_append, List.cons_append]
            gi_wp2
            refine ⟨trivial, rfl, ?_⟩
            refine (fit_wide hV.out).mono ?_
            rintro e w1 ⟨rfl, bel1⟩
            have h81 := h80.keep bel1
            have h91 := h90.keep bel1
            have c8 := h81.cell (j := 0) rfl
            have c9 := h91.cell (j := 0) rfl
            replace hL := W_hid (hL.out.keep bel1)
            replace bb := bb.trans (bel1.mono bb.size)
            have hs1 := W_hid (Nat.le_trans (Nat.le_of_eq hs0.out.symm) bel1.size)
            clear bel1 hw0 h80 h90
            gi_wp2
            exact ⟨_, results_tmp2 rfl _ _ _, rfl, bb⟩
      · have hE : Hid (gpE l lo hi sz st = 2 ∧ gpV l lo hi sz st = 0) := by
          show _ ∧ _
          unfold gpE gpV
          rw [if_neg (fun h => h1 (hm'.out.2 h.2.2.1)), if_neg (fun h => h1 (hm'.out.2 h.2.2.1))]
          exact ⟨rfl, rfl⟩
        rw [hE.out.1, hE.out.2]
        have g1 : (m == 0) = false := by simpa using h1
        have g1x : (m != 0) = true := by simpa using h1
        rcases hr.out with rfl | rfl
        · refine callsIn_of_wp_marks Tryz.func53 rfl trivial ?_ rfl
          simp only [Tryz.ntmps53, List.size_toArray, List.length_cons, List.length_nil, Nat.reduceAdd, Nat.reduceSub, Array.replicate_succ, Array.replicate_zero, List.push_toArray, List.append_toArray, List.nil_append, List.cons_append]
          gi_wp2
          refine ⟨trivial, rfl, ?_⟩
          refine (fit_wide hV.out).mono ?_
          rintro e w1 ⟨rfl, bel1⟩
          have h81 := h80.keep bel1
          have h91 := h90.keep bel1
          have c8 := h81.cell (j := 0) rfl
          have c9 := h91.cell (j := 0) rfl
          replace hL := W_hid (hL.out.keep bel1)
          replace bb := bb.trans (bel1.mono bb.size)
          have hs1 := W_hid (Nat.le_trans (Nat.le_of_eq hs0.out.symm) bel1.size)
          clear bel1 hw0 h80 h90
          gi_wp2
          exact ⟨_, results_tmp2 rfl _ _ _, rfl, bb⟩
        · refine callsIn_of_wp_marks Tryz.func53 rfl trivial ?_ rfl
          simp only [Tryz.ntmps53, List.size_toArray, List.length_cons, List.length_nil, Nat.reduceAdd, Nat.reduceSub, Array.replicate_succ, Array.replicate_zero, List.push_toArray, List.append_toArray, List.nil_append, List.cons_append]
          gi_wp2
          refine ⟨trivial, rfl, ?_⟩
          refine (fit_wide hV.out).mono ?_
          rintro e w1 ⟨rfl, bel1⟩
          have h81 := h80.keep bel1
          have h91 := h90.keep bel1
          have c8 := h81.cell (j := 0) rfl
          have c9 := h91.cell (j := 0) rfl
          replace hL := W_hid (hL.out.keep bel1)
          replace bb := bb.trans (bel1.mono bb.size)
          have hs1 := W_hid (Nat.le_trans (Nat.le_of_eq hs0.out.symm) bel1.size)
          clear bel1 hw0 h80 h90
          gi_wp2
          exact ⟨_, results_tmp2 rfl _ _ _, rfl, bb⟩
    · have q1 : (ST == 4096) = false := by rw [hST.out]; simp; omega
      have q2 : (ST == 2097152) = false := by rw [hST.out]; simp; omega
      have q1x : (ST != 4096) = true := by simp [bne, q1]
      have q2x : (ST != 2097152) = true := by simp [bne, q2]
      have hs9 : Hid (¬ (st = 4096 ∨ st = 2097152)) := hs
      clear hs
      have hE : Hid (gpE l lo hi sz st = 2 ∧ gpV l lo hi sz st = 0) := by
        show _ ∧ _
        unfold gpE gpV
        rw [if_neg (fun h => hs9.out h.2.1), if_neg (fun h => hs9.out h.2.1)]
        exact ⟨rfl, rfl⟩
      rw [hE.out.1, hE.out.2]
      refine callsIn_of_wp_marks Tryz.func53 rfl trivial ?_ rfl
      simp only [Tryz.ntmps53, List.size_toArray, List.length_cons, List.length_nil, Nat.reduceAdd, Nat.reduceSub, Array.replicate_succ, Array.replicate_zero, List.push_toArray, List.append_toArray, List.nil_append, List.cons_append]
      gi_wp2
      refine ⟨trivial, rfl, ?_⟩
      refine (fit_wide hV.out).mono ?_
      rintro e w1 ⟨rfl, bel1⟩
      have h81 := h80.keep bel1
      have h91 := h90.keep bel1
      have c8 := h81.cell (j := 0) rfl
      have c9 := h91.cell (j := 0) rfl
      replace hL := W_hid (hL.out.keep bel1)
      replace bb := bb.trans (bel1.mono bb.size)
      have hs1 := W_hid (Nat.le_trans (Nat.le_of_eq hs0.out.symm) bel1.size)
      clear bel1 hw0 h80 h90
      gi_wp2
      exact ⟨_, results_tmp2 rfl _ _ _, rfl, bb⟩
  · rw [decide_eq_false hok] at hV
    replace hV := W_hid hV
    have hE : Hid (gpE l lo hi sz st = 2 ∧ gpV l lo hi sz st = 0) := by
      show _ ∧ _
      unfold gpE gpV
      rw [if_neg (fun h => hok h.1), if_neg (fun h => hok h.1)]
      exact ⟨rfl, rfl⟩
    rw [hE.out.1, hE.out.2]
    refine callsIn_of_wp_marks Tryz.func53 rfl trivial ?_ rfl
    simp only [Tryz.ntmps53, List.size_toArray, List.length_cons, List.length_nil, Nat.reduceAdd, Nat.reduceSub, Array.replicate_succ, Array.replicate_zero, List.push_toArray, List.append_toArray, List.nil_append, List.cons_append]
    gi_wp2
    refine ⟨trivial, rfl, ?_⟩
    refine (fit_wide hV.out).mono ?_
    rintro e w1 ⟨rfl, bel1⟩
    have h81 := h80.keep bel1
    have h91 := h90.keep bel1
    have c8 := h81.cell (j := 0) rfl
    have c9 := h91.cell (j := 0) rfl
    replace hL := W_hid (hL.out.keep bel1)
    replace bb := bb.trans (bel1.mono bb.size)
    have hs1 := W_hid (Nat.le_trans (Nat.le_of_eq hs0.out.symm) bel1.size)
    clear bel1 hw0 h80 h90
    gi_wp2
    exact ⟨_, results_tmp2 rfl _ _ _, rfl, bb⟩
end Go.Proofs.YtkomahekdcaiaaaGreatDoor

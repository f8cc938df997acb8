/- The program's own Cut and At. -/
import Derived.Test.YtjdnhiakpobooaaRegApi
namespace Go.Proofs.Ytjdnhiakpobooaa
open Go.ChangeShapes Go.WideShapes Go.ChangeAt Go.RowKit
open SQ
set_option linter.unusedVariables false
set_option linter.unusedSimpArgs false
open RG (Rg)

/-- A call gives two lists, each in a row of its own, and a number of an error. -/
def GvEE (f : FuncId) (args : Array Value) (L M : List Rg) (E : Int) (w : World) : Prop :=
  Calls Try.prog f args w fun e w' => ∃ ao c bo d B, e = .returned (.tuple #[.slice ao L.length c, .slice bo M.length d, .int .i64 E]) ∧ w'.ownsRow w.heap.size 25 4 (.slice ao L.length c) L.length (rcl L) ∧ (∀ g, (Value.slice ao L.length c).ownBlock = some g → g < B) ∧
    w.heap.size ≤ B ∧ w'.ownsRow B 25 4 (.slice bo M.length d) M.length (rcl M) ∧ Below w.heap.size w w'
noncomputable def ctL (l : List Rg) (lo hi : Nat) : List Rg := if RG.Ok true none l ∧ RG.isRange lo hi then RG.rep l lo hi [] else []
noncomputable def ctO (l : List Rg) (lo hi : Nat) : List Rg := if RG.Ok true none l ∧ RG.isRange lo hi then RG.parts lo hi l else []
noncomputable def ctE (l : List Rg) (lo hi : Nat) : Int := if RG.Ok true none l ∧ RG.isRange lo hi then 0 else 2

set_option maxRecDepth 100000 in
set_option maxHeartbeats 4000000 in
theorem Cut_any (ao : Option Addr) (n cap : Nat) (l : List Rg) (lo hi : Nat) (w : World) (h : RL w ao n cap l) :
    GvEE 16 #[.slice ao n cap, .int .u64 (lo : Int), .int .u64 (hi : Int)] (ctL l lo hi) (ctO l lo hi) (ctE l lo hi) w := by
  have hV := valid_any ao n cap l _ h.1
  have hI := W_hid (fun w => isRange_any lo hi w)
  have hL := W_hid h
  by_cases hok : RG.Ok true none l
  · rw [decide_eq_true hok] at hV
    replace hV := W_hid hV
    by_cases hg : RG.isRange lo hi
    · rw [decide_eq_true hg] at hI
      have hR : Hid (∀ w, RL w ao n cap l → GvL 29 #[.slice ao n cap, .int .u64 (lo : Int), .int .u64 (hi : Int), .slice none 0 0] (ctL l lo hi) w) := by
        intro w h1
        have := replace_any ao none n cap 0 0 l [] lo hi w h1 (RL_nil w) (ok_len hok) (by simp)
        unfold ctL
        rw [if_pos ⟨hok, hg⟩]
        exact this
      have hMk := W_hid (fun w => parts_any ao n cap lo hi w)
      have hG : Hid (∀ w b1 b2 b3, ML ao n cap l lo hi b1 b2 b3 w → GvL 35 #[.func (.func 47) #[] #[.pointer (some ⟨b1, 0, none⟩), .pointer (some ⟨b2, 0, none⟩), .pointer (some ⟨b3, 0, none⟩)]] (ctO l lo hi) w) := by
        intro w b1 b2 b3 h1
        have := gather_parts ao n cap l lo hi b1 b2 b3 w h1 (ok_len hok)
        unfold ctO
        rw [if_pos ⟨hok, hg⟩]
        exact this
      have hE : Hid (ctE l lo hi = 0) := by
        show _ = _
        unfold ctE
        rw [if_pos ⟨hok, hg⟩]
      unfold GvEE
      generalize ctL l lo hi = LL at *
      generalize ctO l lo hi = OO at *
      clear hok hg h
      go_enter Try.func16, Try.ntmps16
      go_wp2_with fail
      refine hV.out.mono ?_
      rintro e w1 ⟨rfl, bel1⟩
      replace hL := W_hid (hL.out.keep bel1)
      go_wp2_with fail
      refine (hI.out _).mono ?_
      rintro e w2 ⟨rfl, rfl⟩
      go_wp2_with fail
      refine (hR.out _ hL.out).mono ?_
      rintro e w3 ⟨v, rfl, hown, bel3⟩
      obtain ⟨va, vc, rfl⟩ := Own.form hown
      replace hL := W_hid (hL.out.keep bel3)
      have hm := ML.made lo hi hL.out.1 hL.out.2
      obtain ⟨w4, hw4⟩ : ∃ w4, ((w3.alloc (.cells #[.slice ao n cap] 22)).alloc (.cells #[.int .u64 (lo : Int)] 23)).alloc (.cells #[.int .u64 (hi : Int)] 23) = w4 := ⟨_, rfl⟩
      have bel4 : Below w3.heap.size w3 w4 := by rw [← hw4]; exact (((Below.refl _ _).alloc (Nat.le_refl _) _).alloc (by simp) _).alloc (by simp; omega) _
      rw [hw4] at hm
      have hlt := W_hid (fun g hg => Nat.lt_of_lt_of_le (own_cells hown g hg).1.lt bel4.size)
      have hown4 := W_hid (Own.low bel1.size (Own.below hown bel4))
      have bb := (bel1.trans (bel3.mono bel1.size)).trans (bel4.mono (Nat.le_trans bel1.size bel3.size))
      go_wp2_with fail
      refine (hMk.out _).mono ?_
      rintro e w4' ⟨rfl, rfl⟩
      rw [hw4]
      clear hw4 hown
      go_wp2_with fail
      refine (hG.out _ _ _ _ hm).mono ?_
      rintro e w5 ⟨v2, rfl, hown2, bel5⟩
      obtain ⟨vb, vd, rfl⟩ := Own.form hown2
      have hown5 := W_hid (Own.below hown4.out bel5)
      go_wp2_with fail
      refine bodyPost_ret (results_tmp3 rfl _ _ _) rfl ?_
      exact ⟨va, vc, vb, vd, w4.heap.size, by rw [hE.out]; rfl, hown5.out, hlt.out, bb.size, hown2, bb.trans (bel5.mono bb.size)⟩
    · rw [decide_eq_false hg] at hI
      have hE : Hid (ctE l lo hi = 2 ∧ ctL l lo hi = [] ∧ ctO l lo hi = []) := by
        show _ ∧ _ ∧ _
        unfold ctE ctL ctO
        rw [if_neg (fun h => hg h.2), if_neg (fun h => hg h.2), if_neg (fun h => hg h.2)]
        exact ⟨rfl, rfl, rfl⟩
      unfold GvEE
      rw [hE.out.1, hE.out.2.1, hE.out.2.2]
      clear hok hg h
      go_enter Try.func16, Try.ntmps16
      go_wp2_with fail
      refine hV.out.mono ?_
      rintro e w1 ⟨rfl, bel1⟩
      go_wp2_with fail
      refine (hI.out _).mono ?_
      rintro e w2 ⟨rfl, rfl⟩
      go_wp2_with fail
      refine bodyPost_ret (results_tmp3 rfl _ _ _) rfl ?_
      exact ⟨none, 0, none, 0, w.heap.size, rfl, World.ownsRow_nil _ _ _ _, (fun g hg => by cases hg), Nat.le_refl _, World.ownsRow_nil _ _ _ _, bel1⟩
  · rw [decide_eq_false hok] at hV
    replace hV := W_hid hV
    have hE : Hid (ctE l lo hi = 2 ∧ ctL l lo hi = [] ∧ ctO l lo hi = []) := by
      show _ ∧ _ ∧ _
      unfold ctE ctL ctO
      rw [if_neg (fun h => hok h.1), if_neg (fun h => hok h.1), if_neg (fun h => hok h.1)]
      exact ⟨rfl, rfl, rfl⟩
    unfold GvEE
    rw [hE.out.1, hE.out.2.1, hE.out.2.2]
    clear hok h
    go_enter Try.func16, Try.ntmps16
    go_wp2_with fail
    refine hV.out.mono ?_
    rintro e w1 ⟨rfl, bel1⟩
    go_wp2_with fail
    refine bodyPost_ret (results_tmp3 rfl _ _ _) rfl ?_
    exact ⟨none, 0, none, 0, w.heap.size, rfl, World.ownsRow_nil _ _ _ _, (fun g hg => by cases hg), Nat.le_refl _, World.ownsRow_nil _ _ _ _, bel1⟩

/-- The region that has an address, as the program finds it. -/
noncomputable def atV (l : List Rg) (va : Nat) : Value := fstV (if RG.Ok true none l ∧ va < 140737488355328 then RG.meeting va (va + 1) l else [])
set_option maxRecDepth 100000 in
set_option maxHeartbeats 4000000 in
theorem At_any (ao : Option Addr) (n cap : Nat) (l : List Rg) (va : Nat) (w : World) (h : RL w ao n cap l) :
    Gv 22 #[.slice ao n cap, .int .u64 (va : Int)] (atV l va) w := by
  obtain ⟨w0, hw0⟩ : ∃ w0, w.alloc (.cells #[.int .u64 0, .int .u64 0, .int .i64 0, .int .i64 0] 25) = w0 := ⟨_, rfl⟩
  have bb : Below w.heap.size w w0 := by rw [← hw0]; exact (Below.refl _ _).alloc (Nat.le_refl _) _
  have hB0 : RB w0 w.heap.size ⟨0, 0, 0, 0⟩ := by rw [← hw0]; exact Blk.new _ _ _ rfl
  have hL := W_hid (h.keep bb)
  have hV := valid_any ao n cap l _ hL.out.1
  obtain ⟨VA, hVA⟩ : ∃ VA : Int, VA = va := ⟨_, rfl⟩
  have hz : RB w0 w.heap.size ⟨0, 0, 0, 0⟩ → ra ⟨0, 0, 0, 0⟩ = .agg #[.int .u64 0, .int .u64 0, .int .i64 0, .int .i64 0] := fun _ => rfl
  have fin : ∀ (V : World) (x : Rg) (b : Bool), RB V w.heap.size x → True := fun _ _ _ _ => trivial
  by_cases hok : RG.Ok true none l
  · rw [decide_eq_true hok] at hV
    replace hV := W_hid hV
    by_cases hg : va < 140737488355328
    · have hlt : VA < 140737488355328 := by omega
      have hlt0 : 0 ≤ VA := by omega
      have hv1 : VA + 1 = ((va + 1 : Nat) : Int) := by omega
      have hMk := W_hid (fun w => meeting_any ao n cap va (va + 1) w)
      have hF := W_hid (fun w b1 b2 b3 h => first_meet ao n cap l va (va + 1) b1 b2 b3 w h)
      have hE : Hid (atV l va = fstV (RG.meeting va (va + 1) l)) := by
        show _ = _
        unfold atV
        rw [if_pos ⟨hok, hg⟩]
      generalize RG.meeting va (va + 1) l = X at *
      rw [← hv1, ← hVA] at hMk
      rw [← hVA]
      have hm1 := fun (w : World) (h : RL w ao n cap l) => ML.made va (va + 1) h.1 h.2
      rw [← hv1, ← hVA] at hm1
      clear hok hg h hVA hv1 fin hz
      obtain ⟨T, hT⟩ : ∃ T, VA + 1 = T := ⟨_, rfl⟩
      have hT2 : 0 ≤ T ∧ T ≤ 18446744073709551615 := by omega
      rw [hT] at hMk hm1
      go_enter Try.func22, Try.ntmps22
      go_wp2_with fail
      refine hV.out.mono ?_
      rintro e w1 ⟨rfl, bel1⟩
      have hB1 : RB w1 w.heap.size ⟨0, 0, 0, 0⟩ := hB0.keep bel1
      replace hL := W_hid (hL.out.keep bel1)
      replace bb := bb.trans (bel1.mono bb.size)
      go_wp2_with fail
      have hm := hm1 _ hL.out
      obtain ⟨w3, hw3⟩ : ∃ w3, ((w1.alloc (.cells #[.slice ao n cap] 22)).alloc (.cells #[.int .u64 VA] 23)).alloc (.cells #[.int .u64 T] 23) = w3 := ⟨_, rfl⟩
      have bel3 : Below w1.heap.size w1 w3 := by rw [← hw3]; exact (((Below.refl _ _).alloc (Nat.le_refl _) _).alloc (by simp) _).alloc (by simp; omega) _
      rw [hw3] at hm
      refine (hMk.out _).mono ?_
      rintro e w3' ⟨rfl, rfl⟩
      rw [hw3]
      clear hw3
      have hB3 : RB w3 w.heap.size ⟨0, 0, 0, 0⟩ := hB1.keep bel3
      replace bb := bb.trans (bel3.mono bb.size)
      go_wp2_with fail
      refine (hF.out _ _ _ _ hm).mono ?_
      rintro e w4 ⟨rfl, bel4⟩
      have hB4 : RB w4 w.heap.size ⟨0, 0, 0, 0⟩ := hB3.keep bel4
      replace bb := bb.trans (bel4.mono bb.size)
      have hx : ∃ (x : Rg) (b : Bool), fstV X = .tuple #[ra x, .bool b] := by
        cases X with
        | nil => exact ⟨_, _, rfl⟩
        | cons x r => exact ⟨_, _, rfl⟩
      obtain ⟨⟨xf, xt, xp, xk⟩, b, hx⟩ := hx
      rw [hx] at hE ⊢
      simp only [ra]
      obtain ⟨c0, c1, c2, c3⟩ := RB.re hB4
      have f0 := Blk.fz hB4 0
      have f1 := Blk.fz hB4 1
      have f2 := Blk.fz hB4 2
      have f3 := Blk.fz hB4 3
      have hB5 := W_hid (((((hB4.set 0 (.int .u64 (xf : Int))).set 1 (.int .u64 (xt : Int))).set 2 (.int .i64 xp)).set 3 (.int .i64 xk)))
      have b5 := ((((bb.setCell (p := ⟨w.heap.size, 0, none⟩) (Nat.le_refl _) (.int .u64 (xf : Int))).setCell (p := ⟨w.heap.size, 1, none⟩) (Nat.le_refl _) (.int .u64 (xt : Int))).setCell (p := ⟨w.heap.size, 2, none⟩) (Nat.le_refl _) (.int .i64 xp)).setCell (p := ⟨w.heap.size, 3, none⟩) (Nat.le_refl _) (.int .i64 xk))
      clear bel1 bel3 bel4 hm hm1 hMk hF hV hx
      go_wp2_with fail
      refine bodyPost_ret (res_reg1 (x := ⟨xf, xt, xp, xk⟩) rfl _ _ rfl hB5.out) rfl ?_
      exact ⟨by rw [hE.out]; rfl, b5⟩
    · have hlt : ¬ VA < 140737488355328 := by omega
      have hE : Hid (atV l va = .tuple #[.agg #[.int .u64 0, .int .u64 0, .int .i64 0, .int .i64 0], .bool false]) := by
        show _ = _
        unfold atV
        rw [if_neg (fun h => hg h.2)]
        rfl
      rw [hE.out, ← hVA]
      clear hok hg h hVA fin hz
      go_enter Try.func22, Try.ntmps22
      go_wp2_with fail
      refine hV.out.mono ?_
      rintro e w1 ⟨rfl, bel1⟩
      have hB4 : RB w1 w.heap.size ⟨0, 0, 0, 0⟩ := hB0.keep bel1
      replace bb := bb.trans (bel1.mono bb.size)
      obtain ⟨c0, c1, c2, c3⟩ := RB.re hB4
      have f0 := Blk.fz hB4 0
      have f1 := Blk.fz hB4 1
      have f2 := Blk.fz hB4 2
      have f3 := Blk.fz hB4 3
      have hB5 : RB ((((w1.setCell ⟨w.heap.size, 0, none⟩ (.int .u64 0)).setCell ⟨w.heap.size, 1, none⟩ (.int .u64 0)).setCell ⟨w.heap.size, 2, none⟩ (.int .i64 0)).setCell ⟨w.heap.size, 3, none⟩ (.int .i64 0)) w.heap.size ⟨0, 0, 0, 0⟩ := (((hB4.set 0 _).set 1 _).set 2 _).set 3 _
      have b5 := ((((bb.setCell (p := ⟨w.heap.size, 0, none⟩) (Nat.le_refl _) (.int .u64 0)).setCell (p := ⟨w.heap.size, 1, none⟩) (Nat.le_refl _) (.int .u64 0)).setCell (p := ⟨w.heap.size, 2, none⟩) (Nat.le_refl _) (.int .i64 0)).setCell (p := ⟨w.heap.size, 3, none⟩) (Nat.le_refl _) (.int .i64 0))
      replace hB5 := W_hid hB5
      clear bel1 hV
      go_wp2_with fail
      refine bodyPost_ret (res_reg1 (x := ⟨0, 0, 0, 0⟩) rfl _ _ rfl hB5.out) rfl ?_
      exact ⟨rfl, b5⟩
  · rw [decide_eq_false hok] at hV
    replace hV := W_hid hV
    have hE : Hid (atV l va = .tuple #[.agg #[.int .u64 0, .int .u64 0, .int .i64 0, .int .i64 0], .bool false]) := by
      show _ = _
      unfold atV
      rw [if_neg (fun h => hok h.1)]
      rfl
    rw [hE.out, ← hVA]
    clear hok h hVA fin hz
    go_enter Try.func22, Try.ntmps22
    go_wp2_with fail
    refine hV.out.mono ?_
    rintro e w1 ⟨rfl, bel1⟩
    have hB4 : RB w1 w.heap.size ⟨0, 0, 0, 0⟩ := hB0.keep bel1
    replace bb := bb.trans (bel1.mono bb.size)
    obtain ⟨c0, c1, c2, c3⟩ := RB.re hB4
    have f0 := Blk.fz hB4 0
    have f1 := Blk.fz hB4 1
    have f2 := Blk.fz hB4 2
    have f3 := Blk.fz hB4 3
    have hB5 : RB ((((w1.setCell ⟨w.heap.size, 0, none⟩ (.int .u64 0)).setCell ⟨w.heap.size, 1, none⟩ (.int .u64 0)).setCell ⟨w.heap.size, 2, none⟩ (.int .i64 0)).setCell ⟨w.heap.size, 3, none⟩ (.int .i64 0)) w.heap.size ⟨0, 0, 0, 0⟩ := (((hB4.set 0 _).set 1 _).set 2 _).set 3 _
    have b5 := ((((bb.setCell (p := ⟨w.heap.size, 0, none⟩) (Nat.le_refl _) (.int .u64 0)).setCell (p := ⟨w.heap.size, 1, none⟩) (Nat.le_refl _) (.int .u64 0)).setCell (p := ⟨w.heap.size, 2, none⟩) (Nat.le_refl _) (.int .i64 0)).setCell (p := ⟨w.heap.size, 3, none⟩) (Nat.le_refl _) (.int .i64 0))
    replace hB5 := W_hid hB5
    clear bel1 hV
    go_wp2_with fail
    refine bodyPost_ret (res_reg1 (x := ⟨0, 0, 0, 0⟩) rfl _ _ rfl hB5.out) rfl ?_
    exact ⟨rfl, b5⟩
end Go.Proofs.Ytjdnhiakpobooaa

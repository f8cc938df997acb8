/- The program's own Cut and At. -/
import Derived.Test.YtfbhcnamkojboaaRegApi
namespace Go.Proofs.Ytfbhcnamkojboaa
open Go.ChangeShapes Go.WideShapes Go.ChangeAt Go.RowKit
open SQ
set_option linter.unusedVariables false
set_option linter.unusedSimpArgs false
open RG (Rg)

/-- A call gives two lists, each in a row of its own, and a number of an error. -/
def GvEE (f : FuncId) (args : Array Value) (L M : List Rg) (E : Int) (w : World) : Prop :=
  Calls Try.prog f args w fun e w' => ∃ ao c bo d B, e = .returned (.tuple #[.slice ao L.length c, .slice bo M.length d, .int .i64 E]) ∧ w'.ownsRow w.heap.size 25 4 (.slice ao L.length c) L.length (rcl L) ∧ (∀ g, (Value.slice ao L.length c).ownBlock = some g → g < B) ∧
    w.heap.size ≤ B ∧ w'.ownsRow B 25 4 (.slice bo M.length d) M.length (rcl M) ∧ Below w.heap.size w w'
noncomputable def ctL (l : List Rg) (lo hi : Nat) : List Rg := if RG.Ok true none l ∧ RG.isRange lo hi then RG.rep l lo hi [] else []
noncomputable def ctO (l : List Rg) (lo hi : Nat) : List Rg := if RG.Ok true none l ∧ RG.isRange lo hi then RG.parts lo hi l else []
noncomputable def ctE (l : List Rg) (lo hi : Nat) : Int := if RG.Ok true none l ∧ RG.isRange lo hi then 0 else 2

set_option maxRecDepth 100000 in
set_option maxHeartbeats 4000000 in
theorem Cut_any (ao : Option Addr) (n cap : Nat) (l : List Rg) (lo hi : Nat) (w : World) (h : GL w ao n cap l) :
    GvEE 11 #[.slice ao n cap, .int .u64 (lo : Int), .int .u64 (hi : Int)] (ctL l lo hi) (ctO l lo hi) (ctE l lo hi) w := by
  have hV := valid_any ao n cap l _ h.1
  have hI := W_hid (fun w => isRange_any lo hi w)
  have hL := W_hid h
  by_cases hok : RG.Ok true none l
  · rw [decide_eq_true hok] at hV
    replace hV := W_hid hV
    by_cases hg : RG.isRange lo hi
    · rw [decide_eq_true hg] at hI
      have hR : Hid (∀ w, GL w ao n cap l → GvL 21 #[.slice ao n cap, .int .u64 (lo : Int), .int .u64 (hi : Int), .slice none 0 0] (ctL l lo hi) w) := by
        intro w h1
        have := replace_any ao none n cap 0 0 l [] lo hi w h1 (GL_nil w) (ok_len hok) (by simp)
        unfold ctL
        rw [if_pos ⟨hok, hg⟩]
        exact this
      have hMk := W_hid (fun w => parts_any ao n cap lo hi w)
      have hG : Hid (∀ w b1 b2 b3, ML ao n cap l lo hi b1 b2 b3 w → GvL 27 #[.func (.func 40) #[] #[.pointer (some ⟨b1, 0, none⟩), .pointer (some ⟨b2, 0, none⟩), .pointer (some ⟨b3, 0, none⟩)]] (ctO l lo hi) w) := by
        intro w b1 b2 b3 h1
        have := gather_parts ao n cap l lo hi b1 b2 b3 w h1 (ok_len hok)
        unfold ctO
        rw [if_pos ⟨hok, hg⟩]
        exact this
      have hE : Hid (ctE l lo hi = 0) := by
        show _ = _
        unfold ctE
        rw [if_pos ⟨hok, hg⟩]
      unfold GvEE
      generalize ctL l lo hi = LL at *
      generalize ctO l lo hi = OO at *
      clear hok hg h
      go_enter Try.func11, Try.ntmps11
      go_wp2_with fail
      refine hV.out.mono ?_
      rintro e w1 ⟨rfl, bel1⟩
      replace hL := W_hid (hL.out.keep bel1)
      go_wp2_with fail
      refine (hI.out _).mono ?_
      rintro e w2 ⟨rfl, rfl⟩
      go_wp2_with fail
      refine (hR.out _ hL.out).mono ?_
      rintro e w3 ⟨v, rfl, hown, bel3⟩
      obtain ⟨va, vc, rfl⟩ := Own.form hown
      replace hL := W_hid (hL.out.keep bel3)
      have hm := ML.made lo hi hL.out.1 hL.out.2
      obtain ⟨w4, hw4⟩ : ∃ w4, ((w3.alloc (.cells #[.slice ao n cap] 22)).alloc (.cells #[.int .u64 (lo : Int)] 23)).alloc (.cells #[.int .u64 (hi : Int)] 23) = w4 := ⟨_, rfl⟩
      have bel4 : Below w3.heap.size w3 w4 := by rw [← hw4]; exact (((Below.refl _ _).alloc (Nat.le_refl _) _).alloc (by simp) _).alloc (by simp; omega) _
      rw [hw4] at hm
      have hlt := W_hid (fun g hg => Nat.lt_of_lt_of_le (gown_cells hown g hg).1.lt bel4.size)
      have hown4 := W_hid (Own.low bel1.size (Own.below hown bel4))
      have bb := (bel1.trans (bel3.mono bel1.size)).trans (bel4.mono (Nat.le_trans bel1.size bel3.size))
      go_wp2_with fail
      refine (hMk.out _).mono ?_
      rintro e w4' ⟨rfl, rfl⟩
      rw [hw4]
      clear hw4 hown
      go_wp2_with fail
      refine (hG.out _ _ _ _ hm).mono ?_
      rintro e w5 ⟨v2, rfl, hown2, bel5⟩
      obtain ⟨vb, vd, rfl⟩ := Own.form hown2
      have hown5 := W_hid (Own.below hown4.out bel5)
      go_wp2_with fail
      refine bodyPost_ret (results_tmp3 rfl _ _ _) rfl ?_
      exact ⟨va, vc, vb, vd, w4.heap.size, by rw [hE.out]; rfl, hown5.out, hlt.out, bb.size, hown2, bb.trans (bel5.mono bb.size)⟩
    · rw [decide_eq_false hg] at hI
      have hE : Hid (ctE l lo hi = 2 ∧ ctL l lo hi = [] ∧ ctO l lo hi = []) := by
        show _ ∧ _ ∧ _
        unfold ctE ctL ctO
        rw [if_neg (fun h => hg h.2), if_neg (fun h => hg h.2), if_neg (fun h => hg h.2)]
        exact ⟨rfl, rfl, rfl⟩
      unfold GvEE
      rw [hE.out.1, hE.out.2.1, hE.out.2.2]
      clear hok hg h
      go_enter Try.func11, Try.ntmps11
      go_wp2_with fail
      refine hV.out.mono ?_
      rintro e w1 ⟨rfl, bel1⟩
      go_wp2_with fail
      refine (hI.out _).mono ?_
      rintro e w2 ⟨rfl, rfl⟩
      go_wp2_with fail
      refine bodyPost_ret (results_tmp3 rfl _ _ _) rfl ?_
      exact ⟨none, 0, none, 0, w.heap.size, rfl, World.ownsRow_nil _ _ _ _, (fun g hg => by cases hg), Nat.le_refl _, World.ownsRow_nil _ _ _ _, bel1⟩
  · rw [decide_eq_false hok] at hV
    replace hV := W_hid hV
    have hE : Hid (ctE l lo hi = 2 ∧ ctL l lo hi = [] ∧ ctO l lo hi = []) := by
      show _ ∧ _ ∧ _
      unfold ctE ctL ctO
      rw [if_neg (fun h => hok h.1), if_neg (fun h => hok h.1), if_neg (fun h => hok h.1)]
      exact ⟨rfl, rfl, rfl⟩
    unfold GvEE
    rw [hE.out.1, hE.out.2.1, hE.out.2.2]
    clear hok h
    go_enter Try.func11, Try.ntmps11
    go_wp2_with fail
    refine hV.out.mono ?_
    rintro e w1 ⟨rfl, bel1⟩
    go_wp2_with fail
    refine bodyPost_ret (results_tmp3 rfl _ _ _) rfl ?_
    exact ⟨none, 0, none, 0, w.heap.size, rfl, World.ownsRow_nil _ _ _ _, (fun g hg => by cases hg), Nat.le_refl _, World.ownsRow_nil _ _ _ _, bel1⟩

/-- The region that has an address, as the program finds it. -/
noncomputable def atV (l : List Rg) (va : Nat) : Value := fstV (if RG.Ok true none l ∧ va < 140737488355328 then RG.meeting va (va + 1) l else [])
end Go.Proofs.Ytfbhcnamkojboaa

/- Protect: the program's, and the document's. -/
import Derived.Test.YtfbhcnamkojboaaRegRef5
namespace Go.Proofs.Ytfbhcnamkojboaa
open Go.ChangeShapes Go.WideShapes Go.ChangeAt Go.RowKit
open SQ
set_option linter.unusedVariables false
set_option linter.unusedSimpArgs false
open RG (Rg)

/-- Another permission. -/
def stp (p : Int) (r : Rg) : Rg := { r with p := p }
def prOk (l : List Rg) (lo hi : Nat) (p : Int) : Prop := RG.Ok true none l ∧ RG.isRange lo hi ∧ RG.isPerm p
noncomputable instance (l : List Rg) (lo hi : Nat) (p : Int) : Decidable (prOk l lo hi p) := Classical.propDecidable _
noncomputable def prL (l : List Rg) (lo hi : Nat) (p : Int) : List Rg := if prOk l lo hi p ∧ RG.cov hi lo (RG.parts lo hi l) then RG.rep l lo hi ((RG.parts lo hi l).map (stp p)) else []
noncomputable def prE (l : List Rg) (lo hi : Nat) (p : Int) : Int := if prOk l lo hi p then (if RG.cov hi lo (RG.parts lo hi l) then 0 else 103) else 2
theorem pr_arg {l : List Rg} {lo hi : Nat} {p : Int} (h : ¬ prOk l lo hi p) : prE l lo hi p = 2 ∧ prL l lo hi p = [] := by
  unfold prE prL
  rw [if_neg h, if_neg (fun h' => h h'.1)]
  exact ⟨rfl, rfl⟩
theorem pr_gap {l : List Rg} {lo hi : Nat} {p : Int} (h : prOk l lo hi p) (hc : ¬ RG.cov hi lo (RG.parts lo hi l)) : prE l lo hi p = 103 ∧ prL l lo hi p = [] := by
  unfold prE prL
  rw [if_pos h, if_neg hc, if_neg (fun h' => hc h'.2)]
  exact ⟨rfl, rfl⟩
theorem pr_yes {l : List Rg} {lo hi : Nat} {p : Int} (h : prOk l lo hi p) (hc : RG.cov hi lo (RG.parts lo hi l)) : prE l lo hi p = 0 ∧ prL l lo hi p = RG.one (RG.parts 0 lo l ++ (RG.parts lo hi l).map (stp p) ++ RG.parts hi 140737488355328 l) := by
  unfold prE prL
  rw [if_pos h, if_pos hc, if_pos ⟨h, hc⟩]
  exact ⟨rfl, rfl⟩
theorem rcl_stp (A B : List Rg) (x : Rg) (p : Int) (k : Nat) (hk : A.length = k) : (rcl (A ++ x :: B)).set (k * 4 + 2) (.int .i64 p) = rcl (A ++ stp p x :: B) := by
  rw [rcl_append, rcl_append, List.set_append_right _ _ (by rw [rcl_length]; omega), rcl_length, hk, show k * 4 + 2 - k * 4 = 2 by omega, rcl_cons, rcl_cons]
  rfl
/-- The row in the loop: so many are turned. -/
def half (p : Int) (X : List Rg) (k : Nat) : List Rg := (X.take k).map (stp p) ++ X.drop k
theorem half_length (p : Int) (X : List Rg) (k : Nat) : (half p X k).length = X.length := by
  unfold half
  rw [List.length_append, List.length_map, List.length_take, List.length_drop]
  omega
theorem half_zero (p : Int) (X : List Rg) : half p X 0 = X := by simp [half]
theorem half_all (p : Int) (X : List Rg) : half p X X.length = X.map (stp p) := by simp [half]
theorem half_next (p : Int) (X : List Rg) (k : Nat) (hk : k < X.length) : (rcl (half p X k)).set (k * 4 + 2) (.int .i64 p) = rcl (half p X (k + 1)) := by
  unfold half
  rw [List.drop_eq_getElem_cons hk, rcl_stp _ _ _ _ k (by rw [List.length_map, List.length_take]; omega), List.take_succ_eq_append_getElem hk, List.map_append, List.append_assoc]
  rfl

set_option maxRecDepth 100000 in
set_option maxHeartbeats 4000000 in
theorem Protect_none (ao : Option Addr) (n cap : Nat) (l : List Rg) (lo hi : Nat) (p : Int) (w : World) (h : GL w ao n cap l) (hno : ¬ prOk l lo hi p) :
    GvE 13 #[.slice ao n cap, .int .u64 (lo : Int), .int .u64 (hi : Int), .int .i64 p] [] 2 w := by
  have hV := valid_any ao n cap l _ h.1
  have hI := W_hid (fun w => isRange_any lo hi w)
  have hP := W_hid (fun w => gPerm_any p w)
  by_cases hok : RG.Ok true none l
  · rw [decide_eq_true hok] at hV
    replace hV := W_hid hV
    by_cases hg : RG.isRange lo hi
    · rw [decide_eq_true hg] at hI
      rw [decide_eq_false (fun hp => hno ⟨hok, hg, hp⟩)] at hP
      refine GvE.none ?_
      clear hok hg h hno
      go_enter Try.func13, Try.ntmps13
      go_wp2_with fail
      refine hV.out.mono ?_
      rintro e w1 ⟨rfl, bel1⟩
      go_wp2_with fail
      refine (hI.out _).mono ?_
      rintro e w2 ⟨rfl, rfl⟩
      go_wp2_with fail
      refine (hP.out _).mono ?_
      rintro e w2 ⟨rfl, rfl⟩
      go_wp2_with fail
      go_ret2
      exact ⟨rfl, bel1⟩
    · rw [decide_eq_false hg] at hI
      refine GvE.none ?_
      clear hok hg h hno
      go_enter Try.func13, Try.ntmps13
      go_wp2_with fail
      refine hV.out.mono ?_
      rintro e w1 ⟨rfl, bel1⟩
      go_wp2_with fail
      refine (hI.out _).mono ?_
      rintro e w2 ⟨rfl, rfl⟩
      go_wp2_with fail
      go_ret2
      exact ⟨rfl, bel1⟩
  · rw [decide_eq_false hok] at hV
    replace hV := W_hid hV
    refine GvE.none ?_
    clear hok h hno
    go_enter Try.func13, Try.ntmps13
    go_wp2_with fail
    refine hV.out.mono ?_
    rintro e w1 ⟨rfl, bel1⟩
    go_wp2_with fail
    go_ret2
    exact ⟨rfl, bel1⟩

set_option maxRecDepth 100000 in
set_option maxHeartbeats 4000000 in
theorem Protect_any (ao : Option Addr) (n cap : Nat) (l : List Rg) (lo hi : Nat) (p : Int) (w : World) (h : GL w ao n cap l) :
    GvE 13 #[.slice ao n cap, .int .u64 (lo : Int), .int .u64 (hi : Int), .int .i64 p] (prL l lo hi p) (prE l lo hi p) w := by
  by_cases hpr : prOk l lo hi p
  case neg =>
    rw [(pr_arg hpr).1, (pr_arg hpr).2]
    exact Protect_none ao n cap l lo hi p w h hpr
  have hV := valid_any ao n cap l _ h.1
  have hI := W_hid (fun w => isRange_any lo hi w)
  have hP := W_hid (fun w => gPerm_any p w)
  have hC := W_hid (fun w h => covers_any ao n cap l lo hi w h)
  have hL := W_hid h
  rw [decide_eq_true hpr.1] at hV
  rw [decide_eq_true hpr.2.1] at hI
  rw [decide_eq_true hpr.2.2] at hP
  have hll := ok_len hpr.1
  replace hV := W_hid hV
  by_cases hc : RG.cov hi lo (RG.parts lo hi l)
  · rw [decide_eq_true hc] at hC
    have hMk := W_hid (fun w => parts_any ao n cap lo hi w)
    have hG := W_hid (fun w b1 b2 b3 h1 => gather_parts ao n cap l lo hi b1 b2 b3 w h1 hll)
    obtain ⟨hE1, hE2⟩ := pr_yes hpr hc
    have hXl : (RG.parts lo hi l).length ≤ 34359738368 := by rw [parts_len]; exact Nat.le_trans (List.length_filter_le _ _) hll
    have hself : RG.parts lo hi ((RG.parts lo hi l).map (stp p)) = (RG.parts lo hi l).map (stp p) := RG.parts_self (fun r hr => by
      obtain ⟨x, hx, rfl⟩ := List.mem_map.1 hr
      have h := RG.mem_parts hx
      exact h)
    have hR : Hid (∀ w ai capi, GL w ao n cap l → GL w ai (RG.parts lo hi l).length capi ((RG.parts lo hi l).map (stp p)) → GvL 21 #[.slice ao n cap, .int .u64 (lo : Int), .int .u64 (hi : Int), .slice ai (RG.parts lo hi l).length capi] (prL l lo hi p) w) := by
      intro w ai capi h1 h2
      have := replace_any ao ai n cap _ capi l _ lo hi w h1 h2 hll (by rw [List.length_map]; exact hXl)
      rw [hself, ← hE2] at this
      exact this
    rw [hE1]
    unfold GvE
    generalize prL l lo hi p = LL at *
    generalize RG.parts lo hi l = X at *
    obtain ⟨N, hN⟩ : ∃ N, X.length = N := ⟨_, rfl⟩
    rw [hN] at hR hXl
    have hG : Hid (∀ w b1 b2 b3, ML ao n cap l lo hi b1 b2 b3 w → Calls Try.prog 27 #[.func (.func 40) #[] #[.pointer (some ⟨b1, 0, none⟩), .pointer (some ⟨b2, 0, none⟩), .pointer (some ⟨b3, 0, none⟩)]] w fun e w' => ∃ a c, e = .returned (.slice a N c) ∧ w'.ownsRow w.heap.size 25 4 (.slice a N c) N (rcl (half p X 0)) ∧ Below w.heap.size w w') := by
      intro w b1 b2 b3 h1
      have := (hG.out w b1 b2 b3 h1).low
      rw [hN] at this
      rw [half_zero]
      exact this
    have hall : Hid (half p X N = X.map (stp p)) := by show _ = _; rw [← hN]; exact half_all p X
    have hnext : Hid (∀ k, k < N → (rcl (half p X k)).set (k * 4 + 2) (.int .i64 p) = rcl (half p X (k + 1))) := fun k hk => half_next p X k (by omega)
    have hhl : Hid (∀ k, (rcl (half p X k)).length = N * 4) := fun k => by rw [rcl_length, half_length, hN]
    replace hN := W_hid hN
    clear hpr hc h hE1 hE2 hself hll
    go_enter Try.func13, Try.ntmps13
    go_wp2_with fail
    refine hV.out.mono ?_
    rintro e w1 ⟨rfl, bel1⟩
    replace hL := W_hid (hL.out.keep bel1)
    go_wp2_with fail
    refine (hI.out _).mono ?_
    rintro e w2 ⟨rfl, rfl⟩
    go_wp2_with fail
    refine (hP.out _).mono ?_
    rintro e w2 ⟨rfl, rfl⟩
    go_wp2_with fail
    refine (hC.out _ hL.out).mono ?_
    rintro e w3 ⟨rfl, bel3⟩
    replace hL := W_hid (hL.out.keep bel3)
    have bb := bel1.trans (bel3.mono bel1.size)
    have hm := ML.made lo hi hL.out.1 hL.out.2
    obtain ⟨w4, hw4⟩ : ∃ w4, ((w3.alloc (.cells #[.slice ao n cap] 22)).alloc (.cells #[.int .u64 (lo : Int)] 23)).alloc (.cells #[.int .u64 (hi : Int)] 23) = w4 := ⟨_, rfl⟩
    have bel4 : Below w3.heap.size w3 w4 := by rw [← hw4]; exact (((Below.refl _ _).alloc (Nat.le_refl _) _).alloc (by simp) _).alloc (by simp; omega) _
    rw [hw4] at hm
    replace hL := W_hid (hL.out.keep bel4)
    replace bb := bb.trans (bel4.mono bb.size)
    clear bel1 bel3 bel4 hC hP hI hV
    go_wp2_with fail
    refine (hMk.out _).mono ?_
    rintro e w4' ⟨rfl, rfl⟩
    rw [hw4]
    clear hw4
    go_wp2_with fail
    refine (hG.out _ _ _ _ hm).mono ?_
    rintro e w5 ⟨a5, c5, rfl, hown5, bel5⟩
    have hLr := W_hid (hL.out.keep bel5)
    have hlies := W_hid (fun h => own_lies hown5 h)
    have hB4 := bb.size
    have h45 := bel5.size
    have hLs : Hid (∀ w' : World, Below w4.heap.size w5 w' → GL w' ao n cap l) := fun w' hb => hL.out.keep (bel5.trans hb)
    replace bb := bb.trans (bel5.mono bb.size)
    clear hMk hG hm bel5 hL
    go_wp2_with fail
    go_loopw [11, 38] (fun j i wr => ∃ k : Nat, k ≤ N ∧ i = .int .i64 k ∧ wr.ownsRow w4.heap.size 25 4 (.slice a5 N c5) N (rcl (half p X k)) ∧ Below w4.heap.size w5 wr ∧ Below w.heap.size w wr) (fun _ i _ => N - (intOf i).toNat)
    case atStart => exact ⟨0, Nat.zero_le _, rfl, hown5, Below.refl _ _, bb⟩
    case round =>
      clear hown5 bb
      obtain ⟨k, hk, rfl, hown, belr, bel⟩ := hrel
      by_cases hlt : k < N
      · obtain ⟨g, rfl, hg1, hg2⟩ := hlies.out (by omega)
        have hxl := hhl.out k
        have e3 : wr.cell? ⟨g, k * 4 + 2, none⟩ = some ((rcl (half p X k))[k * 4 + 2]'(by omega)) := by rw [hown.cellAt (k * 4 + 2) (by omega), List.getElem?_eq_getElem (by omega)]
        have ff := hown.frozenAt
        have q2 := (hown.stored (k * 4 + 2) (.int .i64 p)).1
        rw [hnext.out k hlt] at q2
        have q3 := belr.setCell (p := ⟨g, k * 4 + 2, none⟩) hg1 (.int .i64 p)
        have q4 := bel.setCell (p := ⟨g, k * 4 + 2, none⟩) (Nat.le_trans hB4 hg1) (.int .i64 p)
        obtain ⟨u3, hu3⟩ : ∃ u, (rcl (half p X k))[k * 4 + 2]'(by omega) = u := ⟨_, rfl⟩
        rw [hu3] at e3
        clear hown bel belr hu3 hxl
        go_wp2_with fail
        go_roundw
        case rel => exact ⟨k + 1, by omega, by go_num, q2, q3, q4⟩
        case measure => simp [intOf]; omega
      · obtain rfl : k = N := by omega
        have hRR := W_hid (hR.out wr _ _ (hLs.out wr belr) (GL_own (by rw [← hall.out]; exact hown)))
        clear hown hlies
        go_wp2_with fail
        refine hRR.out.low.mono ?_
        rintro e w6 ⟨a6, c6, rfl, hown6, bel6⟩
        go_wp2_with fail
        go_ret2
        exact ⟨_, _, rfl, Own.low bel.size hown6, bel.trans (bel6.mono bel.size)⟩
  · rw [decide_eq_false hc] at hC
    rw [(pr_gap hpr hc).1, (pr_gap hpr hc).2]
    refine GvE.none ?_
    clear hpr hc h
    go_enter Try.func13, Try.ntmps13
    go_wp2_with fail
    refine hV.out.mono ?_
    rintro e w1 ⟨rfl, bel1⟩
    replace hL := W_hid (hL.out.keep bel1)
    go_wp2_with fail
    refine (hI.out _).mono ?_
    rintro e w2 ⟨rfl, rfl⟩
    go_wp2_with fail
    refine (hP.out _).mono ?_
    rintro e w2 ⟨rfl, rfl⟩
    go_wp2_with fail
    refine (hC.out _ hL.out).mono ?_
    rintro e w3 ⟨rfl, bel3⟩
    go_wp2_with fail
    go_ret2
    exact ⟨rfl, bel1.trans (bel3.mono bel1.size)⟩
end Go.Proofs.Ytfbhcnamkojboaa

/- The document's Protect. -/
import Derived.Test.YtfbhcnamkojboaaRegProt
namespace Go.Proofs.Ytfbhcnamkojboaa
open Go.ChangeShapes Go.WideShapes Go.ChangeAt Go.RowKit
open SQ
set_option linter.unusedVariables false
set_option linter.unusedSimpArgs false
open RG (Rg)

set_option maxRecDepth 100000 in
set_option maxHeartbeats 4000000 in
theorem rProtect_none (ao : Option Addr) (n cap : Nat) (l : List Rg) (lo hi : Nat) (p : Int) (w : World) (h : GL w ao n cap l) (hno : ¬ prOk l lo hi p) :
    GvE 14 #[.slice ao n cap, .int .u64 (lo : Int), .int .u64 (hi : Int), .int .i64 p] [] 2 w := by
  have hV := rgRight_any ao n cap l _ h.1
  have hI := W_hid (fun w => rRange_any lo hi w)
  by_cases hok : RG.Ok true none l
  · rw [decide_eq_true hok] at hV
    replace hV := W_hid hV
    by_cases hg : RG.isRange lo hi
    · rw [decide_eq_true hg] at hI
      have hp : ¬ (1 ≤ p ∧ p ≤ 7) := fun hp => hno ⟨hok, hg, hp⟩
      refine GvE.none ?_
      clear hok hg h hno
      by_cases h1 : p < 1
      · clear hp
        go_enter Try.func14, Try.ntmps14
        go_wp2_with fail
        refine hV.out.mono ?_
        rintro e w1 ⟨rfl, bel1⟩
        go_wp2_with fail
        refine (hI.out _).mono ?_
        rintro e w2 ⟨rfl, rfl⟩
        go_wp2_with fail
        go_ret2
        exact ⟨rfl, bel1⟩
      · have h2 : 7 < p := by omega
        clear hp
        go_enter Try.func14, Try.ntmps14
        go_wp2_with fail
        refine hV.out.mono ?_
        rintro e w1 ⟨rfl, bel1⟩
        go_wp2_with fail
        refine (hI.out _).mono ?_
        rintro e w2 ⟨rfl, rfl⟩
        go_wp2_with fail
        go_ret2
        exact ⟨rfl, bel1⟩
    · rw [decide_eq_false hg] at hI
      refine GvE.none ?_
      clear hok hg h hno
      go_enter Try.func14, Try.ntmps14
      go_wp2_with fail
      refine hV.out.mono ?_
      rintro e w1 ⟨rfl, bel1⟩
      go_wp2_with fail
      refine (hI.out _).mono ?_
      rintro e w2 ⟨rfl, rfl⟩
      go_wp2_with fail
      go_ret2
      exact ⟨rfl, bel1⟩
  · rw [decide_eq_false hok] at hV
    replace hV := W_hid hV
    obtain ⟨b, hb⟩ : ∃ b, decide (RG.isRange lo hi) = b := ⟨_, rfl⟩
    rw [hb] at hI
    refine GvE.none ?_
    clear hok h hno hb
    go_enter Try.func14, Try.ntmps14
    go_wp2_with fail
    refine hV.out.mono ?_
    rintro e w1 ⟨rfl, bel1⟩
    go_wp2_with fail
    refine (hI.out _).mono ?_
    rintro e w2 ⟨rfl, rfl⟩
    go_wp2_with fail
    go_ret2
    exact ⟨rfl, bel1⟩

theorem parts_good {s : Bool} {x : Option Rg} {l : List Rg} {lo hi : Nat} (h : RG.Ok s x l) (hr : RG.isRange lo hi) : RG.Sz (RG.parts lo hi l) ≤ 140737488355328 ∧ ∀ r ∈ RG.parts lo hi l, r.f ≤ r.t ∧ r.t < 18446744073709551616 := by
  have h1 := RG.ok_parts lo hi hr.1 hr.2.1 h
  refine ⟨RG.Sz_top h1, fun r hr => ?_⟩
  have h2 := (h1.good_of r hr).1
  have h3 : r.f < r.t := h2.2.2.1
  have h4 : r.t ≤ 140737488355328 := h2.2.2.2
  omega

set_option maxRecDepth 100000 in
set_option maxHeartbeats 4000000 in
theorem rProtect_any (ao : Option Addr) (n cap : Nat) (l : List Rg) (lo hi : Nat) (p : Int) (w : World) (h : GL w ao n cap l) :
    GvE 14 #[.slice ao n cap, .int .u64 (lo : Int), .int .u64 (hi : Int), .int .i64 p] (prL l lo hi p) (prE l lo hi p) w := by
  by_cases hpr : prOk l lo hi p
  case neg =>
    rw [(pr_arg hpr).1, (pr_arg hpr).2]
    exact rProtect_none ao n cap l lo hi p w h hpr
  have hV := rgRight_any ao n cap l _ h.1
  have hI := W_hid (fun w => rRange_any lo hi w)
  have hL := W_hid h
  rw [decide_eq_true hpr.1] at hV
  rw [decide_eq_true hpr.2.1] at hI
  obtain ⟨hp1, hp2⟩ := hpr.2.2
  have hll := ok_len hpr.1
  obtain ⟨hs1, hs2⟩ := parts_good hpr.1 hpr.2.1
  have hcv := RG.cov_parts hpr.1 hpr.2.1
  have hlt : lo < hi := hpr.2.1.2.2.1
  have hle : hi ≤ 140737488355328 := hpr.2.1.2.2.2
  replace hV := W_hid hV
  have hPm := W_hid (fun w h => (rParts_any ao n cap l lo hi w h hll).low)
  have hSz : Hid (∀ w a c, RS w a (RG.parts lo hi l).length c (RG.parts lo hi l) → Calls Try.prog 32 #[.slice a (RG.parts lo hi l).length c] w fun e w' => e = .returned (.int .u64 ((RG.Sz (RG.parts lo hi l) : Nat) : Int)) ∧ Below w.heap.size w w') :=
    fun w a c h => RSize_any a _ c _ w h hs2 (by omega)
  obtain ⟨D, hD⟩ : ∃ D, hi - lo = D := ⟨_, rfl⟩
  have hDi : (hi : Int) - (lo : Int) = (D : Int) := by omega
  have hDb : D ≤ 140737488355328 := by omega
  rw [hD] at hcv
  clear hs2 hD hlt hle
  by_cases hc : RG.cov hi lo (RG.parts lo hi l)
  · rw [hcv.1 hc] at hSz
    obtain ⟨hE1, hE2⟩ := pr_yes hpr hc
    have hXl : (RG.parts lo hi l).length ≤ 34359738368 := by rw [parts_len]; exact Nat.le_trans (List.length_filter_le _ _) hll
    have hX1 : (RG.parts 0 lo l).length ≤ 34359738368 := by rw [parts_len]; exact Nat.le_trans (List.length_filter_le _ _) hll
    have hX3 : (RG.parts hi 140737488355328 l).length ≤ 34359738368 := by rw [parts_len]; exact Nat.le_trans (List.length_filter_le _ _) hll
    have hP1 := W_hid (fun w h => (rParts_any ao n cap l 0 lo w h hll).low)
    have hP3 := W_hid (fun w h => (rParts_any ao n cap l hi 140737488355328 w h hll).low)
    have hJ : Hid (∀ W a1 c1 a2 c2 a3 c3, GL W a1 (RG.parts 0 lo l).length c1 (RG.parts 0 lo l) → GL W a2 (RG.parts lo hi l).length c2 ((RG.parts lo hi l).map (stp p)) → GL W a3 (RG.parts hi 140737488355328 l).length c3 (RG.parts hi 140737488355328 l) →
        Calls Try.prog 25 #[.slice a1 (RG.parts 0 lo l).length c1, .slice a2 (RG.parts lo hi l).length c2, .slice a3 (RG.parts hi 140737488355328 l).length c3] W fun e W' => ∃ a c, e = .returned (.slice a (prL l lo hi p).length c) ∧ W'.ownsRow W.heap.size 25 4 (.slice a (prL l lo hi p).length c) (prL l lo hi p).length (rcl (prL l lo hi p)) ∧ Below W.heap.size W W') := by
      intro W a1 c1 a2 c2 a3 c3 g1 g2 g3
      have := (rjoined_any a1 a2 a3 _ c1 _ c2 _ c3 _ _ _ W g1 g2 g3 (by omega)).low
      rw [← hE2] at this
      exact this
    rw [hE1]
    unfold GvE
    generalize prL l lo hi p = LL at *
    generalize RG.parts 0 lo l = X1 at *
    generalize RG.parts hi 140737488355328 l = X3 at *
    generalize RG.parts lo hi l = X at *
    obtain ⟨N, hN⟩ : ∃ N, X.length = N := ⟨_, rfl⟩
    rw [hN] at hJ hXl hSz
    have hPm : Hid (∀ w, RS w ao n cap l → Calls Try.prog 24 #[.slice ao n cap, .int .u64 (lo : Int), .int .u64 (hi : Int)] w fun e w' => ∃ a c, e = .returned (.slice a N c) ∧ w'.ownsRow w.heap.size 25 4 (.slice a N c) N (rcl (half p X 0)) ∧ Below w.heap.size w w') := by
      intro w h1
      have := hPm.out w h1
      rw [hN] at this
      rw [half_zero]
      exact this
    have hall : Hid (half p X N = X.map (stp p)) := by show _ = _; rw [← hN]; exact half_all p X
    have hz0 : Hid (half p X 0 = X) := half_zero p X
    have hnext : Hid (∀ k, k < N → (rcl (half p X k)).set (k * 4 + 2) (.int .i64 p) = rcl (half p X (k + 1))) := fun k hk => half_next p X k (by omega)
    have hhl : Hid (∀ k, (rcl (half p X k)).length = N * 4) := fun k => by rw [rcl_length, half_length, hN]
    replace hN := W_hid hN
    clear hpr hc h hE1 hE2 hll hcv hs1 hX1 hX3
    go_enter Try.func14, Try.ntmps14
    go_wp2_with fail
    refine hV.out.mono ?_
    rintro e w1 ⟨rfl, bel1⟩
    replace hL := W_hid (hL.out.keep bel1)
    go_wp2_with fail
    refine (hI.out _).mono ?_
    rintro e w2 ⟨rfl, rfl⟩
    go_wp2_with fail
    refine (hPm.out _ hL.out.1).mono ?_
    rintro e w3 ⟨a5, c5, rfl, hown3, bel3⟩
    have bb := bel1.trans (bel3.mono bel1.size)
    have hR3 := RS_own hown3
    rw [hz0.out] at hR3
    replace hR3 := W_hid hR3
    have hB4 := bel1.size
    clear bel1 hPm hI hV
    go_wp2_with fail
    refine (hSz.out _ _ _ hR3.out).mono ?_
    rintro e w5 ⟨rfl, bel5⟩
    have hown5 := Own.below hown3 bel5
    have bel35 := bel3.trans (bel5.mono bel3.size)
    have hLs : Hid (∀ w' : World, Below w1.heap.size w5 w' → GL w' ao n cap l) := fun w' hb => hL.out.keep (bel35.trans hb)
    have hlies := W_hid (fun h => own_lies hown5 h)
    replace bb := bb.trans (bel5.mono bb.size)
    clear hR3 bel5 bel35 bel3 hown3 hSz hL
    go_wp2_with fail
    go_loopw [13] (fun i wr => ∃ k : Nat, k ≤ N ∧ i = .int .i64 k ∧ wr.ownsRow w1.heap.size 25 4 (.slice a5 N c5) N (rcl (half p X k)) ∧ Below w1.heap.size w5 wr ∧ Below w.heap.size w wr) (fun i _ => N - (intOf i).toNat)
    case atStart => exact ⟨0, Nat.zero_le _, rfl, hown5, Below.refl _ _, bb⟩
    case round =>
      clear hown5 bb
      obtain ⟨k, hk, rfl, hown, belr, bel⟩ := hrel
      by_cases hlt : k < N
      · obtain ⟨g, rfl, hg1, hg2⟩ := hlies.out (by omega)
        have hxl := hhl.out k
        have e3 : wr.cell? ⟨g, k * 4 + 2, none⟩ = some ((rcl (half p X k))[k * 4 + 2]'(by omega)) := by rw [hown.cellAt (k * 4 + 2) (by omega), List.getElem?_eq_getElem (by omega)]
        have ff := hown.frozenAt
        have q2 := (hown.stored (k * 4 + 2) (.int .i64 p)).1
        rw [hnext.out k hlt] at q2
        have q3 := belr.setCell (p := ⟨g, k * 4 + 2, none⟩) hg1 (.int .i64 p)
        have q4 := bel.setCell (p := ⟨g, k * 4 + 2, none⟩) (Nat.le_trans hB4 hg1) (.int .i64 p)
        obtain ⟨u3, hu3⟩ : ∃ u, (rcl (half p X k))[k * 4 + 2]'(by omega) = u := ⟨_, rfl⟩
        rw [hu3] at e3
        clear hown bel belr hu3 hxl
        go_wp2_with fail
        go_roundw
        case rel => exact ⟨k + 1, by omega, by go_num, q2, q3, q4⟩
        case measure => simp [intOf]; omega
      · obtain rfl : k = N := by omega
        have hGX := GL_own hown
        rw [hall.out] at hGX
        replace hGX := W_hid hGX
        have hGL := W_hid (hLs.out wr belr)
        clear hown hlies hLs belr
        go_wp2_with fail
        refine (hP1.out _ hGL.out.1).mono ?_
        rintro e w6 ⟨a6, c6, rfl, hown6, bel6⟩
        replace hGL := W_hid (hGL.out.keep bel6)
        replace hGX := W_hid (hGX.out.keep bel6)
        have bb := bel.trans (bel6.mono bel.size)
        have hG6 := W_hid (GL_own hown6)
        clear hown6 bel6 hP1
        go_wp2_with fail
        refine (hP3.out _ hGL.out.1).mono ?_
        rintro e w7 ⟨a7, c7, rfl, hown7, bel7⟩
        replace hGX := W_hid (hGX.out.keep bel7)
        replace hG6 := W_hid (hG6.out.keep bel7)
        replace bb := bb.trans (bel7.mono bb.size)
        have hG7 := W_hid (GL_own hown7)
        clear hown7 bel7 hP3
        go_wp2_with fail
        refine (hJ.out _ _ _ _ _ _ _ hG6.out hGX.out hG7.out).mono ?_
        rintro e w8 ⟨a8, c8, rfl, hown8, bel8⟩
        clear hG6 hG7 hGX hJ
        go_wp2_with fail
        go_ret2
        exact ⟨_, _, rfl, Own.low bb.size hown8, bb.trans (bel8.mono bb.size)⟩
  · obtain ⟨S, hS⟩ : ∃ S, RG.Sz (RG.parts lo hi l) = S := ⟨_, rfl⟩
    rw [hS] at hSz hs1 hcv
    have hne : ((S : Int) != (D : Int)) = true := by
      have : S ≠ D := fun e => hc (hcv.2 e)
      simp; omega
    have hne2 : ((S : Int) == (D : Int)) = false := by
      have : S ≠ D := fun e => hc (hcv.2 e)
      simp; omega
    rw [(pr_gap hpr hc).1, (pr_gap hpr hc).2]
    refine GvE.none ?_
    clear hpr hc h hcv hS
    go_enter Try.func14, Try.ntmps14
    go_wp2_with fail
    refine hV.out.mono ?_
    rintro e w1 ⟨rfl, bel1⟩
    replace hL := W_hid (hL.out.keep bel1)
    go_wp2_with fail
    refine (hI.out _).mono ?_
    rintro e w2 ⟨rfl, rfl⟩
    go_wp2_with fail
    refine (hPm.out _ hL.out.1).mono ?_
    rintro e w3 ⟨a5, c5, rfl, hown3, bel3⟩
    have bb := bel1.trans (bel3.mono bel1.size)
    have hR3 := W_hid (RS_own hown3)
    clear bel1 hPm hI hV hown3
    go_wp2_with fail
    refine (hSz.out _ _ _ hR3.out).mono ?_
    rintro e w5 ⟨rfl, bel5⟩
    go_wp2_with fail
    go_ret2
    exact ⟨rfl, bb.trans (bel5.mono bb.size)⟩
end Go.Proofs.Ytfbhcnamkojboaa

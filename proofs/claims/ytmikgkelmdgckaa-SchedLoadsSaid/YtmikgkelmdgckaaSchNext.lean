/- Contract of package sched: Next. -/
import Derived.Test.YtmikgkelmdgckaaSchOps
namespace Go.Proofs.Ytmikgkelmdgckaa
open Go.ChangeShapes Go.WideShapes Go.ChangeAt Go.RowKit
set_option linter.unusedVariables false
set_option linter.unusedSimpArgs false
set_option maxRecDepth 100000
namespace SD
open IN (Keeps lt_of_some)
open FM (one)
theorem ready_first {S : Qs} {k : Nat} (hk : k < 5) (h : ∀ j, j < k → lst S.P S.L j = []) {p : Int} {r : List Int} (hp : lst S.P S.L k = p :: r) : ∃ t, ready S = p :: t := by
  unfold ready
  have : k = 0 ∨ k = 1 ∨ k = 2 ∨ k = 3 ∨ k = 4 := by omega
  rcases this with rfl | rfl | rfl | rfl | rfl
  · exact ⟨_, by rw [hp]; rfl⟩
  · exact ⟨_, by rw [h 0 (by omega), hp]; rfl⟩
  · exact ⟨_, by rw [h 0 (by omega), h 1 (by omega), hp]; rfl⟩
  · exact ⟨_, by rw [h 0 (by omega), h 1 (by omega), h 2 (by omega), hp]; rfl⟩
  · exact ⟨_, by rw [h 0 (by omega), h 1 (by omega), h 2 (by omega), h 3 (by omega), hp]; rfl⟩
theorem ready_none {S : Qs} (h : ∀ j, j < 5 → lst S.P S.L j = []) : ready S = [] := by
  unfold ready
  rw [h 0 (by omega), h 1 (by omega), h 2 (by omega), h 3 (by omega), h 4 (by omega)]; rfl
theorem five_0 (v0 v1 v2 v3 v4 : Value) (w : World) : (Instr.index 56 (.agg #[v0, v1, v2, v3, v4]) (.int .i64 0)).run Try.prog w = .ok v0 w := by kernel_rfl
theorem five_1 (v0 v1 v2 v3 v4 : Value) (w : World) : (Instr.index 56 (.agg #[v0, v1, v2, v3, v4]) (.int .i64 1)).run Try.prog w = .ok v1 w := by kernel_rfl
theorem five_2 (v0 v1 v2 v3 v4 : Value) (w : World) : (Instr.index 56 (.agg #[v0, v1, v2, v3, v4]) (.int .i64 2)).run Try.prog w = .ok v2 w := by kernel_rfl
theorem five_3 (v0 v1 v2 v3 v4 : Value) (w : World) : (Instr.index 56 (.agg #[v0, v1, v2, v3, v4]) (.int .i64 3)).run Try.prog w = .ok v3 w := by kernel_rfl
theorem five_4 (v0 v1 v2 v3 v4 : Value) (w : World) : (Instr.index 56 (.agg #[v0, v1, v2, v3, v4]) (.int .i64 4)).run Try.prog w = .ok v4 w := by kernel_rfl
attribute [local go_sem] five_0 five_1 five_2 five_3 five_4
section
variable {base : Nat} {w : World} {qb : Nat} {S : Qs} {X : Nat → Prop} {c : Nat}
set_option maxRecDepth 100000 in
set_option maxHeartbeats 8000000 in
theorem Next_any (h : QW base w qb S X) (hG : Good c S) (hc : c ≤ 50000) : Calls Try.prog 11 #[ptr qb] w fun e w' => e = .returned (.tuple #[.int .i64 (nextR S).1.1, .int .i64 (nextR S).1.2]) ∧ QO base w qb (nextR S).2 X w' := by
  have hid := W_hid (fun w' (hb : Below w.heap.size w w') => h.same hb)
  obtain ⟨nb, vr, vl, hM, hX⟩ := h
  have hlen : S.P.length ≤ 60000 := by have := hG.len; omega
  have cQ := W_hid (qnone_no hM)
  have hnx : Hid (∀ k, k < 5 → (∀ j, j < k → lst S.P S.L j = []) → ∀ p r, lst S.P S.L k = p :: r →
      Calls Try.prog 24 #[ptr qb, .int .i64 p, .int .i64 (k : Int)] w fun e w1 => e = .returned (.tuple #[]) ∧
      Calls Try.prog 22 #[ptr qb, .int .i64 p, .int .i64 (k : Int)] w1 fun e w2 => e = .returned (.tuple #[]) ∧
      Calls Try.prog 25 #[ptr qb, .int .i64 p] w2 fun e w3 => e = .returned (.tuple #[]) ∧ nextR S = ((p, 0), (nextR S).2) ∧ QO base w qb (nextR S).2 X w3) := W_hid fun k hk he p r hp => by
    obtain ⟨t, ht⟩ := ready_first hk he hp
    have hnR : nextR S = ((p, 0), ⟨runP S.P p, off S.L p ++ [p]⟩) := by unfold nextR; rw [ht]
    rw [hnR]
    have hpm : p ∈ lst S.P S.L k := by rw [hp]; simp
    obtain ⟨x, hx, -, hlv⟩ := (lst_mem hG).1 hpm
    have hll : ∀ j, (lst S.P S.L j).length ≤ 60000 := fun j => by have := lst_len S j; have := hG.llen; omega
    refine (leave_any hM p hk (hll k)).mono ?_
    rintro e w1 ⟨rfl, v1, h3, h4, h5⟩
    refine ⟨rfl, (join_any h3 p hk ?_).mono ?_⟩
    · unfold updL
      rw [if_pos rfl]
      exact Nat.le_trans (off_len _ _) (hll k)
    rintro e w2 ⟨rfl, v2, h6, h7, h8⟩
    have hk2 := keeps_two h4 h7 h5
    have h58 : ∀ j, QX qb nb vr v2 j → QX qb nb vr vl j ∨ w.heap.size ≤ j := fun j hj => by
      rcases h8 j hj with h9 | h9
      · exact h5 j h9
      · exact .inr (Nat.le_trans h4.size h9)
    refine ⟨rfl, (run_any h6 hlen hG.load p).mono ?_⟩
    rintro e w3 ⟨rfl, h9, h10⟩
    refine ⟨rfl, rfl, QO.of hX h9 (fun j hj => ?_) (keeps_two hk2 h10 h58) h58⟩
    show lst (runP S.P p) (off S.L p ++ [p]) j = _
    rw [lsts_run, lst_app, lst_off, levP_some hx, hlv]
    unfold updL
    by_cases e : j = k
    · rw [if_pos e, if_pos e.symm, if_pos rfl, e]
    · rw [if_neg e, if_neg (fun e2 => e e2.symm), if_neg e, off_lst hG hx (.inr (by rw [hlv]; exact fun e2 => e e2.symm))]
  have hfm : ∀ k, k < 5 → ∃ n ao cap, vl k = .slice ao n cap ∧ (lst S.P S.L k = [] ∧ n = 0 ∨ ∃ p r g, lst S.P S.L k = p :: r ∧ ao = some ⟨g, 0, none⟩ ∧ (0 : Int) < (n : Int) ∧ n ≤ cap ∧ cap ≤ 9223372036854775807 ∧ w.cell? ⟨g, 0, none⟩ = some (.int .i64 p)) := fun k hk => by
    obtain ⟨ao, cap, e, hl, hat⟩ := list_at (hM.lst k hk)
    refine ⟨_, ao, cap, e, ?_⟩
    cases hp : lst S.P S.L k with
    | nil => exact .inl ⟨rfl, rfl⟩
    | cons p r =>
      obtain ⟨g, h1, h2, h3, h4, h5⟩ := hat 0 (by rw [hp]; simp)
      rw [hp] at h3
      exact .inr ⟨p, r, g, rfl, h1, by simp, by simpa using h3, h4, by simpa [hp] using h2⟩
  obtain ⟨n0, a0, k0, e0, d0⟩ := hfm 0 (by omega)
  obtain ⟨n1, a1, k1, e1, d1⟩ := hfm 1 (by omega)
  obtain ⟨n2, a2, k2, e2, d2⟩ := hfm 2 (by omega)
  obtain ⟨n3, a3, k3, e3, d3⟩ := hfm 3 (by omega)
  obtain ⟨n4, a4, k4, e4, d4⟩ := hfm 4 (by omega)
  have hbx := hM.box
  rw [e0, e1, e2, e3, e4] at hbx
  have z0 := hbx.cell (j := 0) rfl
  have z1 := hbx.cell (j := 1) rfl
  have z2 := hbx.cell (j := 2) rfl
  have z3 := hbx.cell (j := 3) rfl
  have z4 := hbx.cell (j := 4) rfl
  have z5 := hbx.cell (j := 5) rfl
  have hno := W_hid (fun hj => ready_none (S := S) hj)
  replace d0 := W_hid d0
  replace d1 := W_hid d1
  replace d2 := W_hid d2
  replace d3 := W_hid d3
  replace d4 := W_hid d4
  clear hM hX hbx hfm e0 e1 e2 e3 e4
  go_enter Try.func11, Try.ntmps11
  go_wp2_with (go_at_call 14; refine cQ.out.mono ?_; rintro e w' ⟨rfl, rfl⟩)
  go_loopw [4, 5, 6, 13] (fun _ _ _ i wr => ∃ k : Nat, k ≤ 5 ∧ i = .int .i64 (k : Int) ∧ Hid (∀ j, j < k → lst S.P S.L j = []) ∧ w = wr) (fun _ _ _ i _ => 5 - (intOf i).toNat)
  case atStart => exact ⟨0, Nat.zero_le _, rfl, W_hid fun j hj => absurd hj (Nat.not_lt_zero j), rfl⟩
  case round =>
    obtain ⟨k, hk, rfl, hem, hwr⟩ := hrel
    subst hwr
    by_cases hlt : k < 5
    · have hcs : k = 0 ∨ k = 1 ∨ k = 2 ∨ k = 3 ∨ k = 4 := by omega
      clear hk hlt
      rcases hcs with rfl | rfl | rfl | rfl | rfl
      · rcases d0.out with ⟨hl, rfl⟩ | ⟨q, r, g, hl, rfl, y1, y2, y3, y4⟩
        · have hnew : Hid (∀ j, j < 0 + 1 → lst S.P S.L j = []) := W_hid fun j hj => by
            by_cases e : j = 0
            · rw [e]; exact hl
            · exact hem.out j (by omega)
          clear hl hem
          go_wp2_with fail
          go_roundw
          case rel => exact ⟨0 + 1, by omega, by go_num, hnew, by first | trivial | rfl⟩
          case measure => simp [intOf]
        · have cV := W_hid (hnx.out 0 (by omega) hem.out q r hl)
          clear hl hem
          go_wp2_with (first
            | (go_at_call 24; refine cV.out.mono ?_; rintro e w1 ⟨rfl, cJ⟩; have cJ := W_hid cJ)
            | (go_at_call 22; refine cJ.out.mono ?_; rintro e w2 ⟨rfl, cR⟩; have cR := W_hid cR)
            | (go_at_call 25; refine cR.out.mono ?_; rintro e w3 ⟨rfl, hR, hO⟩; have hO := W_hid hO; have hR := W_hid hR))
          go_ret2
          exact ⟨by rw [hR.out]; rfl, hO.out⟩
      · rcases d1.out with ⟨hl, rfl⟩ | ⟨q, r, g, hl, rfl, y1, y2, y3, y4⟩
        · have hnew : Hid (∀ j, j < 1 + 1 → lst S.P S.L j = []) := W_hid fun j hj => by
            by_cases e : j = 1
            · rw [e]; exact hl
            · exact hem.out j (by omega)
          clear hl hem
          go_wp2_with fail
          go_roundw
          case rel => exact ⟨1 + 1, by omega, by go_num, hnew, by first | trivial | rfl⟩
          case measure => simp [intOf]
        · have cV := W_hid (hnx.out 1 (by omega) hem.out q r hl)
          clear hl hem
          go_wp2_with (first
            | (go_at_call 24; refine cV.out.mono ?_; rintro e w1 ⟨rfl, cJ⟩; have cJ := W_hid cJ)
            | (go_at_call 22; refine cJ.out.mono ?_; rintro e w2 ⟨rfl, cR⟩; have cR := W_hid cR)
            | (go_at_call 25; refine cR.out.mono ?_; rintro e w3 ⟨rfl, hR, hO⟩; have hO := W_hid hO; have hR := W_hid hR))
          go_ret2
          exact ⟨by rw [hR.out]; rfl, hO.out⟩
      · rcases d2.out with ⟨hl, rfl⟩ | ⟨q, r, g, hl, rfl, y1, y2, y3, y4⟩
        · have hnew : Hid (∀ j, j < 2 + 1 → lst S.P S.L j = []) := W_hid fun j hj => by
            by_cases e : j = 2
            · rw [e]; exact hl
            · exact hem.out j (by omega)
          clear hl hem
          go_wp2_with fail
          go_roundw
          case rel => exact ⟨2 + 1, by omega, by go_num, hnew, by first | trivial | rfl⟩
          case measure => simp [intOf]
        · have cV := W_hid (hnx.out 2 (by omega) hem.out q r hl)
          clear hl hem
          go_wp2_with (first
            | (go_at_call 24; refine cV.out.mono ?_; rintro e w1 ⟨rfl, cJ⟩; have cJ := W_hid cJ)
            | (go_at_call 22; refine cJ.out.mono ?_; rintro e w2 ⟨rfl, cR⟩; have cR := W_hid cR)
            | (go_at_call 25; refine cR.out.mono ?_; rintro e w3 ⟨rfl, hR, hO⟩; have hO := W_hid hO; have hR := W_hid hR))
          go_ret2
          exact ⟨by rw [hR.out]; rfl, hO.out⟩
      · rcases d3.out with ⟨hl, rfl⟩ | ⟨q, r, g, hl, rfl, y1, y2, y3, y4⟩
        · have hnew : Hid (∀ j, j < 3 + 1 → lst S.P S.L j = []) := W_hid fun j hj => by
            by_cases e : j = 3
            · rw [e]; exact hl
            · exact hem.out j (by omega)
          clear hl hem
          go_wp2_with fail
          go_roundw
          case rel => exact ⟨3 + 1, by omega, by go_num, hnew, by first | trivial | rfl⟩
          case measure => simp [intOf]
        · have cV := W_hid (hnx.out 3 (by omega) hem.out q r hl)
          clear hl hem
          go_wp2_with (first
            | (go_at_call 24; refine cV.out.mono ?_; rintro e w1 ⟨rfl, cJ⟩; have cJ := W_hid cJ)
            | (go_at_call 22; refine cJ.out.mono ?_; rintro e w2 ⟨rfl, cR⟩; have cR := W_hid cR)
            | (go_at_call 25; refine cR.out.mono ?_; rintro e w3 ⟨rfl, hR, hO⟩; have hO := W_hid hO; have hR := W_hid hR))
          go_ret2
          exact ⟨by rw [hR.out]; rfl, hO.out⟩
      · rcases d4.out with ⟨hl, rfl⟩ | ⟨q, r, g, hl, rfl, y1, y2, y3, y4⟩
        · have hnew : Hid (∀ j, j < 4 + 1 → lst S.P S.L j = []) := W_hid fun j hj => by
            by_cases e : j = 4
            · rw [e]; exact hl
            · exact hem.out j (by omega)
          clear hl hem
          go_wp2_with fail
          go_roundw
          case rel => exact ⟨4 + 1, by omega, by go_num, hnew, by first | trivial | rfl⟩
          case measure => simp [intOf]
        · have cV := W_hid (hnx.out 4 (by omega) hem.out q r hl)
          clear hl hem
          go_wp2_with (first
            | (go_at_call 24; refine cV.out.mono ?_; rintro e w1 ⟨rfl, cJ⟩; have cJ := W_hid cJ)
            | (go_at_call 22; refine cJ.out.mono ?_; rintro e w2 ⟨rfl, cR⟩; have cR := W_hid cR)
            | (go_at_call 25; refine cR.out.mono ?_; rintro e w3 ⟨rfl, hR, hO⟩; have hO := W_hid hO; have hR := W_hid hR))
          go_ret2
          exact ⟨by rw [hR.out]; rfl, hO.out⟩
    · obtain rfl : k = 5 := by omega
      have hr := hno.out hem.out
      have hnR : Hid (nextR S = ((0, 25), S)) := W_hid (by unfold nextR; rw [hr])
      clear hem hr hk
      go_wp2_with fail
      go_ret2
      rw [hnR.out]
      exact ⟨rfl, hid.out _ (Below.refl _ _)⟩
end
end SD
end Go.Proofs.Ytmikgkelmdgckaa

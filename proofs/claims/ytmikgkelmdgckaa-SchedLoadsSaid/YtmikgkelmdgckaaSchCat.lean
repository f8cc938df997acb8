/- Contracts of package sched: slices.Grow of nothing, slices.Concat of five lists, Ready. -/
import Derived.Test.YtmikgkelmdgckaaSchOps
import Derived.Test.YtmikgkelmdgckaaRowCopy
import Derived.Test.YtmikgkelmdgckaaSchIns
namespace Go.Proofs.Ytmikgkelmdgckaa
open Go.ChangeShapes Go.WideShapes Go.ChangeAt Go.RowKit
set_option linter.unusedVariables false
set_option linter.unusedSimpArgs false
set_option maxRecDepth 100000
namespace SD
open IN (Keeps lt_of_some)
open RL
def cat (ls : Nat → List Int) : Nat → List Int
  | 0 => []
  | k + 1 => cat ls k ++ ls k
theorem cat_len {ls : Nat → List Int} {c : Nat} (h : ∀ k, (ls k).length ≤ c) : ∀ k, (cat ls k).length ≤ k * c
  | 0 => by simp [cat]
  | k + 1 => by
    have h1 := cat_len h k
    have h2 := h k
    show (cat ls k ++ ls k).length ≤ _
    rw [List.length_append, Nat.succ_mul]
    omega
theorem ready_cat (S : Qs) : ready S = cat (lst S.P S.L) 5 := by simp [ready, cat]
theorem grow_zero (w : World) : Calls Try.prog 42 #[.slice none 0 0, .int .i64 0] w fun e w' => e = .returned (.slice none 0 0) ∧ w = w' := by
  go_enter Try.func42, Try.ntmps42
  go_wp2_with fail
  go_ret
  exact ⟨rfl, rfl⟩
set_option maxRecDepth 100000 in
set_option maxHeartbeats 4000000 in
theorem grow_some (m : Nat) (h0 : 0 < m) (hm : m ≤ 1000000) (w : World) : Calls Try.prog 42 #[.slice none 0 0, .int .i64 (m : Int)] w fun e w' => ∃ v, e = .returned v ∧ w'.ownsRow w.heap.size TI 1 v 0 [] ∧ Below w.heap.size w w' := by
  have hs1 := Own.cut_hi (t := 30) und_ints elem_ints info_int none 0 0 0 (Nat.le_refl _) (Nat.le_refl _) (.inl rfl)
  have hs2 := W_hid (fun (b c : Nat) (hc : m ≤ c) => Own.cut_hi (t := 30) und_ints elem_ints info_int (some ⟨b, 0, none⟩) m c 0 (Nat.zero_le _) hc (.inr ⟨_, _, rfl⟩))
  have hnx : Builtin.nextslicecap (0 + m) 0 * 8 ≤ 281474976710656 := by
    have := nextslicecap_le (need := m) (old := 0) (by omega)
    rw [Nat.zero_add]
    omega
  have hpos : (0 : Int) < (m : Int) := by omega
  have hge : ¬ (m : Int) < 0 := by omega
  go_enter Try.func42, Try.ntmps42
  go_wp2_with (at_builtin; refine wpList_zeros rfl (.tmp 20) (.tmp 21) 30 3 rfl und_ints Try.underlying3 info_int none 0 0 [] m rfl rfl h0 (by omega) (.inl ⟨rfl, rfl, rfl⟩) (by omega) (by unfold maxLen; omega) hnx ?_; intro w1 c1 zs tl hz hc1 hc2 ht hb1 hg1 hsz; rw [Nat.zero_add] at hc1; have hs3 := hs2.out w.heap.size c1 hc1; have hz := W_hid hz; have ht := W_hid ht; have hb1 := W_hid hb1; have hg1 := W_hid hg1)
  go_ret
  refine ⟨_, rfl, ⟨rfl, .inr ⟨_, c1, _, rfl, Nat.le_refl _, hb1.out, Nat.zero_le _, hc2, ?_, ?_⟩⟩, ⟨hg1.out.os, hg1.out.tape, hg1.out.output, hg1.out.size, fun k hk => hg1.out.block k hk (by simp)⟩⟩
  · have h1 := hz.out
    have h2 := ht.out
    simp [h1, h2]
    omega
  · simp
theorem own_src {w : World} {base n : Nat} {v : Value} {l : List Int} (h : w.ownsRow base TI 1 v n (icl l)) : Own.Src w 1 v n (icl l) := by
  obtain ⟨ao, cap, rfl⟩ := Own.form h
  have := Own.src_take h rfl n (Nat.le_refl _)
  rwa [List.take_of_length_le (by have := h.1; omega)] at this
theorem below_row {B : Nat} {w0 w w' : World} {row : Option Nat} (h : Below B w0 w) (hB : B ≤ w.heap.size) (hg : w.grownBy w' row) (hr : ∀ g, row = some g → B ≤ g) : Below B w0 w' :=
  ⟨hg.os.trans h.os, hg.tape.trans h.tape, hg.output.trans h.output, Nat.le_trans h.size hg.size, fun k hk => (hg.block k (by omega) (fun e => absurd (hr k e.symm) (by omega))).trans (h.block k hk)⟩
section
variable {base : Nat} {w : World} {qb nb : Nat} {vr : Value} {vl : Nat → Value} {P : List Pr} {ls : Nat → List Int}
set_option maxRecDepth 100000 in
set_option maxHeartbeats 8000000 in
theorem concat_any (h : QM base w qb nb vr vl P ls) (hlen : ∀ k, (ls k).length ≤ 50000) :
    Calls Try.prog 15 #[.slice (some ⟨qb, 1, none⟩) 5 5] w fun e w' => ∃ v, e = .returned v ∧ w'.ownsRow w.heap.size TI 1 v (cat ls 5).length (icl (cat ls 5)) ∧ Below w.heap.size w w' := by
  have hT := cat_len hlen
  have hat : Hid (∀ k, k < 5 → ∃ ao n cap, (ls k).length = n ∧ n ≤ 50000 ∧ ∀ W, Below w.heap.size w W → W.cell? ⟨qb, 1 + k, none⟩ = some (.slice ao n cap) ∧ Own.Src W 1 (.slice ao n cap) n (icl (ls k))) := W_hid fun k hk => by
    obtain ⟨ao, cap, e⟩ := Own.form (h.lst k hk)
    refine ⟨ao, _, cap, rfl, hlen k, fun W hW => ?_⟩
    have hM := h.keep hW
    have h1 := hM.cell hk
    have h2 := own_src (hM.lst k hk)
    rw [e] at h1 h2
    exact ⟨h1, h2⟩
  have hTT : Hid (∀ k, k ≤ 5 → (cat ls k).length ≤ 250000) := W_hid fun k hk => by have := hT k; omega
  clear h hT
  go_enter Try.func15, Try.ntmps15
  go_wp2_with fail
  go_loopw [3, 5, 11] (fun v _ i wr => ∃ k m : Nat, k ≤ 5 ∧ i = .int .i64 (k : Int) ∧ v = .int .i64 (m : Int) ∧ Hid ((cat ls k).length = m) ∧ m ≤ 250000 ∧ w = wr) (fun _ _ i _ => 5 - (intOf i).toNat)
  case atStart => exact ⟨0, 0, Nat.zero_le _, rfl, rfl, W_hid rfl, Nat.zero_le _, rfl⟩
  case round =>
    obtain ⟨k, m, hk, rfl, rfl, hm, hmm, hwr⟩ := hrel
    subst hwr
    by_cases hlt : k < 5
    · obtain ⟨ao, n, cap, hn, hn5, hc⟩ := hat.out k hlt
      have y1 := (hc w (Below.refl _ _)).1
      have hm2 : Hid ((cat ls (k + 1)).length = m + n) := W_hid (by show (cat ls k ++ ls k).length = _; rw [List.length_append, hm.out, hn])
      have hm3 : m + n ≤ 250000 := by rw [← hm2.out]; exact hTT.out (k + 1) (by omega)
      have hwp : IntKind.i64.wrap ((m : Int) + (n : Int)) = ((m + n : Nat) : Int) := by rw [IntWalk.i64_in _ (by omega)]; omega
      have hge : ¬ ((m + n : Nat) : Int) < 0 := by omega
      replace hc := W_hid hc
      replace hn := W_hid hn
      go_wp2_with fail
      go_roundw
      case rel => exact ⟨k + 1, m + n, by omega, by go_num, by first | rfl | go_num, hm2, hm3, by first | trivial | rfl⟩
      case measure => simp [intOf]; omega
    · obtain rfl : k = 5 := by omega
      clear hlt
      have hgr : Hid (Calls Try.prog 42 #[.slice none 0 0, .int .i64 (m : Int)] w fun e w' => ∃ v, e = .returned v ∧ w'.ownsRow w.heap.size TI 1 v 0 [] ∧ Below w.heap.size w w') := W_hid (by
        rcases Nat.eq_zero_or_pos m with rfl | h0
        · refine (grow_zero w).mono ?_
          rintro e w' ⟨rfl, rfl⟩
          exact ⟨_, rfl, World.ownsRow_nil _ _ _ _, Below.refl _ _⟩
        · exact grow_some m h0 (by omega) w)
      go_wp2_with (go_at_call 42; refine hgr.out.mono ?_; rintro e w1 ⟨v1, rfl, ho1, hb1⟩; replace ho1 := W_hid ho1; replace hb1 := W_hid hb1)
      go_loopw [6, 8, 27] (fun v _ i wr => ∃ k m : Nat, k ≤ 5 ∧ i = .int .i64 (k : Int) ∧ Hid ((cat ls k).length = m) ∧ m ≤ 250000 ∧ Hid (wr.ownsRow w.heap.size TI 1 v m (icl (cat ls k))) ∧ Hid (Below w.heap.size w wr)) (fun _ _ i _ => 5 - (intOf i).toNat)
      case atStart => exact ⟨0, 0, Nat.zero_le _, rfl, W_hid rfl, Nat.zero_le _, ho1, hb1⟩
      case round =>
        obtain ⟨k, m, hk, rfl, hm, hmm, ho, hb⟩ := hrel
        by_cases hlt : k < 5
        · obtain ⟨ao, n, cap, hn, hn5, hc⟩ := hat.out k hlt
          obtain ⟨y1, y2⟩ := hc _ hb.out
          have hm2 : Hid ((cat ls (k + 1)).length = m + n) := W_hid (by show (cat ls k ++ ls k).length = _; rw [List.length_append, hm.out, hn])
          have hm3 : m + n ≤ 250000 := by rw [← hm2.out]; exact hTT.out (k + 1) (by omega)
          have hbs := hb.out.size
          obtain ⟨a6, c6, rfl⟩ := Own.form ho.out
          replace y2 := W_hid y2
          replace hc := W_hid hc
          replace hn := W_hid hn
          go_wp2_with (at_builtin; refine Own.wpList_app rfl (.tmp 31) (.tmp 32) 30 rfl und_ints info_int (.slice a6 _ c6) (.slice ao n cap) rfl rfl ho.out hbs y2.out (icl_one (ls k)) (by unfold maxLen; omega) (by omega) ?_; intro v' w' ho' hg' hv'; have hbn := W_hid (below_row hb.out hbs hg' fun g hg => Own.ge ho.out g hg); replace ho' := W_hid ho'; replace hg' := W_hid hg'; replace hv' := W_hid hv')
          go_roundw
          case rel => exact ⟨k + 1, m + n, by omega, by go_num, hm2, hm3, W_hid (by have := ho'.out; rwa [← icl_app] at this), hbn⟩
          case measure => simp [intOf]; omega
        · obtain rfl : k = 5 := by omega
          obtain ⟨a6, c6, rfl⟩ := Own.form ho.out
          go_wp2_with fail
          go_ret
          have hm' := hm.out
          rw [hm']
          exact ⟨_, rfl, ho.out, hb.out⟩
end
section
variable {base : Nat} {w : World} {qb : Nat} {S : Qs} {X : Nat → Prop} {c : Nat}
theorem Ready_any (h : QW base w qb S X) (hG : Good c S) (hc : c ≤ 50000) : Calls Try.prog 7 #[ptr qb] w fun e w' => ∃ v, e = .returned v ∧ w'.ownsRow w.heap.size TI 1 v (ready S).length (icl (ready S)) ∧ Below w.heap.size w w' := by
  obtain ⟨nb, vr, vl, hM, hX⟩ := h
  have cQ := W_hid (qnone_no hM)
  have cC := W_hid (concat_any hM fun k => by have := lst_len S k; have := hG.llen; omega)
  rw [← ready_cat] at cC
  have z0 := hM.box.cell (j := 0) rfl
  clear hM hX
  go_enter Try.func7, Try.ntmps7
  go_wp2_with (first
    | (go_at_call 14; refine cQ.out.mono ?_; rintro e w' ⟨rfl, rfl⟩)
    | (go_at_call 15; refine cC.out.mono ?_; rintro e w1 ⟨v, rfl, ho, hb⟩; replace ho := W_hid ho; replace hb := W_hid hb))
  go_ret
  exact ⟨_, rfl, ho.out, hb.out⟩
end
end SD
end Go.Proofs.Ytmikgkelmdgckaa

/- Contracts of package sched: remove; slices.DeleteFunc of a number out of a list. -/
import Derived.Test.YtmikgkelmdgckaaSchDel
namespace Go.Proofs.Ytmikgkelmdgckaa
open Go.ChangeShapes Go.WideShapes Go.ChangeAt Go.RowKit
set_option linter.unusedVariables false
set_option linter.unusedSimpArgs false
set_option maxRecDepth 100000
namespace SD
open IN (Keeps lt_of_some)
open RL

theorem rcl_del (P : List Pr) (i : Nat) : (rcl P).take (i * 4) ++ (rcl P).drop ((i + 1) * 4) = rcl (delP P i) := by
  rw [rcl_take, rcl_drop, ← rcl_app]; rfl
section
variable {base : Nat} {w : World} {qb nb : Nat} {vr : Value} {vl : Nat → Value} {P : List Pr} {ls : Nat → List Int}
set_option maxRecDepth 100000 in
set_option maxHeartbeats 4000000 in
theorem remove_any (h : QM base w qb nb vr vl P ls) (hasc : Asc P) (hlen : P.length ≤ 50000) (p : Int) {x : Pr} (hg : get P p = some x) :
    Calls Try.prog 54 #[ptr nb, .int .i64 p] w fun e w' => e = .returned (.tuple #[]) ∧
      ∃ vr', QM base w' qb nb vr' vl (delP P (low P p)) ls ∧ Keeps base (fun k _ => QX qb nb vr vl k) w w' ∧ ∀ k, QX qb nb vr' vl k → QX qb nb vr vl k ∨ w.heap.size ≤ k := by
  obtain ⟨hl, hx⟩ := get_at hasc hg
  have hpl := place_any h hasc (by omega) p
  rw [hg] at hpl
  simp only [Option.isSome_some] at hpl
  obtain ⟨g, n, cap, rfl, hn, hlt, hnc, hcm, -⟩ := h.opened hl
  obtain ⟨m, rfl⟩ : ∃ m, n = m + 1 := ⟨n - 1, by omega⟩
  have hend : Hid (∀ (w1 w2 : World), Below w.heap.size w w1 → w1.grownBy w2 (some g) → w2.ownsRow base TR 4 (.slice (some ⟨g, 0, none⟩) m cap) m ((rcl P).take (low P p * 4) ++ (rcl P).drop ((low P p + 1) * 4)) →
      ∃ vr', QM base (w2.setCell ⟨nb, 0, none⟩ (.slice (some ⟨g, 0, none⟩) m cap)) qb nb vr' vl (delP P (low P p)) ls ∧ Keeps base (fun k _ => QX qb nb (.slice (some ⟨g, 0, none⟩) (m + 1) cap) vl k) w (w2.setCell ⟨nb, 0, none⟩ (.slice (some ⟨g, 0, none⟩) m cap)) ∧ ∀ k, QX qb nb vr' vl k → QX qb nb (.slice (some ⟨g, 0, none⟩) (m + 1) cap) vl k ∨ w.heap.size ≤ k) := W_hid fun w1 w2 hb hgr ho => by
    rw [rcl_del] at ho
    have e : (delP P (low P p)).length = m := by rw [del_len hl, hn]; omega
    rw [show m = (delP P (low P p)).length from e.symm] at ho ⊢
    exact ⟨_, h.newRow (grown_trans hb hgr) (by have := ho; rwa [e] at this ⊢) (.inl rfl)⟩
  have hD : Hid (∀ W : World, Below w.heap.size w W → Calls Try.prog delF #[.slice (some ⟨g, 0, none⟩) (m + 1) cap, .int .i64 (low P p : Nat), .int .i64 ((low P p : Nat) + 1 : Int)] W fun e w' => e = .returned (.slice (some ⟨g, 0, none⟩) m cap) ∧ w'.ownsRow base TR 4 (.slice (some ⟨g, 0, none⟩) m cap) m ((rcl P).take (low P p * 4) ++ (rcl P).drop ((low P p + 1) * 4)) ∧ W.grownBy w' (some g)) := W_hid fun W hW => by
    have hr := (h.keep hW).row
    rw [hn] at hr
    exact delete_any hr (rcl_one_cell P) (by omega) (by omega)
  have hnb : Hid (∀ W : World, Below w.heap.size w W → W.cell? ⟨nb, 0, none⟩ = some (.slice (some ⟨g, 0, none⟩) (m + 1) cap)) := W_hid fun W hW => (h.keep hW).nbox.cell rfl
  have hfz : Hid (∀ (W w2 : World), Below w.heap.size w W → W.grownBy w2 (some g) → (w2.cell? ⟨nb, 0, none⟩ = some (.slice (some ⟨g, 0, none⟩) (m + 1) cap)) ∧ (∀ i, w2.frozen? ⟨nb, i, none⟩ = false)) := W_hid fun W w2 hW hgr => by
    have h1 := (h.keep hW).nbox.grown hgr (fun e => (h.rq (g := g) rfl).2 (by simpa using e.symm))
    exact ⟨h1.cell rfl, h1.fz⟩
  obtain ⟨K, hK⟩ : ∃ K, low P p = K := ⟨_, rfl⟩
  rw [hK] at hpl hD hend hlt ⊢
  have hpl := W_hid hpl
  have hw1 : IntKind.i64.wrap ((K : Int) + 1) = (K : Int) + 1 := IntWalk.i64_in _ (by omega)
  clear h hg hl hx hK hn hasc
  go_enter Try.func54, Try.ntmps54
  go_wp2_with (first
    | (go_at_call 46; refine hpl.out.mono ?_; rintro e w1 ⟨rfl, hb1⟩; have y1 := hnb.out _ hb1; have cD := W_hid (hD.out _ hb1); have hb1 := W_hid hb1)
    | (go_at_call 73; refine cD.out.mono ?_; rintro e w2 ⟨rfl, ho2, hg2⟩; obtain ⟨u1, u0⟩ := hfz.out _ w2 hb1.out hg2; have ho2 := W_hid ho2; have hg2 := W_hid hg2))
  go_end0
  exact ⟨rfl, hend.out w1 w2 hb1.out hg2.out ho2.out⟩
end

/-! ### lists -/
abbrev clo (b : Nat) : Value := .func (.func 49) #[] #[ptr b]
theorem eqcl_any (v p : Int) (b : Nat) (w : World) (hc : w.cell? ⟨b, 0, none⟩ = some (.int .i64 p)) : Calls Try.prog 49 #[.int .i64 v, ptr b] w fun e w' => e = .returned (.bool (v == p)) ∧ w = w' := by
  obtain ⟨r, hr⟩ : ∃ r, (v == p) = r := ⟨_, rfl⟩
  rw [hr]
  go_enter Try.func49, Try.ntmps49
  go_wp2
  go_ret
  exact ⟨by first | rfl | exact ret_bool hr, rfl⟩
/-- A list in memory, one by one. -/
theorem list_at {w : World} {base n : Nat} {v : Value} {l : List Int} (h : w.ownsRow base TI 1 v n (icl l)) : ∃ ao cap, v = .slice ao n cap ∧ l.length = n ∧ ∀ j (hj : j < l.length), ∃ g, ao = some ⟨g, 0, none⟩ ∧ w.cell? ⟨g, j, none⟩ = some (.int .i64 l[j]) ∧ n ≤ cap ∧ cap ≤ 9223372036854775807 ∧ ∀ i, w.frozen? ⟨g, i, none⟩ = false := by
  have hl : l.length = n := by have := h.1; rw [icl_len] at this; omega
  rcases h.2 with ⟨rfl, h0⟩ | ⟨g, cap, cur, rfl, hb, hg, h1, h2, h3, h4⟩
  · exact ⟨none, 0, by rw [h0], hl, fun j hj => by omega⟩
  · refine ⟨_, cap, rfl, hl, fun j hj => ⟨g, rfl, ?_, h1, by unfold maxLen at h2; omega, fun i => h.frozenAt i⟩⟩
    have := h.cells (g := g) rfl j (.int .i64 l[j]) (by rw [icl_get, List.getElem?_eq_getElem hj]; rfl)
    rwa [Addr.add_lit, Nat.zero_add] at this
def idxI (l : List Int) (p : Int) : Int := if idx l p < l.length then (idx l p : Int) else -1
theorem idx_le (l : List Int) (p : Int) : idx l p ≤ l.length := List.findIdx_le_length
theorem idx_ne {l : List Int} {p : Int} {j : Nat} (hj : j < l.length) (h : j < idx l p) : l[j] ≠ p := by
  have := List.not_of_lt_findIdx h
  simpa using this
theorem idx_eq {l : List Int} {p : Int} (h : idx l p < l.length) : l[idx l p] = p := by
  have h2 : decide (l[idx l p] = p) = true := List.findIdx_getElem (w := h)
  exact of_decide_eq_true h2
set_option maxRecDepth 100000 in
set_option maxHeartbeats 1000000 in
theorem idxf_any {base n : Nat} {v : Value} {l : List Int} (p : Int) (b : Nat) (w : World) (h : w.ownsRow base TI 1 v n (icl l)) (hn : n ≤ 60000) (hc : w.cell? ⟨b, 0, none⟩ = some (.int .i64 p)) :
    Calls Try.prog 72 #[v, clo b] w fun e w' => e = .returned (.int .i64 (idxI l p)) ∧ w = w' := by
  obtain ⟨ao, cap, rfl, hl, hat⟩ := list_at h
  have hcl := W_hid (fun v => eqcl_any v p b w hc)
  have hle := idx_le l p
  have hne : Hid (∀ j (hj : j < l.length), j < idx l p → (l[j] == p) = false) := W_hid fun j hj h => by simpa using idx_ne hj h
  have heq : Hid (∀ j (hj : j < l.length), j = idx l p → (l[j] == p) = true) := W_hid fun j hj e => by subst e; simpa using idx_eq hj
  unfold idxI
  obtain ⟨K, hK⟩ : ∃ K, idx l p = K := ⟨_, rfl⟩
  rw [hK] at hne heq hle ⊢
  rw [hl] at hle ⊢
  have hat := W_hid hat
  replace hl := W_hid hl
  clear h hK hc
  go_enter Try.func72, Try.ntmps72
  go_wp2_with fail
  go_loopw [8] (fun i wr => ∃ k : Nat, k ≤ K ∧ i = .int .i64 (k : Int) ∧ w = wr) (fun i _ => n - (intOf i).toNat)
  case atStart => exact ⟨0, Nat.zero_le _, rfl, rfl⟩
  case round =>
    obtain ⟨k, hk, rfl, hwr⟩ := hrel
    subst hwr
    by_cases hlt : k < n
    · have hkl : k < l.length := by rw [hl.out]; exact hlt
      obtain ⟨g, rfl, e0, -⟩ := hat.out k hkl
      by_cases hkK : k < K
      · have hx := hne.out k hkl hkK
        obtain ⟨a, ha⟩ : ∃ a, l[k] = a := ⟨_, rfl⟩
        rw [ha] at e0 hx
        have hca := hcl.out a
        rw [hx] at hca
        replace hca := W_hid hca
        clear ha hkl hx
        go_wp2_with (go_at_call 49; refine hca.out.mono ?_; rintro e w' ⟨rfl, rfl⟩)
        go_roundw
        case rel => exact ⟨k + 1, by omega, by go_num, by first | trivial | rfl⟩
        case measure => simp [intOf]; omega
      · obtain rfl : k = K := by omega
        have hx := heq.out k hkl rfl
        obtain ⟨a, ha⟩ : ∃ a, l[k] = a := ⟨_, rfl⟩
        rw [ha] at e0 hx
        have hca := hcl.out a
        rw [hx] at hca
        replace hca := W_hid hca
        clear ha hkl hx
        go_wp2_with (go_at_call 49; refine hca.out.mono ?_; rintro e w' ⟨rfl, rfl⟩)
        go_ret
        exact ⟨by first | exact ret_int (if_pos hlt).symm | simp [hlt], by first | trivial | rfl⟩
    · obtain rfl : k = K := by omega
      have hkN : k = n := by omega
      replace hkN := W_hid hkN
      have hge : (n : Int) ≤ (k : Int) := by omega
      go_wp2_with fail
      go_ret
      exact ⟨by first | exact ret_int (if_neg hlt).symm | simp [hlt], by first | trivial | rfl⟩
/-- What a row holds while numbers are left out: R, of which the first i are those kept of the first j. -/
structure Cut (l R : List Int) (p : Int) (i j : Nat) : Prop where
  len : R.length = l.length
  le : i ≤ j
  jl : j ≤ l.length
  lo : R.take i = off (l.take j) p
  hi : R.drop j = l.drop j
theorem Cut.at_ {l R : List Int} {p : Int} {i j : Nat} (h : Cut l R p i j) (hj : j < l.length) : ∃ hr : j < R.length, R[j] = l[j] := by
  have hr : j < R.length := by rw [h.len]; exact hj
  refine ⟨hr, ?_⟩
  have e := congrArg (fun x => x[0]?) h.hi
  simp only [List.getElem?_drop, Nat.add_zero] at e
  rw [List.getElem?_eq_getElem hr, List.getElem?_eq_getElem hj] at e
  exact Option.some.inj e
theorem take_succ_off {l : List Int} {p : Int} {j : Nat} (hj : j < l.length) : off (l.take (j + 1)) p = off (l.take j) p ++ (if l[j] = p then [] else [l[j]]) := by
  rw [List.take_add_one, List.getElem?_eq_getElem hj]
  unfold off
  rw [List.filter_append]
  by_cases e : l[j] = p <;> simp [e]
theorem Cut.skip {l R : List Int} {p : Int} {i j : Nat} (h : Cut l R p i j) (hj : j < l.length) (hp : l[j] = p) : Cut l R p i (j + 1) := by
  refine ⟨h.len, by have := h.le; omega, hj, ?_, ?_⟩
  · rw [take_succ_off hj, if_pos hp, List.append_nil]; exact h.lo
  · have e := congrArg (List.drop 1) h.hi
    rwa [List.drop_drop, List.drop_drop] at e
theorem Cut.move {l R : List Int} {p : Int} {i j : Nat} (h : Cut l R p i j) (hj : j < l.length) (hp : l[j] ≠ p) : Cut l (R.set i l[j]) p (i + 1) (j + 1) := by
  have hle := h.le
  have hR : i < R.length := by rw [h.len]; omega
  refine ⟨by rw [List.length_set]; exact h.len, by omega, hj, ?_, ?_⟩
  · rw [take_succ_off hj, if_neg hp, ← h.lo, List.take_add_one, List.take_set_of_le (Nat.le_refl _)]
    simp [hR]
  · rw [List.drop_set_of_lt (by omega)]
    have e := congrArg (List.drop 1) h.hi
    rwa [List.drop_drop, List.drop_drop] at e
theorem Cut.start {l : List Int} {p : Int} (h : idx l p < l.length) : Cut l l p (idx l p) (idx l p + 1) := by
  refine ⟨rfl, by omega, h, ?_, rfl⟩
  have e : off (l.take (idx l p)) p = l.take (idx l p) := off_same fun hm => by
    rw [List.mem_take_iff_getElem] at hm
    obtain ⟨j, hj, hje⟩ := hm
    exact idx_ne (by omega) (by omega) hje
  rw [take_succ_off h, if_pos (idx_eq h), List.append_nil, e]
theorem Cut.done {l R : List Int} {p : Int} {i : Nat} (h : Cut l R p i l.length) : R.take i = off l p ∧ i = (off l p).length := by
  have h1 := h.lo
  rw [List.take_of_length_le (Nat.le_refl _)] at h1
  refine ⟨h1, ?_⟩
  have h2 := congrArg List.length h1
  rw [List.length_take, h.len, Nat.min_eq_left h.le] at h2
  exact h2
theorem off_none {l : List Int} {p : Int} (h : ¬ idx l p < l.length) : off l p = l := by
  refine off_same fun hm => ?_
  obtain ⟨j, hj, hje⟩ := List.getElem_of_mem hm
  have := idx_le l p
  exact idx_ne hj (by omega) hje
theorem icl_set (l : List Int) (i : Nat) (x : Int) : (icl l).set i (.int .i64 x) = icl (l.set i x) := by
  unfold icl
  rw [List.map_set]
theorem icl_take (l : List Int) (k : Nat) : (icl l).take k = icl (l.take k) := by unfold icl; rw [List.map_take]
theorem elem_ints : Try.prog.elem 30 = TI := by kernel_rfl
theorem int_one : ∀ v ∈ (Value.int .i64 0).cells, v.oneCell' = true := by
  intro v hv
  have e : (Value.int .i64 0).cells = (icl [0]).toArray := rfl
  rw [e, List.mem_toArray] at hv
  exact icl_one _ v hv
abbrev dfF : Nat := 48
set_option maxRecDepth 100000 in
set_option maxHeartbeats 4000000 in
theorem delfunc_any {base n : Nat} {v : Value} {l : List Int} (p : Int) (b : Nat) (w : World) (h : w.ownsRow base TI 1 v n (icl l)) (hn : n ≤ 60000) (hc : w.cell? ⟨b, 0, none⟩ = some (.int .i64 p)) (hb : v.ownBlock ≠ some b) (hbase : base ≤ w.heap.size) :
    Calls Try.prog dfF #[v, clo b] w fun e w' => ∃ v', e = .returned v' ∧ w'.ownsRow base TI 1 v' (off l p).length (icl (off l p)) ∧ w.grownBy w' v.ownBlock ∧ v'.ownBlock = v.ownBlock := by
  have hif := idxf_any p b w h hn hc
  unfold idxI at hif
  have hl : l.length = n := by have := h.1; rw [icl_len] at this; omega
  by_cases hlt : idx l p < l.length
  · rw [if_pos hlt] at hif
    obtain ⟨ao, cap, rfl, -, hat⟩ := list_at h
    obtain ⟨g, rfl, -, hnc, hcm, -⟩ := hat 0 (by omega)
    have hgb : g ≠ b := fun e => hb (by rw [e]; rfl)
    have hcl := W_hid (fun (W : World) (hW : W.cell? ⟨b, 0, none⟩ = some (.int .i64 p)) v => eqcl_any v p b W hW)
    have hst := W_hid (Cut.start hlt)
    have hil : idx l p < n := by omega
    obtain ⟨K, hK⟩ : ∃ K, idx l p = K := ⟨_, rfl⟩
    rw [hK] at hif hst hil
    have hif := W_hid hif
    have hw1 : IntKind.i64.wrap ((K : Int) + 1) = (K : Int) + 1 := IntWalk.i64_in _ (by omega)
    have hneg : ((K : Int) == -1) = false := by first | (simp; done) | (simp; omega)
    have hown : Hid (w.ownsRow base TI 1 (.slice (some ⟨g, 0, none⟩) n cap) n (icl l)) := W_hid h
    replace hl := W_hid hl
    replace hc := W_hid hc
    clear h hat hlt hK hb
    go_enter Try.func48, Try.ntmps48
    go_wp2_with (go_at_call 72; refine hif.out.mono ?_; rintro e w1 ⟨rfl, rfl⟩)
    go_loopw [5, 6, 7] (fun a c d wr => ∃ (i j : Nat) (R : List Int), i < j ∧ j ≤ n ∧ a = .int .i64 (i : Int) ∧ c = .int .i64 (j : Int) ∧ Hid (Cut l R p i j) ∧ Hid (wr.ownsRow base TI 1 (.slice (some ⟨g, 0, none⟩) n cap) n (icl R)) ∧ Hid (w.grownBy wr (some g))) (fun _ c _ _ => n - (intOf c).toNat)
    case atStart => exact ⟨K, K + 1, l, by omega, by omega, rfl, by go_num, hst, hown, W_hid (World.grownBy.refl w _)⟩
    case round =>
      obtain ⟨i, j, R, hij, hjn, rfl, rfl, hC, ho, hg⟩ := hrel
      have hcr := Own.cellg hg.out hc.out (by simpa using fun e => hgb e.symm)
      by_cases hjl : j < n
      · have hjL : j < l.length := by rw [hl.out]; exact hjl
        obtain ⟨hjR, hje⟩ := hC.out.at_ hjL
        obtain ⟨ao', cap', hv', -, hatR⟩ := list_at ho.out
        simp only [Value.slice.injEq, true_and] at hv'
        obtain ⟨rfl, rfl⟩ := hv'
        obtain ⟨g', hg', e0, -, -, hfz⟩ := hatR j hjR
        cases hg'
        obtain ⟨g', hg', e1, -⟩ := hatR i (by omega)
        cases hg'
        obtain ⟨a1, ha1⟩ : ∃ a1, R[i]'(by omega) = a1 := ⟨_, rfl⟩
        rw [ha1] at e1
        clear ha1
        rw [hje] at e0
        have hskip := W_hid (fun (e : l[j] = p) => hC.out.skip hjL e)
        have hmove := W_hid (fun (e : l[j] ≠ p) => hC.out.move hjL e)
        obtain ⟨a, ha⟩ : ∃ a, l[j] = a := ⟨_, rfl⟩
        rw [ha] at e0 hskip hmove
        have hca := hcl.out wr hcr a
        clear ha hatR hje hjL
        by_cases hap : a = p
        · have hx : (a == p) = true := by simpa using hap
          rw [hx] at hca
          replace hca := W_hid hca
          have hnext := W_hid (hskip.out hap)
          clear hskip hmove hap hx
          go_wp2_with (go_at_call 49; refine hca.out.mono ?_; rintro e w' ⟨rfl, rfl⟩)
          go_roundw
          case rel => exact ⟨i, j + 1, R, by omega, by omega, rfl, by go_num, hnext, ho, hg⟩
          case measure => simp [intOf]; omega
        · have hx : (a == p) = false := by simpa using hap
          rw [hx] at hca
          replace hca := W_hid hca
          have hnext := W_hid (hmove.out hap)
          have hs := (ho.out.stored i (.int .i64 a)).1
          rw [icl_set] at hs
          have hs := W_hid hs
          have hg2 : Hid (w.grownBy (wr.setCell ⟨g, i, none⟩ (.int .i64 a)) (some g)) := W_hid ⟨hg.out.os, hg.out.tape, hg.out.output, by have := hg.out.size; simpa [World.setCell] using this, fun k hk hne => (Below.heap_setCell wr ⟨g, i, none⟩ _ k (fun e => hne (by rw [show k = g from e]))).trans (hg.out.block k hk hne)⟩
          have hii : (i : Int) < (n : Int) := by omega
          clear hskip hmove hap hx
          go_wp2_with (go_at_call 49; refine hca.out.mono ?_; rintro e w' ⟨rfl, rfl⟩)
          go_roundw
          case rel => exact ⟨i + 1, j + 1, _, by omega, by omega, by go_num, by go_num, hnext, hs, hg2⟩
          case measure => simp [intOf]; omega
      · obtain rfl : j = n := by omega
        have hin : i < j := hij
        obtain ⟨ad, hs1, had, had2⟩ := Own.cut_lo (t := 30) und_ints elem_ints info_int g 0 j cap i (i : Int) rfl (by omega) hnc
        have had3 := had2 (by omega)
        subst had3
        clear had had2
        have hs2 := Own.cut_hi (t := 30) und_ints elem_ints info_int (some ⟨g, 0, none⟩) j cap i (by omega) hnc (.inr ⟨_, _, rfl⟩)
        obtain ⟨cur, hcur, hbg, hclen, hct, -, hcm'⟩ := own_cur ho.out
        have hd := W_hid (by have h2 := hC.out; rw [← hl.out] at h2; exact h2.done)
        have hRl : Hid (R.length = j) := W_hid (by rw [hC.out.len, hl.out])
        replace hcur := W_hid hcur
        replace hclen := W_hid hclen
        replace hct := W_hid hct
        have hclz : ∀ v ∈ (Value.int .i64 0).cells, v.oneCell' = true := int_one
        go_wp2_with (with_reducible show wpList _ _ _ _ _ _; (refine wpList_clear_k rfl (.tmp 38) 30 rfl und_ints info_int int_one g i (j - i) (cap - i) (by omega) cur TI rfl hcur.out (by rw [hclen.out]; omega) ?_); intro w4 cs hcs hb4 hg4; have hb4 := W_hid hb4; have hg4 := W_hid hg4)
        go_ret
        have hL : (lay cur i cs).length = cap * 1 := by rw [lay_len (by rw [hcs, hclen.out]; omega), hclen.out]
        refine ⟨_, rfl, ?_, ?_, rfl⟩
        · rw [← hd.out.2]
          refine own_of hbg hb4.out hL (by omega) hcm' ?_
          rw [Nat.mul_one, lay_take_lo (Nat.le_refl _) (by rw [hclen.out]; omega)]
          have h5 := congrArg (List.take (i * 1)) hct.out
          rw [List.take_take, Nat.min_eq_left (by omega), icl_take, Nat.mul_one, hd.out.1] at h5
          exact h5
        · have h3 := hg.out
          have h4 := hg4.out
          exact ⟨h4.os.trans h3.os, h4.tape.trans h3.tape, h4.output.trans h3.output, Nat.le_trans h3.size h4.size, fun k hk hne => (h4.block k (Nat.lt_of_lt_of_le hk h3.size) hne).trans (h3.block k hk hne)⟩
  · rw [if_neg hlt] at hif
    have hif := W_hid hif
    have hoff := off_none hlt
    have hend : Hid (w.ownsRow base TI 1 v (off l p).length (icl (off l p))) := W_hid (by rw [hoff, hl]; exact h)
    clear h hlt hoff hc hb
    go_enter Try.func48, Try.ntmps48
    go_wp2_with (go_at_call 72; refine hif.out.mono ?_; rintro e w1 ⟨rfl, rfl⟩)
    go_ret
    exact ⟨v, rfl, hend.out, World.grownBy.refl w _, rfl⟩
end SD
end Go.Proofs.Ytmikgkelmdgckaa

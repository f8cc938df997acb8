/- The document's Get, Nice, Undo, Exit of a table of processes. -/
import Derived.Test.YtahcpimpmedbiaaRefPrc2
namespace Go.Proofs.Ytahcpimpmedbiaa
open Go.ChangeShapes Go.WideShapes Go.ChangeAt Go.RowKit Go.Maps
set_option linter.unusedVariables false
set_option linter.unusedSimpArgs false
set_option maxRecDepth 100000
namespace PC
open IS (I64)
open IN (Keeps lt_of_some)

theorem set_map {L : List Pr} (ha : Asc L) {p : Int} {f : Pr → Pr} (hf : ∀ x, x.pid ≠ p → f x = x) (hp : pos L p < L.length) : L.set (pos L p) (f L[pos L p]) = L.map f := by
  apply List.ext_getElem
  · simp
  · intro i h1 h2
    rw [List.getElem_set, List.getElem_map]
    by_cases e : pos L p = i
    · subst e; simp
    · rw [if_neg e]
      have hi : i < L.length := by simpa using h1
      symm
      apply hf
      intro e2
      have h3 := pos_eq hp
      have := asc_inj ha (List.getElem_mem hi) (List.getElem_mem hp) (by rw [e2, h3])
      have hpw := List.pairwise_iff_getElem.1 ha
      rcases Nat.lt_or_gt_of_ne e with h4 | h4
      · have := hpw _ _ hp hi h4; omega
      · have := hpw _ _ hi hp h4; omega
section
variable {base : Nat} {w w' : World} {rb N : Nat} {v : Value} {L : List Pr} {Y : Nat → Prop}
set_option maxRecDepth 100000 in
set_option maxHeartbeats 2000000 in
theorem rpGet_any (h : DW base w rb N L Y) (p : Int) (hlen : L.length ≤ 1024) : Calls Try.prog 29 #[.pointer (some ⟨rb, 0, none⟩), .int .i64 p] w fun e w' => e = .returned (.tuple #[.agg (prow (getR L p).1).toArray, .bool (getR L p).2]) ∧ Below w.heap.size w w' := by
  obtain ⟨W0, hW0⟩ : ∃ W0, w.alloc (.cells #[.int .i64 0, .int .i64 0, .int .i64 0, .int .i64 0, .int .i64 0] 43) = W0 := ⟨_, rfl⟩
  have hb0 : Below w.heap.size w W0 := by rw [← hW0]; exact (Below.refl _ _).alloc (Nat.le_refl _) _
  have hr0 : Blk W0 w.heap.size 43 (fv 0 0 0 0 0) := by rw [← hW0]; exact Blk.new w _ (fv 0 0 0 0 0) rfl
  obtain ⟨v, hM, hY⟩ := h
  have hM0 := hM.keep hb0
  have hat := rpat_any p hM0 hlen
  unfold posR at hat
  have r0 := hr0.cell (j := 0) rfl
  have r1 := hr0.cell (j := 1) rfl
  have r2 := hr0.cell (j := 2) rfl
  have r3 := hr0.cell (j := 3) rfl
  have r4 := hr0.cell (j := 4) rfl
  have rz := hr0.fz
  have hr0 := W_hid hr0
  have hb0 := W_hid hb0
  unfold getR
  by_cases hlt : pos L p < L.length
  · rw [if_pos hlt] at hat
    rw [get_pos hlt]
    obtain ⟨g, n, cap, rfl, hn, hpn, hnc, hcm, -, -, -, -, -, -, -, c1, e0, e1, e2, e3, e4⟩ := hM0.opened hlt
    obtain ⟨x, hx⟩ : ∃ x, L[pos L p] = x := ⟨_, rfl⟩
    simp only [hx] at e0 e1 e2 e3 e4 ⊢
    obtain ⟨a, b, c, d, e⟩ := x
    obtain ⟨q, hq⟩ : ∃ q, pos L p = q := ⟨_, rfl⟩
    simp only [hq] at hat hpn e0 e1 e2 e3 e4
    have hd : decide ((q : Int) < 0) = false := by simp
    clear hM hM0 hlt hx hY hq hn
    go_enter Try.func29, Try.ntmps29
    go_wp2_with (go_at_call 39; refine hat.mono ?_; rintro e w' ⟨rfl, rfl⟩)
    refine bodyPost_ret (res_prc rfl _ _ rfl (five_blk hr0.out _ _ _ _ _)) rfl ⟨rfl, five_below hb0.out (Nat.le_refl _) _ _ _ _ _⟩
  · rw [if_neg hlt] at hat
    rw [get_pos_none hlt]
    clear hM hM0 hlt hY
    go_enter Try.func29, Try.ntmps29
    go_wp2_with (go_at_call 39; refine hat.mono ?_; rintro e w' ⟨rfl, rfl⟩)
    refine bodyPost_ret (res_prc rfl _ _ rfl (five_blk hr0.out _ _ _ _ _)) rfl ⟨rfl, five_below hb0.out (Nat.le_refl _) _ _ _ _ _⟩

set_option maxRecDepth 100000 in
set_option maxHeartbeats 2000000 in
theorem rpNice_any (h : DW base w rb N L Y) (hG : Good N L) (p n : Int) : Calls Try.prog 28 #[.pointer (some ⟨rb, 0, none⟩), .int .i64 p, .int .i64 n] w fun e w' => e = .returned (.int .i64 (niceR L p n).1) ∧ DO base w rb N (niceR L p n).2 Y w' := by
  have hid := W_hid (h.same (Below.refl _ _))
  obtain ⟨v, hM, hY⟩ := h
  have hlen : L.length ≤ 1024 := by have := hG.len; have := hG.top; omega
  have hruns := rpruns_any p hM hlen
  have hn := fun w => rIsNice_any n w
  unfold runR at hruns
  unfold niceR
  cases hr : runs L p with
  | false =>
    rw [if_pos rfl]
    rw [hr, if_neg (by simp)] at hruns
    clear hM hY hG hr
    go_enter Try.func28, Try.ntmps28
    go_wp2_with (go_at_call 37; refine hruns.mono ?_; rintro e w' ⟨rfl, rfl⟩)
    go_ret
    exact ⟨rfl, hid.out⟩
  | true =>
    rw [if_neg (by simp)]
    rw [hr, if_pos rfl] at hruns
    obtain ⟨hp, hst⟩ := runs_pos hr
    cases hni : isNice n with
    | false =>
      rw [if_pos rfl]
      rw [hni] at hn
      obtain ⟨q, hq⟩ : ∃ q, pos L p = q := ⟨_, rfl⟩
      rw [hq] at hruns
      have hd : decide ((q : Int) < 0) = false := by simp
      clear hM hY hG hr hni hst hp hq
      go_enter Try.func28, Try.ntmps28
      go_wp2_with (first | (go_at_call 37; refine hruns.mono ?_; rintro e w' ⟨rfl, rfl⟩) | (go_at_call 36; refine (hn _).mono ?_; rintro e w' ⟨rfl, rfl⟩))
      go_ret
      exact ⟨rfl, hid.out⟩
    | true =>
      rw [if_neg (by simp)]
      rw [hni] at hn
      obtain ⟨g, m, cap, rfl, hm, hpn, hnc, hcm, -, -, -, -, hgf, -, -, c1, e0, e1, e2, e3, e4⟩ := hM.opened hp
      have hpid := pos_eq hp
      have hset := hM.set hm hp 4 (.int .i64 n) (by omega) (setNice p n L[pos L p]) (by unfold setNice; rw [if_pos hpid]; rfl)
      rw [set_map hG.asc (f := setNice p n) (fun x hx => if_neg hx) hp] at hset
      have hend : Hid (DO base w rb N (niceL L p n) Y (w.setCell ⟨g, pos L p * 5 + 4, none⟩ (.int .i64 n))) := W_hid ⟨_, ⟨_, hset.1, fun k => Iff.rfl⟩, keeps_iff hset.2 fun k hk => (hY k).2 hk, fun k hk => .inl ((hY k).2 hk)⟩
      obtain ⟨q, hq⟩ : ∃ q, pos L p = q := ⟨_, rfl⟩
      simp only [hq] at hruns hpn e4 hend
      have hd : decide ((q : Int) < 0) = false := by simp
      clear hM hY hG hr hni hst hset hpid hm e0 e1 e2 e3
      go_enter Try.func28, Try.ntmps28
      go_wp2_with (first | (go_at_call 37; refine hruns.mono ?_; rintro e w' ⟨rfl, rfl⟩) | (go_at_call 36; refine (hn _).mono ?_; rintro e w' ⟨rfl, rfl⟩))
      go_ret
      exact ⟨rfl, hend.out⟩

theorem kids_none {L : List Pr} {p : Int} : kids L p 0 = [] ↔ ∀ j (hj : j < L.length), L[j].par ≠ p := by
  unfold kids
  rw [List.filter_eq_nil_iff]
  constructor
  · intro h j hj e
    exact h _ (List.getElem_mem hj) (by simp [kid, e])
  · intro h x hx hk
    obtain ⟨j, hj, rfl⟩ := List.getElem_of_mem hx
    exact h j hj (by simpa [kid] using hk)
set_option maxRecDepth 100000 in
set_option maxHeartbeats 2000000 in
theorem rpUndo_any (h : DW base w rb N L Y) (hG : Good N L) (p : Int) : Calls Try.prog 27 #[.pointer (some ⟨rb, 0, none⟩), .int .i64 p] w fun e w' => e = .returned (.int .i64 (undoR L p).1) ∧ DO base w rb N (undoR L p).2 Y w' := by
  have hid := W_hid (h.same (Below.refl _ _))
  have hD := h
  obtain ⟨v, hM, hY⟩ := h
  have hlen : L.length ≤ 1024 := by have := hG.len; have := hG.top; omega
  have hruns := rpruns_any p hM hlen
  unfold runR at hruns
  unfold undoR
  cases hr : runs L p with
  | false =>
    rw [if_pos rfl]
    rw [hr, if_neg (by simp)] at hruns
    clear hM hY hG hr hD
    go_enter Try.func27, Try.ntmps27
    go_wp2_with (go_at_call 37; refine hruns.mono ?_; rintro e w' ⟨rfl, rfl⟩)
    go_ret
    exact ⟨rfl, hid.out⟩
  | true =>
    rw [if_neg (by simp)]
    rw [hr, if_pos rfl] at hruns
    obtain ⟨hp, hst⟩ := runs_pos hr
    have hdrop := rpdrop_any (pos L p) hD hp hlen
    rw [drop_at hG.asc hp, pos_eq hp] at hdrop
    have hE := W_hid (fun i (hi : i < L.length) => hM.opened hi)
    obtain ⟨g, m, cap, rfl, hm, hpn, hnc, hcm, -, -, -, -, -, -, -, c1, -⟩ := hM.opened hp
    -- the first child's place
    obtain ⟨K, hK, hKno, hKyes⟩ : ∃ K, K ≤ m ∧ (∀ j (hj : j < L.length), j < K → L[j].par ≠ p) ∧ (∀ j (hj : j < L.length), j = K → L[j].par = p) := by
      refine ⟨L.findIdx fun x => decide (x.par = p), by rw [← hm]; exact List.findIdx_le_length, fun j hj h => by simpa using List.not_of_lt_findIdx h, fun j hj h => ?_⟩
      subst h
      exact of_decide_eq_true (List.findIdx_getElem (w := hj))
    have hkid : (kids L p 0 = [] ↔ K = m) := by
      rw [kids_none]
      constructor
      · intro h
        rcases Nat.lt_or_ge K m with h1 | h1
        · have hj : K < L.length := by omega
          exact absurd (hKyes K hj rfl) (h K hj)
        · omega
      · intro h j hj
        exact hKno j hj (by omega)
    obtain ⟨q, hq⟩ : ∃ q, pos L p = q := ⟨_, rfl⟩
    rw [hq] at hruns hdrop
    have hd : decide ((q : Int) < 0) = false := by simp
    rw [hm] at hlen
    replace hm := W_hid hm
    replace hKno := W_hid hKno
    replace hKyes := W_hid hKyes
    replace hkid := W_hid hkid
    replace hdrop := W_hid hdrop
    obtain ⟨R, hR⟩ : ∃ R, (if p = 1 ∨ kids L p 0 ≠ [] then ((27 : Int), L) else (0, dropL L p)) = R := ⟨_, rfl⟩
    rw [hR]
    replace hR := W_hid hR
    clear hM hY hG hr hst hD hp hq hpn
    go_enter Try.func27, Try.ntmps27
    go_wp2_with (go_at_call 37; refine hruns.mono ?_; rintro e w' ⟨rfl, rfl⟩)
    go_loopw [6] (fun i wr => ∃ k : Nat, k ≤ K ∧ i = .int .i64 (k : Int) ∧ w = wr) (fun i _ => m - (intOf i).toNat)
    case atStart => exact ⟨0, Nat.zero_le _, rfl, rfl⟩
    case round =>
      obtain ⟨k, hk, rfl, hwr⟩ := hrel
      subst hwr
      by_cases hlt : k < m
      · have hkq : k < L.length := by rw [hm.out]; exact hlt
        obtain ⟨g', n', cap', hv, hn', -, -, -, -, -, -, -, -, -, -, -, -, e1, -⟩ := hE.out k hkq
        simp only [Value.slice.injEq, Option.some.injEq, Addr.mk.injEq, and_true, true_and] at hv
        obtain ⟨rfl, -, -⟩ := hv
        clear hn' n'
        by_cases hkK : k < K
        · have hx := hKno.out k hkq hkK
          obtain ⟨a, ha⟩ : ∃ a, L[k].par = a := ⟨_, rfl⟩
          rw [ha] at e1 hx
          clear ha hkq
          go_wp2_with fail
          go_roundw
          case rel => exact ⟨k + 1, by omega, by go_num, by first | trivial | rfl⟩
          case measure => simp [intOf]; omega
        · obtain rfl : k = K := by omega
          have hx := hKyes.out k hkq rfl
          rw [hx] at e1
          have hne : ¬ kids L p 0 = [] := fun h => by have := hkid.out.1 h; omega
          clear hx hkq
          go_wp2_with fail
          go_ret
          rw [← hR.out, if_pos (Or.inr hne)]
          exact ⟨rfl, hid.out⟩
      · obtain rfl : k = K := by omega
        have hkN : k = m := by omega
        have hnil := hkid.out.2 hkN
        replace hkN := W_hid hkN
        have hge : (m : Int) ≤ (k : Int) := by omega
        by_cases hp1 : p = 1
        · replace hnil := W_hid hnil
          subst hp1
          go_wp2_with fail
          go_ret
          rw [show R = (27, L) from by rw [← hR.out]; simp]
          exact ⟨rfl, hid.out⟩
        · have hne : (p == 1) = false := by simp [hp1]
          replace hnil := W_hid hnil
          replace hp1 := W_hid hp1
          go_wp2_with (go_at_call 38; refine hdrop.out.mono ?_; rintro e w' ⟨rfl, hDO⟩; have hDO := W_hid hDO)
          go_ret
          rw [← hR.out, if_neg (by rintro (h | h); exact hp1.out h; exact h hnil.out)]
          exact ⟨rfl, hDO.out⟩
end
end PC
end Go.Proofs.Ytahcpimpmedbiaa

/- The document's Wait of a table of processes. -/
import Derived.Test.YtahcpimpmedbiaaRefPrc4
namespace Go.Proofs.Ytahcpimpmedbiaa
open Go.ChangeShapes Go.WideShapes Go.ChangeAt Go.RowKit Go.Maps
set_option linter.unusedVariables false
set_option linter.unusedSimpArgs false
set_option maxRecDepth 100000
namespace PC
open IS (I64)
open IN (Keeps lt_of_some)

theorem five_heap (w : World) (r a b c d e k : Nat) (a' b' c' d' e' : Int) (hk : k ≠ r) : (five_set w r a' b' c' d' e').heap[k]? = w.heap[k]? := by
  unfold five_set
  rw [Below.heap_setCell _ _ _ _ hk, Below.heap_setCell _ _ _ _ hk, Below.heap_setCell _ _ _ _ hk, Below.heap_setCell _ _ _ _ hk, Below.heap_setCell _ _ _ _ hk]
theorem DW.five {base : Nat} {w : World} {rb N r : Nat} {L : List Pr} {Y : Nat → Prop} (h : DW base w rb N L Y) (hr : ¬ Y r) (a b c d e : Int) : DW base (five_set w r a b c d e) rb N L Y := by
  obtain ⟨v, h1, h2⟩ := h
  exact ⟨v, h1.moved fun k hk => five_heap w r 0 0 0 0 0 k a b c d e (fun e => hr (by rw [← e]; exact (h2 k).2 hk)), h2⟩
/-- The first child that has ended. -/
theorem wait_place (L : List Pr) (par child : Int) : ∃ K, K ≤ L.length ∧ (∀ j (hj : j < L.length), j < K → kid par child L[j] = true → ¬ L[j].st = 2) ∧
    (∀ hK : K < L.length, kid par child L[K] = true ∧ L[K].st = 2 ∧ ended L par child = some L[K] ∧ kids L par child ≠ []) ∧
    (K = L.length → ended L par child = none) ∧ ∀ k, k = L.length → ((L.take k).any (kid par child) = false ↔ kids L par child = []) := by
  refine ⟨L.findIdx fun x => kid par child x && isEnd x, List.findIdx_le_length, fun j hj hlt hk h2 => ?_, fun hK => ?_, fun he => ?_, fun k hk => ?_⟩
  · have := List.not_of_lt_findIdx hlt
    rw [hk] at this
    simp [isEnd, h2] at this
  · have h1 := List.findIdx_getElem (w := hK)
    simp only [Bool.and_eq_true] at h1
    obtain ⟨h2, h3⟩ := h1
    have hmem : L[L.findIdx fun x => kid par child x && isEnd x] ∈ kids L par child := List.mem_filter.2 ⟨List.getElem_mem hK, h2⟩
    refine ⟨h2, of_decide_eq_true h3, ?_, List.ne_nil_of_mem hmem⟩
    unfold ended kids
    rw [List.find?_filter, List.find?_eq_some_iff_getElem]
    refine ⟨by simp [h2, h3], _, hK, rfl, fun j hj => ?_⟩
    have := List.not_of_lt_findIdx hj
    cases e1 : kid par child L[j] <;> cases e2 : isEnd L[j] <;> simp_all
  · unfold ended kids
    rw [List.find?_filter, List.find?_eq_none]
    intro x hx
    obtain ⟨j, hj, rfl⟩ := List.getElem_of_mem hx
    have := List.not_of_lt_findIdx (p := fun x => kid par child x && isEnd x) (xs := L) (i := j) (by rw [he]; exact hj)
    simpa using this
  · subst hk
    rw [List.take_length]
    unfold kids
    rw [List.filter_eq_nil_iff, List.any_eq_false]
theorem any_step {f : Pr → Bool} {L : List Pr} {k : Nat} (hk : k < L.length) : (L.take (k + 1)).any f = ((L.take k).any f || f L[k]) := by
  rw [List.take_succ_eq_append_getElem hk, List.any_append]
  simp
section
variable {base : Nat} {w w' : World} {rb N : Nat} {v : Value} {L : List Pr} {Y : Nat → Prop}
set_option maxRecDepth 100000 in
set_option maxHeartbeats 8000000 in
theorem rpWait_any (h : DW base w rb N L Y) (hG : Good N L) (p c : Int) : Calls Try.prog 26 #[.pointer (some ⟨rb, 0, none⟩), .int .i64 p, .int .i64 c] w fun e w' => e = .returned (.tuple #[.agg (prow (waitR L p c).1.1).toArray, .int .i64 (waitR L p c).1.2]) ∧ DO base w rb N (waitR L p c).2 Y w' := by
  have hid : Hid (∀ w', Below w.heap.size w w' → DO base w rb N L Y w') := W_hid fun _ hb => h.same hb
  obtain ⟨W0, hW0⟩ : ∃ W0, w.alloc (.cells #[.int .i64 0, .int .i64 0, .int .i64 0, .int .i64 0, .int .i64 0] 43) = W0 := ⟨_, rfl⟩
  have hb0 : Below w.heap.size w W0 := by rw [← hW0]; exact (Below.refl _ _).alloc (Nat.le_refl _) _
  have hr0 : Blk W0 w.heap.size 43 (fv 0 0 0 0 0) := by rw [← hW0]; exact Blk.new w _ (fv 0 0 0 0 0) rfl
  have hs0 : W0.heap.size = w.heap.size + 1 := by rw [← hW0]; simp
  have hD := W_hid h
  have hD0 := W_hid (h.keep hb0)
  obtain ⟨v, hM, hY⟩ := h
  have hlen : L.length ≤ 1024 := by have := hG.len; have := hG.top; omega
  have hruns := rpruns_any p (hM.keep hb0) hlen
  have r0 := hr0.cell (j := 0) rfl
  have r1 := hr0.cell (j := 1) rfl
  have r2 := hr0.cell (j := 2) rfl
  have r3 := hr0.cell (j := 3) rfl
  have r4 := hr0.cell (j := 4) rfl
  have rz := hr0.fz
  have hr0 := W_hid hr0
  have hb0 := W_hid hb0
  replace hs0 := W_hid hs0
  unfold runR at hruns
  obtain ⟨R, hR⟩ : ∃ R, waitR L p c = R := ⟨_, rfl⟩
  have hR2 := hR
  unfold waitR at hR2
  rw [hR]
  replace hR := W_hid hR
  cases hr : runs L p with
  | false =>
    rw [hr, if_pos rfl] at hR2
    rw [hr, if_neg (by simp)] at hruns
    obtain ⟨RP, RL⟩ := R
    simp only [Prod.mk.injEq] at hR2
    obtain ⟨rfl, rfl⟩ := hR2
    clear hM hY hG hr hR
    go_enter Try.func26, Try.ntmps26
    go_wp2_with (go_at_call 37; refine hruns.mono ?_; rintro e w' ⟨rfl, rfl⟩)
    refine bodyPost_ret (res_prc rfl _ _ rfl (five_blk hr0.out _ _ _ _ _)) rfl ⟨rfl, hid.out _ (five_below hb0.out (Nat.le_refl _) _ _ _ _ _)⟩
  | true =>
    rw [hr, if_neg (by simp)] at hR2
    rw [hr, if_pos rfl] at hruns
    obtain ⟨q0, hq0⟩ : ∃ q0, pos L p = q0 := ⟨_, rfl⟩
    rw [hq0] at hruns
    have hd0 : decide ((q0 : Int) < 0) = false := by simp
    by_cases hc0 : c < 0
    · rw [if_pos hc0] at hR2
      obtain ⟨RP, RL⟩ := R
      simp only [Prod.mk.injEq] at hR2
      obtain ⟨rfl, rfl⟩ := hR2
      clear hM hY hG hr hR hq0
      go_enter Try.func26, Try.ntmps26
      go_wp2_with (go_at_call 37; refine hruns.mono ?_; rintro e w' ⟨rfl, rfl⟩)
      refine bodyPost_ret (res_prc rfl _ _ rfl (five_blk hr0.out _ _ _ _ _)) rfl ⟨rfl, hid.out _ (five_below hb0.out (Nat.le_refl _) _ _ _ _ _)⟩
    · rw [if_neg hc0] at hR2
      have hdc : decide (c < 0) = false := by simp; omega
      obtain ⟨K, hK1, hK2, hK3, hK4, hK5⟩ := wait_place L p c
      have hL0 : 0 < L.length := by obtain ⟨x1, m1, -⟩ := hG.one; exact List.length_pos_of_mem m1
      obtain ⟨g, n, cap, rfl, hn, -, hnc, hcm, hbg, hgr, hgl, hrl, -, -, -, c1, -⟩ := hM.opened hL0
      have HM := W_hid hM
      have HG := W_hid hG
      have c1' : W0.cell? ⟨rb, 1, none⟩ = some (.slice (some ⟨g, 0, none⟩) n cap) := by rw [hb0.out.cell (p := ⟨rb, 1, none⟩) hrl]; exact c1
      rw [hn] at hK1 hlen
      replace hn := W_hid hn
      replace hK2 := W_hid hK2
      replace hK3 := W_hid hK3
      replace hK4 := W_hid hK4
      replace hK5 := W_hid hK5
      replace hR2 := W_hid hR2
      have hrl' := hrl
      have hgl' := hgl
      clear hM hY hG hr hq0 c1 hc0 hL0
      go_enter Try.func26, Try.ntmps26
      go_wp2_with (go_at_call 37; refine hruns.mono ?_; rintro e w' ⟨rfl, rfl⟩)
      go_loopw [8, 9] (fun s i wr => ∃ k : Nat, k ≤ K ∧ i = .int .i64 (k : Int) ∧ s = .bool ((L.take k).any (kid p c)) ∧ Below (w.heap.size + 1) W0 wr ∧ w.heap.size + 1 ≤ wr.heap.size) (fun _ i _ => n - (intOf i).toNat)
      case atStart => exact ⟨0, Nat.zero_le _, rfl, by simp, Below.refl _ _, by rw [hs0.out]; exact Nat.le_refl _⟩
      case round =>
        obtain ⟨k, hk, rfl, rfl, bel, hwz⟩ := hrel
        have hwk : IntKind.i64.wrap ((k : Int) + 1) = (k : Int) + 1 := IntWalk.i64_in _ (by omega)
        have hblr : Blk wr w.heap.size 43 (fv 0 0 0 0 0) := hr0.out.below bel (Nat.lt_succ_self _)
        have q1 : wr.cell? ⟨rb, 1, none⟩ = some (.slice (some ⟨g, 0, none⟩) n cap) := by rw [bel.cell (p := ⟨rb, 1, none⟩) (by show rb < _; omega)]; exact c1'
        have hbw : Below w.heap.size w wr := hb0.out.trans (bel_mono bel (Nat.le_succ _))
        have t0 := hblr.cell (j := 0) rfl
        have t1 := hblr.cell (j := 1) rfl
        have t2 := hblr.cell (j := 2) rfl
        have t3 := hblr.cell (j := 3) rfl
        have t4 := hblr.cell (j := 4) rfl
        have tz := hblr.fz
        by_cases hlt : k < n
        · have hkl : k < L.length := by rw [hn.out]; exact hlt
          have hkm : (k : Int) < (n : Int) := by omega
          have hMr := HM.out.keep hbw
          obtain ⟨g', n', cap', hv, hn', -, -, -, -, -, -, -, fg, -, -, -, e0, e1, e2, e3, e4⟩ := hMr.opened hkl
          simp only [Value.slice.injEq, Option.some.injEq, Addr.mk.injEq, and_true, true_and] at hv
          obtain ⟨rfl, rfl, rfl⟩ := hv
          have hany := any_step (f := kid p c) hkl
          have hK2k := hK2.out k hkl
          have hK3k : k = K → kid p c L[k] = true ∧ L[k].st = 2 ∧ ended L p c = some L[k] ∧ kids L p c ≠ [] := fun e => by subst e; exact hK3.out hkl
          have hdropA := drop_at HG.out.asc hkl
          obtain ⟨W1, hW1⟩ : ∃ W1, wr.alloc (.cells #[.int .i64 L[k].pid, .int .i64 L[k].par, .int .i64 L[k].st, .int .i64 L[k].code, .int .i64 L[k].nice] 43) = W1 := ⟨_, rfl⟩
          have belW : Below (w.heap.size + 1) W0 W1 := by rw [← hW1]; exact bel.alloc hwz _
          have hsW : w.heap.size + 1 ≤ W1.heap.size := by rw [← hW1]; simp; omega
          have hblW : Blk W1 wr.heap.size 43 (prow L[k]) := by rw [← hW1]; exact Blk.new wr _ (prow L[k]) rfl
          have hrW : Blk W1 w.heap.size 43 (fv 0 0 0 0 0) := hr0.out.below belW (Nat.lt_succ_self _)
          have hbwW : Below w.heap.size w W1 := hb0.out.trans (bel_mono belW (Nat.le_succ _))
          have hDW := hD.out.keep hbwW
          have hdr := rpdrop_any k hDW hkl (by omega)
          rw [hdropA] at hdr
          obtain ⟨⟨xa, xb, xc, xd, xe⟩, hx⟩ : ∃ x, L[k] = x := ⟨_, rfl⟩
          simp only [hx] at e0 e1 e2 e3 e4 hK2k hK3k hany hW1 hblW hdr
          have s0 := hblW.cell (j := 0) rfl
          have s1 := hblW.cell (j := 1) rfl
          have s2 := hblW.cell (j := 2) rfl
          have s3 := hblW.cell (j := 3) rfl
          have s4 := hblW.cell (j := 4) rfl
          have u0 := hrW.cell (j := 0) rfl
          have u1 := hrW.cell (j := 1) rfl
          have u2 := hrW.cell (j := 2) rfl
          have u3 := hrW.cell (j := 3) rfl
          have u4 := hrW.cell (j := 4) rfl
          have uz := hrW.fz
          have hwne : wr.heap.size ≠ w.heap.size := by omega
          replace hany := W_hid hany
          replace hK3k := W_hid hK3k
          replace hK2k := W_hid hK2k
          replace hblW := W_hid hblW
          replace hrW := W_hid hrW
          replace belW := W_hid belW
          replace hDW := W_hid hDW
          replace hdr := W_hid hdr
          replace hMr := W_hid hMr
          replace bel := W_hid bel
          replace hbw := W_hid hbw
          replace hbwW := W_hid hbwW
          replace hblr := W_hid hblr
          replace hx := W_hid hx
          replace hwne := W_hid hwne
          clear hn' hdropA
          obtain ⟨fl, hfl⟩ : ∃ fl, (L.take k).any (kid p c) = fl := ⟨_, rfl⟩
          rw [hfl]
          replace hfl := W_hid hfl
          have hcont : Hid (kid p c ⟨xa, xb, xc, xd, xe⟩ = false → (L.take (k + 1)).any (kid p c) = fl) := W_hid fun h => by rw [hany.out, h, hfl.out, Bool.or_false]
          have hcont2 : Hid (kid p c ⟨xa, xb, xc, xd, xe⟩ = true → (L.take (k + 1)).any (kid p c) = true) := W_hid fun h => by rw [hany.out, h, Bool.or_true]
          by_cases hpar : xb = p
          · by_cases hc1 : c = 0 ∨ xa = c
            · have hkid : kid p c ⟨xa, xb, xc, xd, xe⟩ = true := by
                unfold kid
                rcases hc1 with h | h <;> simp [hpar, h]
              by_cases hst : xc = 2
              · have hkK : k = K := by
                  rcases Nat.lt_or_ge k K with h | h
                  · exact absurd hst (hK2k.out h hkid)
                  · omega
                have hRR : R = ((⟨xa, xb, xc, xd, xe⟩, 0), dropL L xa) := by
                  obtain ⟨-, -, h3, h4⟩ := hK3k.out hkK
                  rw [← hR2.out, if_neg h4, h3]
                subst hRR
                subst hst hpar
                have hfin : Hid (∀ w', DO base W1 rb N (dropL L xa) Y w' → Blk w' wr.heap.size 43 (fv xa xb 2 xd xe) ∧ Blk w' w.heap.size 43 (fv 0 0 0 0 0) ∧ ∀ a b c d e, DO base w rb N (dropL L xa) Y (five_set w' w.heap.size a b c d e)) := W_hid (by
                  intro w' hDO
                  obtain ⟨Y', h1, h2, h3⟩ := hDO
                  have hYn : ∀ k, w.heap.size ≤ k → ¬ Y k := fun k hk hy => by have := hD.out.lt k hy; omega
                  refine ⟨h2.block _ _ hblW.out (hYn _ (by omega)), h2.block _ _ hrW.out (hYn _ (Nat.le_refl _)), fun a b c d e => ⟨Y', h1.five (fun hy => ?_) a b c d e, ?_, fun k hk => ?_⟩⟩
                  · rcases h3 _ hy with h4 | h4
                    · exact hYn _ (Nat.le_refl _) h4
                    · omega
                  · exact keeps_tail ((Keeps.new hbwW.out hD.out.base_le).trans h2) hD.out.base_le (five_below (Below.refl _ _) (Nat.le_refl _) a b c d e)
                  · exact (h3 k hk).imp id (fun h => by omega))
                replace hkid := W_hid hkid
                replace hkK := W_hid hkK
                rcases hc1 with h0 | h0
                · subst h0
                  go_wp2_with (go_at_call 38; refine hdr.out.mono ?_; rintro e w' ⟨rfl, hDO⟩; obtain ⟨hx1, hx2, hx3⟩ := hfin.out w' hDO; have v0 := hx1.cell (j := 0) rfl; have v1 := hx1.cell (j := 1) rfl; have v2 := hx1.cell (j := 2) rfl; have v3 := hx1.cell (j := 3) rfl; have v4 := hx1.cell (j := 4) rfl; have y0 := hx2.cell (j := 0) rfl; have y1 := hx2.cell (j := 1) rfl; have y2 := hx2.cell (j := 2) rfl; have y3 := hx2.cell (j := 3) rfl; have y4 := hx2.cell (j := 4) rfl; have yz := hx2.fz; have hx1 := W_hid hx1; have hx2 := W_hid hx2; have hx3 := W_hid hx3; have hDO := W_hid hDO)
                  refine bodyPost_ret (res_prc rfl _ _ rfl (five_blk hx2.out _ _ _ _ _)) rfl ⟨rfl, hx3.out _ _ _ _ _⟩
                · subst h0
                  by_cases hz : xa = 0
                  · subst hz
                    go_wp2_with (go_at_call 38; refine hdr.out.mono ?_; rintro e w' ⟨rfl, hDO⟩; obtain ⟨hx1, hx2, hx3⟩ := hfin.out w' hDO; have v0 := hx1.cell (j := 0) rfl; have v1 := hx1.cell (j := 1) rfl; have v2 := hx1.cell (j := 2) rfl; have v3 := hx1.cell (j := 3) rfl; have v4 := hx1.cell (j := 4) rfl; have y0 := hx2.cell (j := 0) rfl; have y1 := hx2.cell (j := 1) rfl; have y2 := hx2.cell (j := 2) rfl; have y3 := hx2.cell (j := 3) rfl; have y4 := hx2.cell (j := 4) rfl; have yz := hx2.fz; have hx1 := W_hid hx1; have hx2 := W_hid hx2; have hx3 := W_hid hx3; have hDO := W_hid hDO)
                    refine bodyPost_ret (res_prc rfl _ _ rfl (five_blk hx2.out _ _ _ _ _)) rfl ⟨rfl, hx3.out _ _ _ _ _⟩
                  · have hc2 : (xa != 0) = true := by simp [hz]
                    have hc3 : (xa != xa) = false := by simp
                    replace hz := W_hid hz
                    go_wp2_with (go_at_call 38; refine hdr.out.mono ?_; rintro e w' ⟨rfl, hDO⟩; obtain ⟨hx1, hx2, hx3⟩ := hfin.out w' hDO; have v0 := hx1.cell (j := 0) rfl; have v1 := hx1.cell (j := 1) rfl; have v2 := hx1.cell (j := 2) rfl; have v3 := hx1.cell (j := 3) rfl; have v4 := hx1.cell (j := 4) rfl; have y0 := hx2.cell (j := 0) rfl; have y1 := hx2.cell (j := 1) rfl; have y2 := hx2.cell (j := 2) rfl; have y3 := hx2.cell (j := 3) rfl; have y4 := hx2.cell (j := 4) rfl; have yz := hx2.fz; have hx1 := W_hid hx1; have hx2 := W_hid hx2; have hx3 := W_hid hx3; have hDO := W_hid hDO)
                    refine bodyPost_ret (res_prc rfl _ _ rfl (five_blk hx2.out _ _ _ _ _)) rfl ⟨rfl, hx3.out _ _ _ _ _⟩
              · have hlK : k < K := by
                  rcases Nat.lt_or_ge k K with h | h
                  · exact h
                  · exact absurd (hK3k.out (by omega)).2.1 hst
                have hne3 : (xc == 2) = false := by simp [hst]
                subst hpar
                replace hkid := W_hid hkid
                clear hst
                rcases hc1 with h0 | h0
                · subst h0
                  go_wp2_with fail
                  go_roundw
                  case rel => exact ⟨k + 1, hlK, by go_num, by rw [hcont2.out hkid.out], belW.out, hsW⟩
                  case measure => simp [intOf]; omega
                · subst h0
                  by_cases hz : xa = 0
                  · subst hz
                    go_wp2_with fail
                    go_roundw
                    case rel => exact ⟨k + 1, hlK, by go_num, by rw [hcont2.out hkid.out], belW.out, hsW⟩
                    case measure => simp [intOf]; omega
                  · have hc2 : (xa != 0) = true := by simp [hz]
                    have hc3 : (xa != xa) = false := by simp
                    replace hz := W_hid hz
                    go_wp2_with fail
                    go_roundw
                    case rel => exact ⟨k + 1, hlK, by go_num, by rw [hcont2.out hkid.out], belW.out, hsW⟩
                    case measure => simp [intOf]; omega
            · have hkid : kid p c ⟨xa, xb, xc, xd, xe⟩ = false := by
                unfold kid
                simp only [hpar]
                simp
                exact ⟨fun h => hc1 (.inl h), fun h => hc1 (.inr h)⟩
              have hlK : k < K := by
                rcases Nat.lt_or_ge k K with h | h
                · exact h
                · have := (hK3k.out (by omega)).1
                  rw [hkid] at this; cases this
              have hc2 : (c != 0) = true := by simp; exact fun h => hc1 (.inl h)
              have hc3 : (xa != c) = true := by simp; exact fun h => hc1 (.inr h)
              subst hpar
              replace hkid := W_hid hkid
              clear hc1
              go_wp2_with fail
              go_roundw
              case rel => exact ⟨k + 1, hlK, by go_num, by rw [hcont.out hkid.out], belW.out, hsW⟩
              case measure => simp [intOf]; omega
          · have hkid : kid p c ⟨xa, xb, xc, xd, xe⟩ = false := by simp [kid, hpar]
            have hne : (xb != p) = true := by simp [hpar]
            have hlK : k < K := by
              rcases Nat.lt_or_ge k K with h | h
              · exact h
              · have := (hK3k.out (by omega)).1
                rw [hkid] at this; cases this
            replace hkid := W_hid hkid
            clear hpar
            go_wp2_with fail
            go_roundw
            case rel => exact ⟨k + 1, hlK, by go_num, by rw [hcont.out hkid.out], belW.out, hsW⟩
            case measure => simp [intOf]; omega
        · obtain rfl : k = n := by omega
          have hKk : K = k := by omega
          have hge : ¬ ((k : Int) < (k : Int)) := by omega
          have hnone := hK4.out (by rw [hn.out]; exact hKk)
          have hflag := hK5.out k hn.out.symm
          obtain ⟨fl, hfl⟩ : ∃ fl, (L.take k).any (kid p c) = fl := ⟨_, rfl⟩
          rw [hfl] at hflag ⊢
          replace hfl := W_hid hfl
          replace hbw := W_hid hbw
          replace hblr := W_hid hblr
          replace bel := W_hid bel
          cases fl with
          | false =>
            have hRR : R = ((zeroP, 20), L) := by rw [← hR2.out, if_pos (hflag.1 rfl)]
            subst hRR
            replace hflag := W_hid hflag
            replace hnone := W_hid hnone
            go_wp2_with fail
            refine bodyPost_ret (res_prc rfl _ _ rfl (five_blk hblr.out _ _ _ _ _)) rfl ⟨rfl, hid.out _ (five_below hbw.out (Nat.le_refl _) _ _ _ _ _)⟩
          | true =>
            have hRR : R = ((zeroP, 25), L) := by
              rw [← hR2.out, if_neg (fun h => by have := hflag.2 h; cases this), hnone]
            subst hRR
            replace hflag := W_hid hflag
            replace hnone := W_hid hnone
            go_wp2_with fail
            refine bodyPost_ret (res_prc rfl _ _ rfl (five_blk hblr.out _ _ _ _ _)) rfl ⟨rfl, hid.out _ (five_below hbw.out (Nat.le_refl _) _ _ _ _ _)⟩
end
end PC
end Go.Proofs.Ytahcpimpmedbiaa

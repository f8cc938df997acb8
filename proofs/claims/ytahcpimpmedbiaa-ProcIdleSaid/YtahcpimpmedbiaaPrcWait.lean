/- Contracts of package proc: Wait, All. -/
import Derived.Test.YtahcpimpmedbiaaPrcEnd
import Derived.Test.YtahcpimpmedbiaaOwn3
import Derived.BigRegion
namespace Go.Proofs.Ytahcpimpmedbiaa
open Go.ChangeShapes Go.WideShapes Go.ChangeAt Go.RowKit Go.Maps
set_option linter.unusedVariables false
set_option linter.unusedSimpArgs false
set_option maxRecDepth 100000
namespace PC
open IS (ptr I64 Nums upd)
open IN (Keeps lt_of_some)

theorem find_split {α : Type} (f : α → Bool) : ∀ (l : List α), l.find? f = none → ∀ (k : Nat) (hk : k < l.length), f l[k] = false := by
  intro l h k hk
  rw [List.find?_eq_none] at h
  simpa using h l[k] (List.getElem_mem hk)
theorem Wait_nil (p c : Int) (w : World) : Calls Try.prog 19 #[.pointer none, .int .i64 p, .int .i64 c] w fun e w' => e = .returned (.tuple #[.agg (prow zeroP).toArray, .int .i64 1]) ∧ Below w.heap.size w w' := by
  obtain ⟨W0, hW0⟩ : ∃ W0, w.alloc (.cells #[.int .i64 0, .int .i64 0, .int .i64 0, .int .i64 0, .int .i64 0] 43) = W0 := ⟨_, rfl⟩
  have hb0 : Below w.heap.size w W0 := by rw [← hW0]; exact (Below.refl _ _).alloc (Nat.le_refl _) _
  have hr0 : Blk W0 w.heap.size 43 (fv 0 0 0 0 0) := by rw [← hW0]; exact Blk.new w _ (fv 0 0 0 0 0) rfl
  have r0 := hr0.cell (j := 0) rfl
  have r1 := hr0.cell (j := 1) rfl
  have r2 := hr0.cell (j := 2) rfl
  have r3 := hr0.cell (j := 3) rfl
  have r4 := hr0.cell (j := 4) rfl
  have rz := hr0.fz
  have hr0 := W_hid hr0
  have hb0 := W_hid hb0
  go_enter Try.func19, Try.ntmps19
  go_wp2_with (go_at_call 33; refine (running_nil _ _).mono ?_; rintro e w' ⟨rfl, rfl⟩)
  refine bodyPost_ret (res_prc rfl _ _ rfl (five_blk hr0.out _ _ _ _ _)) rfl ⟨rfl, five_below hb0.out (Nat.le_refl _) _ _ _ _ _⟩
section
variable {base : Nat} {w w' : World} {tb mb N : Nat} {M : Int → Option Nat} {L : List Pr} {X : Nat → Prop}
set_option maxRecDepth 100000 in
set_option maxHeartbeats 4000000 in
theorem Wait_any (h : TW base w tb N L X) (hG : Good N L) (p c : Int) (hp : I64 p) : Calls Try.prog 19 #[.pointer (some ⟨tb, 0, none⟩), .int .i64 p, .int .i64 c] w fun e w' => e = .returned (.tuple #[.agg (prow (waitR L p c).1.1).toArray, .int .i64 (waitR L p c).1.2]) ∧ TO base w tb N (waitR L p c).2 X w' := by
  have hid : Hid (∀ w', Below w.heap.size w w' → TO base w tb N L X w') := W_hid fun _ hb => h.same hb
  obtain ⟨mb, M, hT, hX⟩ := h
  obtain ⟨W0, hW0⟩ : ∃ W0, w.alloc (.cells #[.int .i64 0, .int .i64 0, .int .i64 0, .int .i64 0, .int .i64 0] 43) = W0 := ⟨_, rfl⟩
  have hb0 : Below w.heap.size w W0 := by rw [← hW0]; exact (Below.refl _ _).alloc (Nat.le_refl _) _
  have hr0 : Blk W0 w.heap.size 43 (fv 0 0 0 0 0) := by rw [← hW0]; exact Blk.new w _ (fv 0 0 0 0 0) rfl
  have hT0 := hT.keep hb0
  have hs0 : W0.heap.size = w.heap.size + 1 := by rw [← hW0]; simp
  have r0 := hr0.cell (j := 0) rfl
  have r1 := hr0.cell (j := 1) rfl
  have r2 := hr0.cell (j := 2) rfl
  have r3 := hr0.cell (j := 3) rfl
  have r4 := hr0.cell (j := 4) rfl
  have rz := hr0.fz
  have hr0 := W_hid hr0
  have hb0 := W_hid hb0
  replace hs0 := W_hid hs0
  have hzero : prow zeroP = fv 0 0 0 0 0 := rfl
  unfold waitR
  cases hr : runs L p with
  | false =>
    rw [if_pos rfl]
    have hc := running_no hT0 hp hr
    clear hT hX hr hG hT0
    go_enter Try.func19, Try.ntmps19
    go_wp2_with (go_at_call 33; refine hc.mono ?_; rintro e w' ⟨rfl, rfl⟩)
    refine bodyPost_ret (res_prc rfl _ _ rfl (five_blk hr0.out _ _ _ _ _)) rfl ⟨rfl, hid.out _ (five_below hb0.out (Nat.le_refl _) _ _ _ _ _)⟩
  | true =>
    rw [if_neg (by simp)]
    obtain ⟨x, hx, hst⟩ := run_of hr
    obtain ⟨g, hM⟩ := hT.some' hx
    have hc := running_yes hT0 hp hM hx hst
    by_cases hc0 : c < 0
    · rw [if_pos hc0]
      clear hT hX hr hG hT0 hM hx hst
      go_enter Try.func19, Try.ntmps19
      go_wp2_with (go_at_call 33; refine hc.mono ?_; rintro e w' ⟨rfl, rfl⟩)
      refine bodyPost_ret (res_prc rfl _ _ rfl (five_blk hr0.out _ _ _ _ _)) rfl ⟨rfl, hid.out _ (five_below hb0.out (Nat.le_refl _) _ _ _ _ _)⟩
    · rw [if_neg hc0]
      have hdc : decide (c < 0) = false := by simp; omega
      have hk := children_any hT0 hG p c
      by_cases hkn : kids L p c = []
      · rw [if_pos hkn]
        rw [hkn] at hk
        simp only [List.length_nil, List.map_nil] at hk
        replace hk := W_hid hk
        clear hT hX hr hG hT0 hM hx hst hkn hc0
        go_enter Try.func19, Try.ntmps19
        go_wp2_with (first
          | (go_at_call 33; refine hc.mono ?_; rintro e w' ⟨rfl, rfl⟩)
          | (go_at_call 35; refine hk.out.mono ?_; rintro e w1 ⟨v, rfl, hr1, hb1⟩; obtain ⟨av, cv, rfl⟩ := Own.form hr1; have q1 := hr0.out.keep hb1; have p0 := q1.cell (j := 0) rfl; have p1 := q1.cell (j := 1) rfl; have p2 := q1.cell (j := 2) rfl; have p3 := q1.cell (j := 3) rfl; have p4 := q1.cell (j := 4) rfl; have pz := q1.fz; have q1 := W_hid q1; have hb1 := W_hid hb1; clear hr1))
        refine bodyPost_ret (res_prc rfl _ _ rfl (five_blk q1.out _ _ _ _ _)) rfl ⟨rfl, hid.out _ (five_below (hb0.out.trans (bel_mono hb1.out hb0.out.size)) (Nat.le_refl _) _ _ _ _ _)⟩
      · rw [if_neg hkn]
        obtain ⟨n, hn⟩ : ∃ n, (kids L p c).length = n := ⟨_, rfl⟩
        have hn0 : 0 < n := by rw [← hn]; exact List.length_pos_iff.2 hkn
        have hn1024 : n ≤ 1024 := by
          have := List.length_filter_le (kid p c) L
          unfold kids at hn
          have := hG.len; have := hG.top; omega
        have hnn : ((n : Int) == 0) = false := by simp; omega
        rw [hn] at hk
        replace hk := W_hid hk
        have H := W_hid hT0
        have HG := W_hid hG
        have HX := W_hid hX
        have HT := W_hid hT
        replace hn := W_hid hn
        have hkey : Hid (∀ k (hk : k < (kids L p c).length), ∃ y gy, (kids L p c)[k] = y ∧ y ∈ L ∧ get L y.pid = some y ∧ M y.pid = some gy ∧ gy < w.heap.size) := W_hid (by
          intro k hk
          have hyL := (List.mem_filter.1 (List.getElem_mem hk)).1
          have hgy := asc_get hG.asc hyL
          obtain ⟨gy, hMy⟩ := hT.some' hgy
          exact ⟨_, gy, rfl, hyL, hgy, hMy, hT.lt hMy⟩)
        obtain ⟨en, hen⟩ : ∃ en, ended L p c = en := ⟨_, rfl⟩
        have hen2 := W_hid hen
        have hK : ∃ K, K ≤ n ∧ (∀ k (hk : k < (kids L p c).length), k < K → isEnd (kids L p c)[k] = false) ∧ (K < n → ∃ (hk : K < (kids L p c).length), isEnd (kids L p c)[K] = true ∧ en = some (kids L p c)[K]) ∧ (K = n → en = none) := by
          rw [← hen]
          unfold ended
          refine ⟨(kids L p c).findIdx isEnd, by rw [← hn.out]; exact List.findIdx_le_length, fun k hk hlt => by simpa using List.not_of_lt_findIdx hlt, fun hlt => ?_, fun he => ?_⟩
          · have hl : (kids L p c).findIdx isEnd < (kids L p c).length := by rw [hn.out]; exact hlt
            refine ⟨hl, List.findIdx_getElem, ?_⟩
            rw [List.find?_eq_some_iff_getElem]
            exact ⟨List.findIdx_getElem, _, hl, rfl, fun j hj => by simpa using List.not_of_lt_findIdx hj⟩
          · rw [List.find?_eq_none]
            intro z hz
            obtain ⟨j, hj, rfl⟩ := List.getElem_of_mem hz
            have : j < (kids L p c).findIdx isEnd := by rw [he, ← hn.out]; exact hj
            simpa using List.not_of_lt_findIdx this
        rw [hen]
        obtain ⟨K, hKn, hKno, hKyes, hKend⟩ := hK
        replace hKno := W_hid hKno
        replace hKyes := W_hid hKyes
        replace hKend := W_hid hKend
        clear hT hX hr hG hT0 hM hx hst hkn hc0 hen
        go_enter Try.func19, Try.ntmps19
        go_wp2_with (first
          | (go_at_call 33; refine hc.mono ?_; rintro e w' ⟨rfl, rfl⟩)
          | (go_at_call 35; refine hk.out.mono ?_; rintro e w1 ⟨v, rfl, hr1, hb1⟩; obtain ⟨av, cv, rfl, hnm, hrow⟩ := row_ptr hr1 (by rw [List.length_map]; exact hn.out); have q1 := hr0.out.keep hb1; have hrow := W_hid hrow; have q1 := W_hid q1; have hb1 := W_hid hb1; clear hr1))
        have hnm2 := hnm
        unfold maxLen at hnm2
        have q2 := q1.out
        have p0 := q2.cell (j := 0) rfl
        have p1 := q2.cell (j := 1) rfl
        have p2 := q2.cell (j := 2) rfl
        have p3 := q2.cell (j := 3) rfl
        have p4 := q2.cell (j := 4) rfl
        have pz := q2.fz
        replace q2 := W_hid q2
        have hbel := W_hid (hb0.out.trans (bel_mono hb1.out hb0.out.size))
        go_loopw [36] (fun i wr => ∃ k : Nat, i = .int .i64 (k : Int) ∧ k ≤ K ∧ w1 = wr) (fun i _ => n - (intOf i).toNat)
        case atStart => exact ⟨0, rfl, Nat.zero_le _, rfl⟩
        case round =>
          obtain ⟨k, rfl, hkn, rfl⟩ := hrel
          have hwr : IntKind.i64.wrap ((k : Int) + 1) = ((k + 1 : Nat) : Int) := by rw [IntWalk.i64_in _ (by omega)]; omega
          by_cases hltn : k < n
          · have hkl : k < (kids L p c).length := by rw [hn.out]; exact hltn
            obtain ⟨gr, rfl, hg1, hg2, hg3, hg4, hcell⟩ := hrow.out k hltn
            obtain ⟨y, gy, hy, hyL, hgy, hMy, hgyl⟩ := hkey.out k hkl
            have hptr : w1.cell? ⟨gr, k, none⟩ = some (.pointer (some ⟨gy, 0, none⟩)) := by
              refine hcell _ ?_
              rw [List.getElem?_map, List.getElem?_eq_getElem hkl, hy]
              simp [hMy, ptr]
            have hT1 := H.out.keep hb1.out
            have hbk := hT1.node _ _ _ hMy hgy
            have e2 := hbk.cell (j := 2) rfl
            have hi1 : ((k : Int) < (n : Int)) := by omega
            have hc2 : (n : Int) ≤ (cv : Int) := by omega
            by_cases hlt : k < K
            · have hnot := hKno.out k hkl hlt
              rw [hy] at hnot
              have hst2 : ¬ y.st = 2 := by simpa [isEnd] using hnot
              obtain ⟨st, hst⟩ : ∃ st, y.st = st := ⟨_, rfl⟩
              rw [hst] at e2 hst2
              have hne : (st == 2) = false := by simp [hst2]
              replace hT1 := W_hid hT1
              replace hMy := W_hid hMy
              replace hgy := W_hid hgy
              replace hy := W_hid hy
              replace hcell := W_hid hcell
              replace hbk := W_hid hbk
              clear hst
              go_wp2_with fail
              go_roundw
              case rel => exact ⟨k + 1, by simp [hwr], by omega, by first | trivial | rfl⟩
              case measure => simp [intOf, hwr]; omega
            · obtain rfl : k = K := by omega
              obtain ⟨hkl', hyes, heq⟩ := hKyes.out hltn
              rw [hy] at hyes heq
              have hst2 : y.st = 2 := by simpa [isEnd] using hyes
              subst heq
              have hpy : I64 y.pid := by have := HG.out.pid y hyL; have := HG.out.top; exact ⟨by omega, by omega⟩
              have hTd := hT1.drew1
              obtain ⟨w2, h1, h2, h3, h4⟩ := hTd.mp.del y.pid hpy 0
              obtain ⟨k1, k2, k3⟩ := hTd.del h2 h3
              have hdel : ∀ ty, (Builtin.delete_ #[56, 3] ty #[.map (some mb), .int .i64 y.pid]).run Try.prog w1.drew = .ok (.tuple #[]) w2 := fun ty => by rw [← h1]; rfl
              have c0 := hT1.box.cell (j := 0) rfl
              have cp := hbk.cell (j := 0) rfl
              have hmbl := HT.out.mp.lt
              have hbk2 : Blk w2 gy 43 (prow y) := Blk.grown (w := w1.drew) hbk h3 (by have := H.out.gm hMy; simpa using this)
              have hq2 : Blk w2 w.heap.size 43 (fv 0 0 0 0 0) := Blk.grown (w := w1.drew) q1.out h3 (by simp; omega)
              have hend : Hid (∀ w3, Below w.heap.size w2 w3 → TO base w tb N (dropL L y.pid) X w3) := W_hid (by
                intro w3 hb3
                have hgn : ∀ k, TX tb mb (upd M y.pid none) k → k < w.heap.size := fun k hk => HT.out.tlt k (k3 k hk)
                refine ⟨TX tb mb (upd M y.pid none), ⟨mb, _, (k1.moved (w' := w3) fun k hk => hb3.block k (hgn k hk)).congr fun q => (get_drop HG.out.asc y.pid q).symm, fun k => Iff.rfl⟩, ?_, fun k hk => .inl ((HX.out k).2 (k3 k hk))⟩
                have hw : Keeps base (fun k _ => X k) w w2 := (Keeps.new hbel.out HT.out.base_le).trans (keeps_iff (Keeps.undrew k2) fun k hk => (HX.out k).2 hk)
                exact keeps_tail hw HT.out.base_le hb3)
              obtain ⟨ya, yb, yc, yd, ye⟩ := y
              have f0 := hbk2.cell (j := 0) rfl
              have f1 := hbk2.cell (j := 1) rfl
              have f2 := hbk2.cell (j := 2) rfl
              have f3 := hbk2.cell (j := 3) rfl
              have f4 := hbk2.cell (j := 4) rfl
              have z0 := hq2.cell (j := 0) rfl
              have z1 := hq2.cell (j := 1) rfl
              have z2 := hq2.cell (j := 2) rfl
              have z3 := hq2.cell (j := 3) rfl
              have z4 := hq2.cell (j := 4) rfl
              have zz := hq2.fz
              simp only at hst2 hdel cp
              subst hst2
              replace hq2 := W_hid hq2
              replace hbk2 := W_hid hbk2
              replace hTd := W_hid hTd
              replace h2 := W_hid h2
              replace h3 := W_hid h3
              replace k1 := W_hid k1
              replace k2 := W_hid k2
              replace hT1 := W_hid hT1
              replace hMy := W_hid hMy
              replace hgy := W_hid hgy
              replace hy := W_hid hy
              replace hcell := W_hid hcell
              replace hbk := W_hid hbk
              clear h1 h4 k3 hyes
              go_wp2_with fail
              go_region
              go_wp2_with fail
              refine bodyPost_ret (res_prc rfl _ _ rfl (five_blk hq2.out _ _ _ _ _)) rfl ⟨rfl, hend.out _ (five_below (Below.refl _ _) (Nat.le_refl _) _ _ _ _ _)⟩
          · obtain rfl : k = n := by omega
            have hKK : K = k := by omega
            have hnone := hKend.out hKK
            subst hnone
            go_wp2_with fail
            refine bodyPost_ret (res_prc rfl _ _ rfl (five_blk q2.out _ _ _ _ _)) rfl ⟨rfl, hid.out _ (five_below hbel.out (Nat.le_refl _) _ _ _ _ _)⟩
end
end PC
end Go.Proofs.Ytahcpimpmedbiaa

/- Contracts of package sched: Nice, Add. -/
import Derived.Test.YtmikgkelmdgckaaSchOps
namespace Go.Proofs.Ytmikgkelmdgckaa
open Go.ChangeShapes Go.WideShapes Go.ChangeAt Go.RowKit
set_option linter.unusedVariables false
set_option linter.unusedSimpArgs false
set_option maxRecDepth 100000
namespace SD
open IN (Keeps lt_of_some)
open FM (one)
attribute [local go_sem] run_store_float
theorem wp_world {P : Program} {c : Code} {Q : Exit → Act → World → Prop} {a : Act} {W : World} (R : World → Prop) (h : R W) (k : ∀ W, R W → Code.wp P c Q a W) : Code.wp P c Q a W := k W h
theorem lst_take {c : Nat} {S : Qs} (h : Good c S) {p n : Int} {x : Pr} (hx : get S.P p = some x) (hc : ¬ (x.on = true ∧ lev n ≠ lev x.nice)) (k : Nat) : lst (S.P.set (low S.P p) { x with nice := n }) S.L k = lst S.P S.L k := by
  refine lst_congr (fun q hq => ?_) k
  by_cases e : q = p
  · subst e
    rw [levP_set h (y := { x with nice := n }) hx (get_some hx).2, levP_some hx]
    by_cases hon : x.on = true
    · exact Decidable.byContradiction fun hne => hc ⟨hon, hne⟩
    · exact absurd ((h.mem q).1 hq) (by rw [hx]; simp [hon])
  · exact levP_congr (by rw [get_set (y := { x with nice := n }) h.asc hx (get_some hx).2, if_neg e])
section
variable {base : Nat} {w : World} {qb : Nat} {S : Qs} {X : Nat → Prop} {c : Nat}
set_option maxRecDepth 100000 in
set_option maxHeartbeats 4000000 in
theorem Nice_any (h : QW base w qb S X) (hG : Good c S) (hc : c ≤ 50000) (p n : Int) : Calls Try.prog 33 #[ptr qb, .int .i64 p, .int .i64 n] w fun e w' => e = .returned (.int .i64 (niceR S p n).1) ∧ QO base w qb (niceR S p n).2 X w' := by
  have hid := W_hid (fun w' (hb : Below w.heap.size w w') => h.same hb)
  obtain ⟨nb, vr, vl, hM, hX⟩ := h
  have hlen : S.P.length ≤ 60000 := by have := hG.len; omega
  cases hg : get S.P p with
  | none =>
    rw [show niceR S p n = (19, S) by unfold niceR; rw [hg]]
    have hf := W_hid (find_no hM hG.asc hlen p hg)
    clear hM hX hg
    go_enter Try.func33, Try.ntmps33
    go_wp2_with (go_at_call 13; refine hf.out.mono ?_; rintro e w1 ⟨rfl, hb⟩; have hb := W_hid hb)
    go_ret
    exact ⟨rfl, hid.out _ hb.out⟩
  | some x =>
    obtain ⟨g, hv⟩ := hM.block hG.asc hg
    have hf := W_hid (find_yes hM hG.asc hlen p hg hv)
    have hfd := W_hid (fun w1 (hb : Below w.heap.size w w1) => (hM.keep hb).found hG.asc hg hv)
    have hn := (hG.get_ok hg).2.1
    have cN := W_hid (fun w1 => isNice_any n w1)
    cases hin : isNice n with
    | false =>
      rw [show niceR S p n = (2, S) by unfold niceR; rw [hg]; simp [hin]]
      rw [hin] at cN
      obtain ⟨K, hK⟩ : ∃ K, low S.P p = K := ⟨_, rfl⟩
      rw [hK] at hf hfd
      clear hM hX hg hK
      go_enter Try.func33, Try.ntmps33
      go_wp2_with (first
        | (go_at_call 13; refine hf.out.mono ?_; rintro e w1 ⟨rfl, hb⟩; have hb := W_hid hb)
        | (go_at_call 19; refine (cN.out _).mono ?_; rintro e w2 ⟨rfl, rfl⟩))
      go_ret
      exact ⟨rfl, hid.out _ hb.out⟩
    | true =>
      rw [hin] at cN
      have hn2 := isNice_iff.1 hin
      rw [show niceR S p n = (0, ⟨S.P.set (low S.P p) { x with nice := n }, if x.on = true ∧ lev n ≠ lev x.nice then off S.L p ++ [p] else S.L⟩) by unfold niceR; rw [hg]; simp [hin]]
      have hll : (lst S.P S.L (lev x.nice)).length ≤ 60000 := by have := lst_len S (lev x.nice); have := hG.llen; omega
      have hll2 : (lst S.P S.L (lev n)).length ≤ 60000 := by have := lst_len S (lev n); have := hG.llen; omega
      have hw2 : Hid (∀ w1, Below w.heap.size w w1 → (w1.setCell ⟨g, low S.P p * 4 + 1, none⟩ (.int .i64 n)).cell? ⟨g, low S.P p * 4 + 1, none⟩ = some (.int .i64 n) ∧ (w1.setCell ⟨g, low S.P p * 4 + 1, none⟩ (.int .i64 n)).cell? ⟨g, low S.P p * 4 + 2, none⟩ = some (.bool (!x.on))) := W_hid fun w1 hb => by
        obtain ⟨-, -, h3, h4, -⟩ := (hM.keep hb).found hG.asc hg hv
        refine ⟨World.cell?_setCell_same _ _ _ h3, ?_⟩
        · rw [World.cell?_setCell_other _ _ _ _ (by simp)]
          exact h4
      have cL := W_hid (fun w1 (hc : w1.cell? ⟨g, low S.P p * 4 + 1, none⟩ = some (.int .i64 x.nice)) => level_any g (low S.P p * 4 + 1) x.nice hn w1 hc)
      have cL2 := W_hid (fun w1 (hc : w1.cell? ⟨g, low S.P p * 4 + 1, none⟩ = some (.int .i64 n)) => level_any g (low S.P p * 4 + 1) n hn2 w1 hc)
      by_cases hmv : x.on = true ∧ lev n ≠ lev x.nice
      · rw [if_pos hmv]
        have hset : Hid (∀ w1, Below w.heap.size w w1 →
            Calls Try.prog 24 #[ptr qb, .int .i64 p, .int .i64 (lev x.nice : Nat)] (w1.setCell ⟨g, low S.P p * 4 + 1, none⟩ (.int .i64 n)) fun e w2 => e = .returned (.tuple #[]) ∧
            Calls Try.prog 22 #[ptr qb, .int .i64 p, .int .i64 (lev n : Nat)] w2 fun e w' => e = .returned (.tuple #[]) ∧ QO base w qb ⟨S.P.set (low S.P p) { x with nice := n }, off S.L p ++ [p]⟩ X w') := W_hid fun w1 hb => by
          obtain ⟨h1, h2⟩ := (hM.keep hb).setX (y := { x with nice := n }) hG.asc hg hv 1 (.int .i64 n) (by omega) (by simp [prow])
          refine (leave_any h1 p (lev_lt hn) hll).mono ?_
          rintro e w2 ⟨rfl, vl', h3, h4, h5⟩
          refine ⟨rfl, (join_any h3 p (lev_lt hn2) ?_).mono ?_⟩
          · unfold updL
            rw [if_neg hmv.2]
            exact hll2
          rintro e w' ⟨rfl, vl2, h6, h7, h8⟩
          have hk := h2.trans (keeps_two h4 h7 h5)
          refine ⟨rfl, QO.of hX h6 (fun k hk => ?_) ((Keeps.new hb hM.base_le).trans hk) (fun k hk => ?_)⟩
          · show lst (S.P.set (low S.P p) { x with nice := n }) (off S.L p ++ [p]) k = _
            rw [lst_app, levP_set hG hg (y := { x with nice := n }) (get_some hg).2, lsts_nice hG hg]
            unfold updL
            by_cases e : k = lev n
            · rw [if_pos e, if_pos e.symm, e, if_neg hmv.2, off_lst hG hg (.inr fun e2 => hmv.2 e2.symm)]
            · rw [if_neg e, if_neg (fun e2 => e e2.symm)]
              by_cases e3 : k = lev x.nice
              · rw [if_pos e3, e3]
              · rw [if_neg e3, off_lst hG hg (.inr fun e2 => e3 e2.symm)]
          · rcases h8 k hk with h9 | h9
            · exact (h5 k h9).imp_right fun h => Nat.le_trans hb.size (Nat.le_trans h2.size h)
            · exact .inr (Nat.le_trans hb.size (Nat.le_trans h2.size (Nat.le_trans h4.size h9)))
        obtain ⟨K, hK⟩ : ∃ K, low S.P p = K := ⟨_, rfl⟩
        rw [hmv.1] at hfd hw2
        simp only [Bool.not_true] at hfd hw2
        obtain ⟨l1, hl1⟩ : ∃ l, lev x.nice = l := ⟨_, rfl⟩
        obtain ⟨l2, hl2⟩ : ∃ l, lev n = l := ⟨_, rfl⟩
        have hne : ¬ (l2 : Int) = (l1 : Int) := by have := hmv.2; omega
        rw [hK] at hf hfd hset cL hw2 cL2 ⊢
        rw [hl1, hl2] at hset
        rw [hl1] at cL
        rw [hl2] at cL2
        clear hM hX hg hK hll hll2 hl1 hl2 hmv
        go_enter Try.func33, Try.ntmps33
        go_wp2_with (first
          | (go_at_call 13; refine hf.out.mono ?_; rintro e w1 ⟨rfl, hb⟩; obtain ⟨z0, z1, y1, y2, -⟩ := hfd.out w1 hb; obtain ⟨y3, y4⟩ := hw2.out w1 hb; have cV := W_hid (hset.out w1 hb); have hb := W_hid hb; have cL1 := W_hid (cL.out _ y1); have cL3 := W_hid (cL2.out _ y3))
          | (go_at_call 19; refine (cN.out _).mono ?_; rintro e w2 ⟨rfl, rfl⟩)
          | (go_at_call 23; first | (refine cL1.out.mono ?_; rintro e w' ⟨rfl, rfl⟩) | (refine cL3.out.mono ?_; rintro e w' ⟨rfl, rfl⟩))
          | (go_at_call 24; refine cV.out.mono ?_; rintro e w3 ⟨rfl, cJ⟩; have cJ := W_hid cJ)
          | (go_at_call 22; refine cJ.out.mono ?_; rintro e w4 ⟨rfl, hO⟩; have hO := W_hid hO))
        go_ret
        exact ⟨rfl, hO.out⟩
      · rw [if_neg hmv]
        have hset : Hid (∀ w1, Below w.heap.size w w1 → QO base w qb ⟨S.P.set (low S.P p) { x with nice := n }, S.L⟩ X (w1.setCell ⟨g, low S.P p * 4 + 1, none⟩ (.int .i64 n))) := W_hid fun w1 hb => by
          obtain ⟨h1, h2⟩ := (hM.keep hb).setX (y := { x with nice := n }) hG.asc hg hv 1 (.int .i64 n) (by omega) (by simp [prow])
          exact QO.of hX h1 (fun k hk => lst_take hG hg hmv k) ((Keeps.new hb hM.base_le).trans h2) (fun k hk => .inl hk)
        have hor : x.on = false ∨ (x.on = true ∧ lev n = lev x.nice) := by
          cases hon : x.on with
          | false => exact .inl rfl
          | true => exact .inr ⟨rfl, Decidable.byContradiction fun hne => hmv ⟨hon, hne⟩⟩
        obtain ⟨K, hK⟩ : ∃ K, low S.P p = K := ⟨_, rfl⟩
        obtain ⟨l1, hl1⟩ : ∃ l, lev x.nice = l := ⟨_, rfl⟩
        obtain ⟨l2, hl2⟩ : ∃ l, lev n = l := ⟨_, rfl⟩
        rw [hl1, hl2] at hor
        rw [hK] at hf hfd hset cL hw2 cL2 ⊢
        rw [hl1] at cL
        rw [hl2] at cL2
        obtain ⟨on, hon⟩ : ∃ on, x.on = on := ⟨_, rfl⟩
        rw [hon] at hfd hw2 hor
        clear hM hX hg hK hll hll2 hl1 hl2 hmv hon
        rcases hor with rfl | ⟨rfl, rfl⟩
        all_goals
          simp only [Bool.not_true, Bool.not_false] at hfd hw2
          go_enter Try.func33, Try.ntmps33
          go_wp2_with (first
            | (go_at_call 13; refine hf.out.mono ?_; rintro e w1 ⟨rfl, hb⟩; obtain ⟨z0, z1, y1, y2, -⟩ := hfd.out w1 hb; obtain ⟨y3, y4⟩ := hw2.out w1 hb; have cV := W_hid (hset.out w1 hb); have hb := W_hid hb; have cL1 := W_hid (cL.out _ y1); have cL3 := W_hid (cL2.out _ y3))
            | (go_at_call 19; refine (cN.out _).mono ?_; rintro e w2 ⟨rfl, rfl⟩)
            | (go_at_call 23; first | (refine cL1.out.mono ?_; rintro e w' ⟨rfl, rfl⟩) | (refine cL3.out.mono ?_; rintro e w' ⟨rfl, rfl⟩)))
          go_ret
          exact ⟨rfl, cV.out⟩
set_option maxRecDepth 100000 in
set_option maxHeartbeats 4000000 in
theorem Add_any (h : QW base w qb S X) (hG : Good c S) (hc : c ≤ 49000) (p n : Int) : Calls Try.prog 10 #[ptr qb, .int .i64 p, .int .i64 n] w fun e w' => e = .returned (.int .i64 (addR S p n).1) ∧ QO base w qb (addR S p n).2 X w' := by
  have hid := W_hid (fun w' (hb : Below w.heap.size w w') => h.same hb)
  obtain ⟨nb, vr, vl, hM, hX⟩ := h
  have hlen : S.P.length ≤ 60000 := by have := hG.len; omega
  have hlen2 : S.P.length ≤ 50000 := by have := hG.len; omega
  have cQ := W_hid (qnone_no hM)
  by_cases hp : p < 1
  · rw [show addR S p n = (2, S) by unfold addR; rw [if_pos hp]]
    clear hM hX
    go_enter Try.func10, Try.ntmps10
    go_wp2_with (go_at_call 14; refine cQ.out.mono ?_; rintro e w' ⟨rfl, rfl⟩)
    go_ret
    exact ⟨rfl, hid.out _ (Below.refl _ _)⟩
  have cN := W_hid (fun w1 => isNice_any n w1)
  cases hin : isNice n with
  | false =>
    rw [show addR S p n = (2, S) by unfold addR; rw [if_neg hp, if_pos hin]]
    rw [hin] at cN
    clear hM hX
    go_enter Try.func10, Try.ntmps10
    go_wp2_with (first
      | (go_at_call 14; refine cQ.out.mono ?_; rintro e w' ⟨rfl, rfl⟩)
      | (go_at_call 19; refine (cN.out _).mono ?_; rintro e w2 ⟨rfl, rfl⟩))
    go_ret
    exact ⟨rfl, hid.out _ (Below.refl _ _)⟩
  | true =>
    rw [hin] at cN
    have hn2 := isNice_iff.1 hin
    have c0 := hM.box.cell (j := 0) rfl
    cases hg : get S.P p with
    | some x =>
      obtain ⟨g, hv⟩ := hM.block hG.asc hg
      have hf := W_hid (nfind_yes hM hG.asc hlen p hg hv)
      rw [show addR S p n = (12, S) by unfold addR; rw [if_neg hp, hin, hg]; rfl]
      clear hM hX hg
      go_enter Try.func10, Try.ntmps10
      go_wp2_with (first
        | (go_at_call 14; refine cQ.out.mono ?_; rintro e w' ⟨rfl, rfl⟩)
        | (go_at_call 19; refine (cN.out _).mono ?_; rintro e w2 ⟨rfl, rfl⟩)
        | (go_at_call 20; refine hf.out.mono ?_; rintro e w1 ⟨rfl, hb⟩; have hb := W_hid hb))
      go_ret
      exact ⟨rfl, hid.out _ hb.out⟩
    | none =>
      have hf := W_hid (nfind_no hM hG.asc hlen p hg)
      rw [show addR S p n = (0, ⟨insP S.P ⟨p, n, true, 0⟩, S.L ++ [p]⟩) by unfold addR; rw [if_neg hp, hin, hg]; rfl]
      have hll2 : (lst S.P S.L (lev n)).length ≤ 60000 := by have := lst_len S (lev n); have := hG.llen; omega
      have hput : Hid (∀ w1, Below w.heap.size w w1 → ∀ A0, w1.alloc (.cells #[.int .i64 n, .bool false, .float .f64 0] 52) = A0 → A0.drew.cell? ⟨qb, 0, none⟩ = some (ptr nb) ∧ A0.drew.cell? ⟨w1.heap.size, 0, none⟩ = some (.int .i64 n) ∧ A0.drew.cell? ⟨w1.heap.size, 1, none⟩ = some (.bool false) ∧ A0.drew.cell? ⟨w1.heap.size, 2, none⟩ = some (.float .f64 0) ∧
          Calls Try.prog 21 #[ptr nb, .int .i64 p, .agg #[.int .i64 n, .bool false, .float .f64 0]] A0.drew fun e w2 => e = .returned (.tuple #[]) ∧ w2.cell? ⟨w1.heap.size, 0, none⟩ = some (.int .i64 n) ∧
          Calls Try.prog 22 #[ptr qb, .int .i64 p, .int .i64 (lev n : Nat)] w2 fun e w' => e = .returned (.tuple #[]) ∧ QO base w qb ⟨insP S.P ⟨p, n, true, 0⟩, S.L ++ [p]⟩ X w') := W_hid fun w1 hb A0 hA0 => by
        obtain ⟨A, hA⟩ : ∃ A, A0.drew = A := ⟨_, rfl⟩
        rw [hA]
        rw [← hA0] at hA
        have hbA : Below w.heap.size w A := by rw [← hA]; exact (hb.alloc hb.size _).drew
        have hP : Blk A w1.heap.size 52 [.int .i64 n, .bool false, .float .f64 0] := by rw [← hA]; exact Blk.new w1 52 [.int .i64 n, .bool false, .float .f64 0] rfl
        have hMA := hM.keep hbA
        refine ⟨hMA.box.cell rfl, hP.cell rfl, hP.cell rfl, hP.cell rfl, (put_any hMA hG.asc hlen2 p n true 0 hg).mono ?_⟩
        rintro e w2 ⟨rfl, vr', h3, h4, h5⟩
        refine ⟨rfl, ?_, ?_⟩
        · have hP2 : Blk w2 w1.heap.size 52 [.int .i64 n, .bool false, .float .f64 0] := h4.block _ _ hP fun hk => absurd (hM.tlt _ hk) (by have := hb.size; omega)
          exact hP2.cell rfl
        refine (join_any h3 p (lev_lt hn2) hll2).mono ?_
        rintro e w' ⟨rfl, vl2, h6, h7, h8⟩
        have hk := keeps_two h4 h7 h5
        refine ⟨rfl, QO.of hX h6 (fun k hk => ?_) ((Keeps.new hbA hM.base_le).trans hk) (fun k hk => ?_)⟩
        · show lst (insP S.P ⟨p, n, true, 0⟩) (S.L ++ [p]) k = _
          rw [lsts_ins hG hg]
          unfold updL
          by_cases e : k = lev n
          · rw [if_pos e, if_pos e.symm, e]
          · rw [if_neg e, if_neg (fun e2 => e e2.symm)]
        · rcases h8 k hk with h9 | h9
          · exact (h5 k h9).imp_right fun h => Nat.le_trans hbA.size h
          · exact .inr (Nat.le_trans hbA.size (Nat.le_trans h4.size h9))
      have cL := W_hid (fun g w1 (hc : w1.cell? ⟨g, 0, none⟩ = some (.int .i64 n)) => level_any g 0 n hn2 w1 hc)
      obtain ⟨l2, hl2⟩ : ∃ l, lev n = l := ⟨_, rfl⟩
      rw [hl2] at cL hput
      clear hM hX hg hll2 hl2
      go_enter Try.func10, Try.ntmps10
      go_wp2_with (first
        | (go_at_call 14; refine cQ.out.mono ?_; rintro e w' ⟨rfl, rfl⟩)
        | (go_at_call 19; refine (cN.out _).mono ?_; rintro e w2 ⟨rfl, rfl⟩)
        | (go_at_call 20; refine hf.out.mono ?_; rintro e w1 ⟨rfl, hb⟩; obtain ⟨A0, hA0⟩ : ∃ A0, w1.alloc (.cells #[.int .i64 n, .bool false, .float .f64 0] 52) = A0 := ⟨_, rfl⟩; obtain ⟨b0, hb0⟩ : ∃ b0, w1.heap.size = b0 := ⟨_, rfl⟩; replace hb0 := W_hid hb0; obtain ⟨y1, z0, z1, z2, cP⟩ := hput.out w1 hb A0 hA0; replace hA0 := W_hid hA0; have cP := W_hid cP; have hb := W_hid hb))
      have hA0 := hA0.out
      have hb0 := hb0.out
      refine wp_world (fun W => W = A0) hA0 ?_
      rintro W rfl
      simp only [hb0]
      rw [hb0] at z0 z1 z2 cP
      clear hA0 hb0
      refine wp_region_still_tail 6 (by kernel_rfl) (by kernel_rfl) ?_
      simp only [List.take_succ_cons, List.take_zero, List.drop_succ_cons, List.drop_zero]
      show wpStill _ _ W.drew _ _ _
      iterate 6 still_step
      refine wpStill_nil ?_
      go_wp2_with (first
        | (go_at_call 21; refine cP.out.mono ?_; rintro e w2 ⟨rfl, y5, cJ⟩; have cJ := W_hid cJ; have cL1 := W_hid (cL.out _ _ y5))
        | (go_at_call 23; refine cL1.out.mono ?_; rintro e w' ⟨rfl, rfl⟩)
        | (go_at_call 22; refine cJ.out.mono ?_; rintro e w4 ⟨rfl, hO⟩; have hO := W_hid hO))
      go_ret
      exact ⟨rfl, hO.out⟩
end
end SD
end Go.Proofs.Ytmikgkelmdgckaa

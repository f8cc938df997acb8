/- Contracts of package sched: New, Add, Remove, Block, Wake, Nice, Load. -/
import Derived.Test.YtmikgkelmdgckaaSchWts
import Derived.StillTailTactics
namespace Go.Proofs.Ytmikgkelmdgckaa
open Go.ChangeShapes Go.WideShapes Go.ChangeAt Go.RowKit
set_option linter.unusedVariables false
set_option linter.unusedSimpArgs false
set_option maxRecDepth 100000
namespace SD
open IN (Keeps lt_of_some)
open FM (one)

theorem QO.of {base : Nat} {w w' : World} {qb nb : Nat} {vr vr' : Value} {vl vl' : Nat → Value} {S' : Qs} {ls' : Nat → List Int} {X : Nat → Prop} (hX : ∀ k, X k ↔ QX qb nb vr vl k) (h : QM base w' qb nb vr' vl' S'.P ls') (hls : ∀ k, k < 5 → lst S'.P S'.L k = ls' k)
    (hK : Keeps base (fun k _ => QX qb nb vr vl k) w w') (hn : ∀ k, QX qb nb vr' vl' k → QX qb nb vr vl k ∨ w.heap.size ≤ k) : QO base w qb S' X w' :=
  ⟨_, ⟨nb, vr', vl', h.congr hls, fun k => Iff.rfl⟩, keeps_iff hK fun k hk => (hX k).2 hk, fun k hk => (hn k hk).imp_left (hX k).2⟩
theorem New_any (w : World) : Calls Try.prog 9 #[] w fun e w' => ∃ qb X, e = .returned (ptr qb) ∧ QW w.heap.size w' qb ⟨[], []⟩ X ∧ Below w.heap.size w w' := by
  have hM : QM w.heap.size ((w.alloc (.cells #[.slice none 0 0] TN)).alloc (.cells #[ptr w.heap.size, .slice none 0 0, .slice none 0 0, .slice none 0 0, .slice none 0 0, .slice none 0 0] TQ)) (w.heap.size + 1) w.heap.size (.slice none 0 0) (fun _ => .slice none 0 0) [] (lst [] []) :=
    ⟨Blk.new _ TQ [ptr w.heap.size, .slice none 0 0, .slice none 0 0, .slice none 0 0, .slice none 0 0, .slice none 0 0] (by simp), (Blk.new w TN [.slice none 0 0] rfl).alloc _, World.ownsRow_nil _ _ _ _, fun k hk => World.ownsRow_nil _ _ _ _, fun j k g _ _ hg _ => (by cases hg), by omega, Nat.le_refl _⟩
  have hB : Below w.heap.size w ((w.alloc (.cells #[.slice none 0 0] TN)).alloc (.cells #[ptr w.heap.size, .slice none 0 0, .slice none 0 0, .slice none 0 0, .slice none 0 0, .slice none 0 0] TQ)) := ((Below.refl _ _).alloc (Nat.le_refl _) _).alloc (by simp) _
  have hM := W_hid (And.intro hM hB)
  go_enter Try.func9, Try.ntmps9
  go_wp2
  go_ret
  exact ⟨w.heap.size + 1, _, by simp, ⟨_, _, _, hM.out.1, fun k => Iff.rfl⟩, hM.out.2⟩
section
variable {base : Nat} {w : World} {qb nb : Nat} {vr : Value} {vl : Nat → Value} {P : List Pr} {ls : Nat → List Int}
/-- A process that there is, as the walk wants it. -/
theorem QM.found (h : QM base w qb nb vr vl P ls) (hasc : Asc P) {p : Int} {x : Pr} (hx : get P p = some x) {g : Nat} (hv : vr.ownBlock = some g) : g < w.heap.size ∧ (∀ j, w.frozen? ⟨g, j, none⟩ = false) ∧ w.cell? ⟨g, SD.low P p * 4 + 1, none⟩ = some (.int .i64 x.nice) ∧ w.cell? ⟨g, SD.low P p * 4 + 2, none⟩ = some (.bool (!x.on)) ∧ w.cell? ⟨g, SD.low P p * 4 + 3, none⟩ = some (.float .f64 x.load) := by
  obtain ⟨hl, e⟩ := get_at hasc hx
  obtain ⟨g', n, cap, rfl, -, -, -, -, -, -, -, h1, h2, -, h4, h5, h6⟩ := h.opened hl
  simp only [Value.ownBlock, Option.some.injEq] at hv
  subst hv
  rw [e] at h4 h5 h6
  exact ⟨h1, h2, h4, h5, h6⟩
theorem QM.block (h : QM base w qb nb vr vl P ls) (hasc : Asc P) {p : Int} {x : Pr} (hx : get P p = some x) : ∃ g, vr.ownBlock = some g := by
  obtain ⟨hl, e⟩ := get_at hasc hx
  obtain ⟨g', n, cap, rfl, -⟩ := h.opened hl
  exact ⟨g', rfl⟩
theorem QM.setX (h : QM base w qb nb vr vl P ls) (hasc : Asc P) {p : Int} {x y : Pr} (hx : get P p = some x) {g : Nat} (hv : vr.ownBlock = some g) (m : Nat) (u : Value) (hm : m < 4) (hy : (prow x).set m u = prow y) :
    QM base (w.setCell ⟨g, SD.low P p * 4 + m, none⟩ u) qb nb vr vl (P.set (SD.low P p) y) ls ∧ Keeps base (fun k _ => QX qb nb vr vl k) w (w.setCell ⟨g, SD.low P p * 4 + m, none⟩ u) := by
  obtain ⟨hl, e⟩ := get_at hasc hx
  obtain ⟨g', n, cap, rfl, hn, -⟩ := h.opened hl
  simp only [Value.ownBlock, Option.some.injEq] at hv
  subst hv
  exact h.set hn hl m u hm y (by rw [e]; exact hy)
end
section
variable {base : Nat} {w : World} {qb : Nat} {S : Qs} {X : Nat → Prop} {c : Nat}
set_option maxRecDepth 100000 in
set_option maxHeartbeats 4000000 in
theorem Block_any (h : QW base w qb S X) (hG : Good c S) (hc : c ≤ 50000) (p : Int) : Calls Try.prog 29 #[ptr qb, .int .i64 p] w fun e w' => e = .returned (.int .i64 (blkR S p).1) ∧ QO base w qb (blkR S p).2 X w' := by
  have hid := W_hid (fun w' (hb : Below w.heap.size w w') => h.same hb)
  obtain ⟨nb, vr, vl, hM, hX⟩ := h
  have hlen : S.P.length ≤ 60000 := by have := hG.len; omega
  cases hg : get S.P p with
  | none =>
    rw [show blkR S p = (19, S) by unfold blkR; rw [hg]]
    have hf := W_hid (find_no hM hG.asc hlen p hg)
    clear hM hX hg
    go_enter Try.func29, Try.ntmps29
    go_wp2_with (go_at_call 13; refine hf.out.mono ?_; rintro e w1 ⟨rfl, hb⟩; have hb := W_hid hb)
    go_ret
    exact ⟨rfl, hid.out _ hb.out⟩
  | some x =>
    obtain ⟨g, hv⟩ := hM.block hG.asc hg
    have hf := W_hid (find_yes hM hG.asc hlen p hg hv)
    have hfd := W_hid (fun w1 (hb : Below w.heap.size w w1) => (hM.keep hb).found hG.asc hg hv)
    have hn := (hG.get_ok hg).2.1
    cases hon : x.on with
    | false =>
      rw [hon] at hfd
      simp only [Bool.not_false] at hfd
      rw [show blkR S p = (2, S) by unfold blkR; rw [hg]; simp [hon]]
      obtain ⟨K, hK⟩ : ∃ K, low S.P p = K := ⟨_, rfl⟩
      rw [hK] at hf hfd
      clear hM hX hg hK hon
      go_enter Try.func29, Try.ntmps29
      go_wp2_with (go_at_call 13; refine hf.out.mono ?_; rintro e w1 ⟨rfl, hb⟩; obtain ⟨-, -, -, y2, -⟩ := hfd.out w1 hb; have hb := W_hid hb)
      go_ret
      exact ⟨rfl, hid.out _ hb.out⟩
    | true =>
      rw [hon] at hfd
      simp only [Bool.not_true] at hfd
      rw [show blkR S p = (0, ⟨S.P.set (low S.P p) { x with on := false }, off S.L p⟩) by unfold blkR; rw [hg]; simp [hon]]
      have hll : (lst S.P S.L (lev x.nice)).length ≤ 60000 := by have := lst_len S (lev x.nice); have := hG.llen; omega
      have hset : Hid (∀ w1, Below w.heap.size w w1 → (w1.setCell ⟨g, low S.P p * 4 + 2, none⟩ (.bool true)).cell? ⟨g, low S.P p * 4 + 1, none⟩ = some (.int .i64 x.nice) ∧
          Calls Try.prog 24 #[ptr qb, .int .i64 p, .int .i64 (lev x.nice : Nat)] (w1.setCell ⟨g, low S.P p * 4 + 2, none⟩ (.bool true)) fun e w' => e = .returned (.tuple #[]) ∧ QO base w qb ⟨S.P.set (low S.P p) { x with on := false }, off S.L p⟩ X w') := W_hid fun w1 hb => by
        obtain ⟨h1, h2⟩ := (hM.keep hb).setX (y := { x with on := false }) hG.asc hg hv 2 (.bool true) (by omega) (by simp [prow])
        refine ⟨?_, (leave_any h1 p (lev_lt hn) hll).mono ?_⟩
        · obtain ⟨-, -, h3, -⟩ := (hM.keep hb).found hG.asc hg hv
          rw [World.cell?_setCell_other _ _ _ _ (by simp)]
          exact h3
        · rintro e w' ⟨rfl, vl', h3, h4, h5⟩
          refine ⟨rfl, QO.of hX h3 (fun k hk => ?_) ((Keeps.new hb hM.base_le).trans (h2.trans h4)) (fun k hk => (h5 k hk).imp_right fun h => Nat.le_trans hb.size (Nat.le_trans h2.size h))⟩
          show lst (S.P.set (low S.P p) { x with on := false }) (off S.L p) k = _
          rw [lst_off, lsts_set hG hg (y := { x with on := false }) (get_some hg).2 rfl]
          unfold updL
          by_cases e : k = lev x.nice
          · rw [if_pos e, e]
          · rw [if_neg e, off_lst hG hg (.inr fun e2 => e e2.symm)]
      have cL := W_hid (fun w1 (hc : w1.cell? ⟨g, low S.P p * 4 + 1, none⟩ = some (.int .i64 x.nice)) => level_any g (low S.P p * 4 + 1) x.nice hn w1 hc)
      obtain ⟨K, hK⟩ : ∃ K, low S.P p = K := ⟨_, rfl⟩
      rw [hK] at hf hfd hset cL ⊢
      clear hM hX hg hK hon hll
      go_enter Try.func29, Try.ntmps29
      go_wp2_with (first
        | (go_at_call 13; refine hf.out.mono ?_; rintro e w1 ⟨rfl, hb⟩; obtain ⟨z0, z1, y1, y2, -⟩ := hfd.out w1 hb; obtain ⟨y3, cV⟩ := hset.out w1 hb; have cV := W_hid cV; have hb := W_hid hb; have cL1 := W_hid (cL.out _ y3))
        | (go_at_call 23; refine cL1.out.mono ?_; rintro e w' ⟨rfl, rfl⟩)
        | (go_at_call 24; refine cV.out.mono ?_; rintro e w3 ⟨rfl, hO⟩; have hO := W_hid hO))
      go_ret
      exact ⟨rfl, hO.out⟩
set_option maxRecDepth 100000 in
set_option maxHeartbeats 4000000 in
theorem Wake_any (h : QW base w qb S X) (hG : Good c S) (hc : c ≤ 50000) (p : Int) : Calls Try.prog 31 #[ptr qb, .int .i64 p] w fun e w' => e = .returned (.int .i64 (wakR S p).1) ∧ QO base w qb (wakR S p).2 X w' := by
  have hid := W_hid (fun w' (hb : Below w.heap.size w w') => h.same hb)
  obtain ⟨nb, vr, vl, hM, hX⟩ := h
  have hlen : S.P.length ≤ 60000 := by have := hG.len; omega
  cases hg : get S.P p with
  | none =>
    rw [show wakR S p = (19, S) by unfold wakR; rw [hg]]
    have hf := W_hid (find_no hM hG.asc hlen p hg)
    clear hM hX hg
    go_enter Try.func31, Try.ntmps31
    go_wp2_with (go_at_call 13; refine hf.out.mono ?_; rintro e w1 ⟨rfl, hb⟩; have hb := W_hid hb)
    go_ret
    exact ⟨rfl, hid.out _ hb.out⟩
  | some x =>
    obtain ⟨g, hv⟩ := hM.block hG.asc hg
    have hf := W_hid (find_yes hM hG.asc hlen p hg hv)
    have hfd := W_hid (fun w1 (hb : Below w.heap.size w w1) => (hM.keep hb).found hG.asc hg hv)
    have hn := (hG.get_ok hg).2.1
    cases hon : x.on with
    | true =>
      rw [hon] at hfd
      simp only [Bool.not_true] at hfd
      rw [show wakR S p = (2, S) by unfold wakR; rw [hg]; simp [hon]]
      obtain ⟨K, hK⟩ : ∃ K, low S.P p = K := ⟨_, rfl⟩
      rw [hK] at hf hfd
      clear hM hX hg hK hon
      go_enter Try.func31, Try.ntmps31
      go_wp2_with (go_at_call 13; refine hf.out.mono ?_; rintro e w1 ⟨rfl, hb⟩; obtain ⟨-, -, -, y2, -⟩ := hfd.out w1 hb; have hb := W_hid hb)
      go_ret
      exact ⟨rfl, hid.out _ hb.out⟩
    | false =>
      rw [hon] at hfd
      simp only [Bool.not_false] at hfd
      rw [show wakR S p = (0, ⟨S.P.set (low S.P p) { x with on := true }, S.L ++ [p]⟩) by unfold wakR; rw [hg]; simp [hon]]
      have hll : (lst S.P S.L (lev x.nice)).length ≤ 60000 := by have := lst_len S (lev x.nice); have := hG.llen; omega
      have hset : Hid (∀ w1, Below w.heap.size w w1 → (w1.setCell ⟨g, low S.P p * 4 + 2, none⟩ (.bool false)).cell? ⟨g, low S.P p * 4 + 1, none⟩ = some (.int .i64 x.nice) ∧
          Calls Try.prog 22 #[ptr qb, .int .i64 p, .int .i64 (lev x.nice : Nat)] (w1.setCell ⟨g, low S.P p * 4 + 2, none⟩ (.bool false)) fun e w' => e = .returned (.tuple #[]) ∧ QO base w qb ⟨S.P.set (low S.P p) { x with on := true }, S.L ++ [p]⟩ X w') := W_hid fun w1 hb => by
        obtain ⟨h1, h2⟩ := (hM.keep hb).setX (y := { x with on := true }) hG.asc hg hv 2 (.bool false) (by omega) (by simp [prow])
        refine ⟨?_, (join_any h1 p (lev_lt hn) hll).mono ?_⟩
        · obtain ⟨-, -, h3, -⟩ := (hM.keep hb).found hG.asc hg hv
          rw [World.cell?_setCell_other _ _ _ _ (by simp)]
          exact h3
        · rintro e w' ⟨rfl, vl', h3, h4, h5⟩
          refine ⟨rfl, QO.of hX h3 (fun k hk => ?_) ((Keeps.new hb hM.base_le).trans (h2.trans h4)) (fun k hk => (h5 k hk).imp_right fun h => Nat.le_trans hb.size (Nat.le_trans h2.size h))⟩
          show lst (S.P.set (low S.P p) { x with on := true }) (S.L ++ [p]) k = _
          rw [lst_app, levP_set hG hg (y := { x with on := true }) (get_some hg).2, lsts_set hG hg (y := { x with on := true }) (get_some hg).2 rfl]
          unfold updL
          by_cases e : k = lev x.nice
          · rw [if_pos e, e, if_pos rfl]
          · rw [if_neg e, if_neg (fun e2 => e e2.symm)]
      have cL := W_hid (fun w1 (hc : w1.cell? ⟨g, low S.P p * 4 + 1, none⟩ = some (.int .i64 x.nice)) => level_any g (low S.P p * 4 + 1) x.nice hn w1 hc)
      obtain ⟨K, hK⟩ : ∃ K, low S.P p = K := ⟨_, rfl⟩
      rw [hK] at hf hfd hset cL ⊢
      clear hM hX hg hK hon hll
      go_enter Try.func31, Try.ntmps31
      go_wp2_with (first
        | (go_at_call 13; refine hf.out.mono ?_; rintro e w1 ⟨rfl, hb⟩; obtain ⟨z0, z1, y1, y2, -⟩ := hfd.out w1 hb; obtain ⟨y3, cV⟩ := hset.out w1 hb; have cV := W_hid cV; have hb := W_hid hb; have cL1 := W_hid (cL.out _ y3))
        | (go_at_call 23; refine cL1.out.mono ?_; rintro e w' ⟨rfl, rfl⟩)
        | (go_at_call 22; refine cV.out.mono ?_; rintro e w3 ⟨rfl, hO⟩; have hO := W_hid hO))
      go_ret
      exact ⟨rfl, hO.out⟩
set_option maxRecDepth 100000 in
set_option maxHeartbeats 4000000 in
theorem Load_any (h : QW base w qb S X) (hG : Good c S) (hc : c ≤ 50000) (p : Int) : Calls Try.prog 6 #[ptr qb, .int .i64 p] w fun e w' => e = .returned (.tuple #[.float .f64 (loadR S p).1, .int .i64 (loadR S p).2]) ∧ QO base w qb S X w' := by
  have hid := W_hid (fun w' (hb : Below w.heap.size w w') => h.same hb)
  obtain ⟨nb, vr, vl, hM, hX⟩ := h
  have hlen : S.P.length ≤ 60000 := by have := hG.len; omega
  cases hg : get S.P p with
  | none =>
    rw [show loadR S p = (0, 19) by unfold loadR; rw [hg]]
    have hf := W_hid (find_no hM hG.asc hlen p hg)
    clear hM hX hg
    go_enter Try.func6, Try.ntmps6
    go_wp2_with (go_at_call 13; refine hf.out.mono ?_; rintro e w1 ⟨rfl, hb⟩; have hb := W_hid hb)
    go_ret2
    exact ⟨rfl, hid.out _ hb.out⟩
  | some x =>
    obtain ⟨g, hv⟩ := hM.block hG.asc hg
    have hf := W_hid (find_yes hM hG.asc hlen p hg hv)
    have hfd := W_hid (fun w1 (hb : Below w.heap.size w w1) => (hM.keep hb).found hG.asc hg hv)
    rw [show loadR S p = (x.load, 0) by unfold loadR; rw [hg]]
    obtain ⟨K, hK⟩ : ∃ K, low S.P p = K := ⟨_, rfl⟩
    rw [hK] at hf hfd
    clear hM hX hg hK
    go_enter Try.func6, Try.ntmps6
    go_wp2_with (go_at_call 13; refine hf.out.mono ?_; rintro e w1 ⟨rfl, hb⟩; obtain ⟨-, -, -, -, y3⟩ := hfd.out w1 hb; have hb := W_hid hb)
    go_ret2
    exact ⟨rfl, hid.out _ hb.out⟩
set_option maxRecDepth 100000 in
set_option maxHeartbeats 4000000 in
theorem Remove_any (h : QW base w qb S X) (hG : Good c S) (hc : c ≤ 50000) (p : Int) : Calls Try.prog 27 #[ptr qb, .int .i64 p] w fun e w' => e = .returned (.int .i64 (remR S p).1) ∧ QO base w qb (remR S p).2 X w' := by
  have hid := W_hid (fun w' (hb : Below w.heap.size w w') => h.same hb)
  obtain ⟨nb, vr, vl, hM, hX⟩ := h
  have hlen : S.P.length ≤ 60000 := by have := hG.len; omega
  have hlen2 : S.P.length ≤ 50000 := by have := hG.len; omega
  cases hg : get S.P p with
  | none =>
    rw [show remR S p = (19, S) by unfold remR; rw [hg]]
    have hf := W_hid (find_no hM hG.asc hlen p hg)
    clear hM hX hg
    go_enter Try.func27, Try.ntmps27
    go_wp2_with (go_at_call 13; refine hf.out.mono ?_; rintro e w1 ⟨rfl, hb⟩; have hb := W_hid hb)
    go_ret
    exact ⟨rfl, hid.out _ hb.out⟩
  | some x =>
    obtain ⟨g, hv⟩ := hM.block hG.asc hg
    have hf := W_hid (find_yes hM hG.asc hlen p hg hv)
    have hfd := W_hid (fun w1 (hb : Below w.heap.size w w1) => (hM.keep hb).found hG.asc hg hv)
    have hn := (hG.get_ok hg).2.1
    rw [show remR S p = (0, ⟨delP S.P (low S.P p), off S.L p⟩) by unfold remR; rw [hg]]
    cases hon : x.on with
    | false =>
      rw [hon] at hfd
      simp only [Bool.not_false] at hfd
      have hrem : Hid (∀ w1, Below w.heap.size w w1 → w1.cell? ⟨qb, 0, none⟩ = some (ptr nb) ∧ Calls Try.prog 54 #[ptr nb, .int .i64 p] w1 fun e w' => e = .returned (.tuple #[]) ∧ QO base w qb ⟨delP S.P (low S.P p), off S.L p⟩ X w') := W_hid fun w1 hb => by
        refine ⟨(hM.keep hb).box.cell rfl, (remove_any (hM.keep hb) hG.asc hlen2 p hg).mono ?_⟩
        rintro e w' ⟨rfl, vr', h3, h4, h5⟩
        refine ⟨rfl, QO.of hX h3 (fun k hk => ?_) ((Keeps.new hb hM.base_le).trans h4) (fun k hk => (h5 k hk).imp_right fun h => Nat.le_trans hb.size h)⟩
        show lst (delP S.P (low S.P p)) (off S.L p) k = _
        rw [lsts_del hG hg, off_lst hG hg (.inl hon)]
      obtain ⟨K, hK⟩ : ∃ K, low S.P p = K := ⟨_, rfl⟩
      rw [hK] at hf hfd hrem ⊢
      clear hM hX hg hK hon
      go_enter Try.func27, Try.ntmps27
      go_wp2_with (first
        | (go_at_call 13; refine hf.out.mono ?_; rintro e w1 ⟨rfl, hb⟩; obtain ⟨-, -, -, y2, -⟩ := hfd.out w1 hb; obtain ⟨y4, cR⟩ := hrem.out w1 hb; have cR := W_hid cR; have hb := W_hid hb)
        | (go_at_call 54; refine cR.out.mono ?_; rintro e w3 ⟨rfl, hO⟩; have hO := W_hid hO))
      go_ret
      exact ⟨rfl, hO.out⟩
    | true =>
      rw [hon] at hfd
      simp only [Bool.not_true] at hfd
      have hll : (lst S.P S.L (lev x.nice)).length ≤ 60000 := by have := lst_len S (lev x.nice); have := hG.llen; omega
      have hlv : Hid (∀ w1, Below w.heap.size w w1 → Calls Try.prog 24 #[ptr qb, .int .i64 p, .int .i64 (lev x.nice : Nat)] w1 fun e w2 => e = .returned (.tuple #[]) ∧ w2.cell? ⟨qb, 0, none⟩ = some (ptr nb) ∧
          Calls Try.prog 54 #[ptr nb, .int .i64 p] w2 fun e w' => e = .returned (.tuple #[]) ∧ QO base w qb ⟨delP S.P (low S.P p), off S.L p⟩ X w') := W_hid fun w1 hb => by
        refine (leave_any (hM.keep hb) p (lev_lt hn) hll).mono ?_
        rintro e w2 ⟨rfl, vl', h3, h4, h5⟩
        refine ⟨rfl, h3.box.cell rfl, (remove_any h3 hG.asc hlen2 p hg).mono ?_⟩
        rintro e w' ⟨rfl, vr', h6, h7, h8⟩
        have hk := keeps_two h4 h7 h5
        refine ⟨rfl, QO.of hX h6 (fun k hk => ?_) ((Keeps.new hb hM.base_le).trans hk) (fun k hk => ?_)⟩
        · show lst (delP S.P (low S.P p)) (off S.L p) k = _
          rw [lsts_del hG hg]
          unfold updL
          by_cases e : k = lev x.nice
          · rw [if_pos e, e]
          · rw [if_neg e, off_lst hG hg (.inr fun e2 => e e2.symm)]
        · rcases h8 k hk with h9 | h9
          · exact (h5 k h9).imp_right fun h => Nat.le_trans hb.size h
          · exact .inr (Nat.le_trans hb.size (Nat.le_trans h4.size h9))
      have cL := W_hid (fun w1 (hc : w1.cell? ⟨g, low S.P p * 4 + 1, none⟩ = some (.int .i64 x.nice)) => level_any g (low S.P p * 4 + 1) x.nice hn w1 hc)
      obtain ⟨K, hK⟩ : ∃ K, low S.P p = K := ⟨_, rfl⟩
      rw [hK] at hf hfd hlv cL ⊢
      clear hM hX hg hK hon hll
      go_enter Try.func27, Try.ntmps27
      go_wp2_with (first
        | (go_at_call 13; refine hf.out.mono ?_; rintro e w1 ⟨rfl, hb⟩; obtain ⟨-, -, y1, y2, -⟩ := hfd.out w1 hb; have cV := W_hid (hlv.out w1 hb); have hb := W_hid hb; have cL1 := W_hid (cL.out _ y1))
        | (go_at_call 23; refine cL1.out.mono ?_; rintro e w' ⟨rfl, rfl⟩)
        | (go_at_call 24; refine cV.out.mono ?_; rintro e w2 ⟨rfl, y4, cR⟩; have cR := W_hid cR)
        | (go_at_call 54; refine cR.out.mono ?_; rintro e w3 ⟨rfl, hO⟩; have hO := W_hid hO))
      go_ret
      exact ⟨rfl, hO.out⟩
end
end SD
end Go.Proofs.Ytmikgkelmdgckaa

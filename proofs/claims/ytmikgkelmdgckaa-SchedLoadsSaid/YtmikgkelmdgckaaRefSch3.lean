/- The document's Block, Wake, Nice, Load. -/
import Derived.Test.YtmikgkelmdgckaaRefSch2
namespace Go.Proofs.Ytmikgkelmdgckaa
open Go.ChangeShapes Go.WideShapes Go.ChangeAt Go.RowKit
set_option linter.unusedVariables false
set_option linter.unusedSimpArgs false
set_option maxRecDepth 100000
namespace SD
open IN (Keeps lt_of_some)
theorem rIsNice_any (n : Int) (w : World) : Calls Try.prog 51 #[.int .i64 n] w fun e w' => e = .returned (.bool (isNice n)) ∧ w = w' := by
  obtain ⟨r, hr⟩ : ∃ r, isNice n = r := ⟨_, rfl⟩
  rw [hr]
  have hc : (¬ -20 ≤ n ∧ r = false) ∨ (-20 ≤ n ∧ ¬ n ≤ 19 ∧ r = false) ∨ (-20 ≤ n ∧ n ≤ 19 ∧ r = true) := by
    rw [← hr]
    by_cases h1 : -20 ≤ n <;> by_cases h2 : n ≤ 19 <;> simp [isNice, h1, h2]
  rcases hc with ⟨h1, h3⟩ | ⟨h1, h2, h3⟩ | ⟨h1, h2, h3⟩
  all_goals
    subst h3
    clear hr
    go_enter Try.func51, Try.ntmps51
    go_wp2
    go_ret
    exact ⟨rfl, rfl⟩
section
variable {base : Nat} {w : World} {rb : Nat} {vp vl : Value} {P : List Pr} {L : List Int}
/-- A process that there is, as the walk wants it. -/
theorem DM.found (h : DM base w rb vp vl P L) (ha : Asc P) {p : Int} {x : Pr} (hx : get P p = some x) : ∃ g n cap, vp = .slice (some ⟨g, 0, none⟩) n cap ∧ ((SD.low P p : Nat) : Int) < (n : Int) ∧ n ≤ cap ∧ cap ≤ 9223372036854775807 ∧ (∀ j, w.frozen? ⟨g, j, none⟩ = false) ∧ w.cell? ⟨rb, 0, none⟩ = some (.slice (some ⟨g, 0, none⟩) n cap) ∧
    w.cell? ⟨g, SD.low P p * 4 + 1, none⟩ = some (.int .i64 x.nice) ∧ w.cell? ⟨g, SD.low P p * 4 + 2, none⟩ = some (.bool x.on) ∧ w.cell? ⟨g, SD.low P p * 4 + 3, none⟩ = some (.float .f64 x.load) ∧
    ∀ (m : Nat) (u : Value) (y : Pr), m < 4 → (drow x).set m u = drow y → DM base (w.setCell ⟨g, SD.low P p * 4 + m, none⟩ u) rb vp vl (P.set (SD.low P p) y) L ∧ Keeps base (fun k _ => DX rb vp vl k) w (w.setCell ⟨g, SD.low P p * 4 + m, none⟩ u) ∧ (w.setCell ⟨g, SD.low P p * 4 + m, none⟩ u).cell? ⟨rb, 0, none⟩ = some (.slice (some ⟨g, 0, none⟩) n cap) := by
  obtain ⟨hl, e⟩ := get_at ha hx
  obtain ⟨g, n, cap, rfl, h1, h2, h3, h4, -, h5, -, -, h6, -, h7, -, h8, h9, h10⟩ := h.opened hl
  rw [e] at h8 h9 h10
  refine ⟨g, n, cap, rfl, h2, h3, h4, h6, h7, h8, h9, h10, fun m u y hm hy => ?_⟩
  obtain ⟨q1, q2⟩ := h.set h1 hl m u hm y (by rw [e]; exact hy)
  exact ⟨q1, q2, q1.box.cell rfl⟩
end
section
variable {base : Nat} {w : World} {rb : Nat} {S : Qs} {Y : Nat → Prop} {c : Nat}
set_option maxRecDepth 100000 in
set_option maxHeartbeats 4000000 in
theorem rBlock_any (h : DW base w rb S Y) (hG : Good c S) (hc : c ≤ 50000) (p : Int) : Calls Try.prog 30 #[ptr rb, .int .i64 p] w fun e w' => e = .returned (.int .i64 (blkR S p).1) ∧ DO base w rb (blkR S p).2 Y w' := by
  have hid := W_hid (fun w' (hb : Below w.heap.size w w') => h.same hb)
  obtain ⟨vp, vl, hM, hY⟩ := h
  have hlen : S.P.length ≤ 60000 := by have := hG.len; omega
  have hll : S.L.length ≤ 60000 := by have := hG.llen; omega
  have hat := rat_any p hM hG.asc hlen
  unfold atI at hat
  cases hg : get S.P p with
  | none =>
    rw [show blkR S p = (19, S) by unfold blkR; rw [hg]]
    rw [hg] at hat
    replace hat := W_hid hat
    clear hM hY hg
    go_enter Try.func30, Try.ntmps30
    go_wp2_with (go_at_call 52; refine hat.out.mono ?_; rintro e w' ⟨rfl, rfl⟩)
    go_ret
    exact ⟨rfl, hid.out _ (Below.refl _ _)⟩
  | some x =>
    rw [hg] at hat
    obtain ⟨g, n, cap, e, h1, h2, h3, h6, h7, h8, h9, h10, hset⟩ := hM.found hG.asc hg
    cases hon : x.on with
    | false =>
      rw [show blkR S p = (2, S) by unfold blkR; rw [hg]; simp [hon]]
      rw [hon] at h9
      obtain ⟨K, hK⟩ : ∃ K, low S.P p = K := ⟨_, rfl⟩
      rw [hK] at hat h1 h8 h9 h10
      have hd0 : decide ((K : Int) < 0) = false := by simp
      replace hat := W_hid hat
      clear hM hY hg hK hon hset
      go_enter Try.func30, Try.ntmps30
      go_wp2_with (go_at_call 52; refine hat.out.mono ?_; rintro e w' ⟨rfl, rfl⟩)
      go_ret
      exact ⟨rfl, hid.out _ (Below.refl _ _)⟩
    | true =>
      rw [show blkR S p = (0, ⟨S.P.set (low S.P p) { x with on := false }, off S.L p⟩) by unfold blkR; rw [hg]; simp [hon]]
      rw [hon] at h9
      obtain ⟨q1, q2, -⟩ := hset 2 (.bool false) { x with on := false } (by omega) (by simp [drow])
      have cO : Hid (Calls Try.prog 55 #[ptr rb, .int .i64 p] (w.setCell ⟨g, low S.P p * 4 + 2, none⟩ (.bool false)) fun e w' => e = .returned (.tuple #[]) ∧ DO base w rb ⟨S.P.set (low S.P p) { x with on := false }, off S.L p⟩ Y w') := W_hid (by
        refine (roff_any p q1 hll).mono ?_
        rintro e w' ⟨rfl, vl', k1, k2, k3⟩
        exact ⟨rfl, DO.of hY k1 (q2.trans k2) fun k hk => (k3 k hk).imp_right fun h => Nat.le_trans q2.size h⟩)
      obtain ⟨K, hK⟩ : ∃ K, low S.P p = K := ⟨_, rfl⟩
      rw [hK] at hat h1 h8 h9 h10 cO ⊢
      have hd0 : decide ((K : Int) < 0) = false := by simp
      replace hat := W_hid hat
      clear hM hY hg hK hon hset q1 q2
      go_enter Try.func30, Try.ntmps30
      go_wp2_with (first
        | (go_at_call 52; refine hat.out.mono ?_; rintro e w' ⟨rfl, rfl⟩)
        | (go_at_call 55; refine cO.out.mono ?_; rintro e w2 ⟨rfl, hO⟩; have hO := W_hid hO))
      go_ret
      exact ⟨rfl, hO.out⟩
set_option maxRecDepth 100000 in
set_option maxHeartbeats 4000000 in
theorem rWake_any (h : DW base w rb S Y) (hG : Good c S) (hc : c ≤ 50000) (p : Int) : Calls Try.prog 32 #[ptr rb, .int .i64 p] w fun e w' => e = .returned (.int .i64 (wakR S p).1) ∧ DO base w rb (wakR S p).2 Y w' := by
  have hid := W_hid (fun w' (hb : Below w.heap.size w w') => h.same hb)
  obtain ⟨vp, vl, hM, hY⟩ := h
  have hlen : S.P.length ≤ 60000 := by have := hG.len; omega
  have hll : S.L.length ≤ 60000 := by have := hG.llen; omega
  have hat := rat_any p hM hG.asc hlen
  unfold atI at hat
  cases hg : get S.P p with
  | none =>
    rw [show wakR S p = (19, S) by unfold wakR; rw [hg]]
    rw [hg] at hat
    replace hat := W_hid hat
    clear hM hY hg
    go_enter Try.func32, Try.ntmps32
    go_wp2_with (go_at_call 52; refine hat.out.mono ?_; rintro e w' ⟨rfl, rfl⟩)
    go_ret
    exact ⟨rfl, hid.out _ (Below.refl _ _)⟩
  | some x =>
    rw [hg] at hat
    obtain ⟨g, n, cap, e, h1, h2, h3, h6, h7, h8, h9, h10, hset⟩ := hM.found hG.asc hg
    cases hon : x.on with
    | true =>
      rw [show wakR S p = (2, S) by unfold wakR; rw [hg]; simp [hon]]
      rw [hon] at h9
      obtain ⟨K, hK⟩ : ∃ K, low S.P p = K := ⟨_, rfl⟩
      rw [hK] at hat h1 h8 h9 h10
      have hd0 : decide ((K : Int) < 0) = false := by simp
      replace hat := W_hid hat
      clear hM hY hg hK hon hset
      go_enter Try.func32, Try.ntmps32
      go_wp2_with (go_at_call 52; refine hat.out.mono ?_; rintro e w' ⟨rfl, rfl⟩)
      go_ret
      exact ⟨rfl, hid.out _ (Below.refl _ _)⟩
    | false =>
      have hpl : off S.L p = S.L := off_same fun hm => by
        obtain ⟨y, hy, hy2⟩ := (hG.mem p).1 hm
        rw [hg] at hy
        cases hy
        rw [hon] at hy2
        cases hy2
      rw [show wakR S p = (0, ⟨S.P.set (low S.P p) { x with on := true }, S.L ++ [p]⟩) by unfold wakR; rw [hg]; simp [hon]]
      rw [hon] at h9
      obtain ⟨q1, q2, -⟩ := hset 2 (.bool true) { x with on := true } (by omega) (by simp [drow])
      have cO : Hid (Calls Try.prog 53 #[ptr rb, .int .i64 p] (w.setCell ⟨g, low S.P p * 4 + 2, none⟩ (.bool true)) fun e w' => e = .returned (.tuple #[]) ∧ DO base w rb ⟨S.P.set (low S.P p) { x with on := true }, S.L ++ [p]⟩ Y w') := W_hid (by
        refine (rlast_any p q1 hll).mono ?_
        rintro e w' ⟨rfl, vl', k1, k2, k3⟩
        rw [hpl] at k1
        exact ⟨rfl, DO.of hY k1 (q2.trans k2) fun k hk => (k3 k hk).imp_right fun h => Nat.le_trans q2.size h⟩)
      obtain ⟨K, hK⟩ : ∃ K, low S.P p = K := ⟨_, rfl⟩
      rw [hK] at hat h1 h8 h9 h10 cO ⊢
      have hd0 : decide ((K : Int) < 0) = false := by simp
      replace hat := W_hid hat
      clear hM hY hg hK hon hset q1 q2 hpl
      go_enter Try.func32, Try.ntmps32
      go_wp2_with (first
        | (go_at_call 52; refine hat.out.mono ?_; rintro e w' ⟨rfl, rfl⟩)
        | (go_at_call 53; refine cO.out.mono ?_; rintro e w2 ⟨rfl, hO⟩; have hO := W_hid hO))
      go_ret
      exact ⟨rfl, hO.out⟩
set_option maxRecDepth 100000 in
set_option maxHeartbeats 4000000 in
theorem rLoad_any (h : DW base w rb S Y) (hG : Good c S) (hc : c ≤ 50000) (p : Int) : Calls Try.prog 39 #[ptr rb, .int .i64 p] w fun e w' => e = .returned (.tuple #[.float .f64 (loadR S p).1, .int .i64 (loadR S p).2]) ∧ DO base w rb S Y w' := by
  have hid := W_hid (fun w' (hb : Below w.heap.size w w') => h.same hb)
  obtain ⟨vp, vl, hM, hY⟩ := h
  have hlen : S.P.length ≤ 60000 := by have := hG.len; omega
  have hat := rat_any p hM hG.asc hlen
  unfold atI at hat
  cases hg : get S.P p with
  | none =>
    rw [show loadR S p = (0, 19) by unfold loadR; rw [hg]]
    rw [hg] at hat
    replace hat := W_hid hat
    clear hM hY hg
    go_enter Try.func39, Try.ntmps39
    go_wp2_with (go_at_call 52; refine hat.out.mono ?_; rintro e w' ⟨rfl, rfl⟩)
    go_ret2
    exact ⟨rfl, hid.out _ (Below.refl _ _)⟩
  | some x =>
    rw [hg] at hat
    obtain ⟨g, n, cap, e, h1, h2, h3, h6, h7, h8, h9, h10, hset⟩ := hM.found hG.asc hg
    rw [show loadR S p = (x.load, 0) by unfold loadR; rw [hg]]
    obtain ⟨K, hK⟩ : ∃ K, low S.P p = K := ⟨_, rfl⟩
    rw [hK] at hat h1 h8 h9 h10
    have hd0 : decide ((K : Int) < 0) = false := by simp
    replace hat := W_hid hat
    clear hM hY hg hK hset
    go_enter Try.func39, Try.ntmps39
    go_wp2_with (go_at_call 52; refine hat.out.mono ?_; rintro e w' ⟨rfl, rfl⟩)
    go_ret2
    exact ⟨rfl, hid.out _ (Below.refl _ _)⟩
set_option maxRecDepth 100000 in
set_option maxHeartbeats 4000000 in
theorem rNice_any (h : DW base w rb S Y) (hG : Good c S) (hc : c ≤ 50000) (p n : Int) : Calls Try.prog 34 #[ptr rb, .int .i64 p, .int .i64 n] w fun e w' => e = .returned (.int .i64 (niceR S p n).1) ∧ DO base w rb (niceR S p n).2 Y w' := by
  have hid := W_hid (fun w' (hb : Below w.heap.size w w') => h.same hb)
  obtain ⟨vp, vl, hM, hY⟩ := h
  have hlen : S.P.length ≤ 60000 := by have := hG.len; omega
  have hll : S.L.length ≤ 60000 := by have := hG.llen; omega
  have hat := rat_any p hM hG.asc hlen
  unfold atI at hat
  cases hg : get S.P p with
  | none =>
    rw [show niceR S p n = (19, S) by unfold niceR; rw [hg]]
    rw [hg] at hat
    replace hat := W_hid hat
    clear hM hY hg
    go_enter Try.func34, Try.ntmps34
    go_wp2_with (go_at_call 52; refine hat.out.mono ?_; rintro e w' ⟨rfl, rfl⟩)
    go_ret
    exact ⟨rfl, hid.out _ (Below.refl _ _)⟩
  | some x =>
    rw [hg] at hat
    obtain ⟨g, nn, cap, e, h1, h2, h3, h6, h7, h8, h9, h10, hset⟩ := hM.found hG.asc hg
    have hn := (hG.get_ok hg).2.1
    have cN := W_hid (fun w1 => rIsNice_any n w1)
    cases hin : isNice n with
    | false =>
      rw [show niceR S p n = (2, S) by unfold niceR; rw [hg]; simp [hin]]
      rw [hin] at cN
      obtain ⟨K, hK⟩ : ∃ K, low S.P p = K := ⟨_, rfl⟩
      rw [hK] at hat h1 h8 h9 h10
      have hd0 : decide ((K : Int) < 0) = false := by simp
      replace hat := W_hid hat
      clear hM hY hg hK hset hin
      go_enter Try.func34, Try.ntmps34
      go_wp2_with (first
        | (go_at_call 52; refine hat.out.mono ?_; rintro e w' ⟨rfl, rfl⟩)
        | (go_at_call 51; refine (cN.out _).mono ?_; rintro e w' ⟨rfl, rfl⟩))
      go_ret
      exact ⟨rfl, hid.out _ (Below.refl _ _)⟩
    | true =>
      rw [hin] at cN
      have hn2 := isNice_iff.1 hin
      rw [show niceR S p n = (0, ⟨S.P.set (low S.P p) { x with nice := n }, if x.on = true ∧ lev n ≠ lev x.nice then off S.L p ++ [p] else S.L⟩) by unfold niceR; rw [hg]; simp [hin]]
      obtain ⟨q1, q2, q3⟩ := hset 1 (.int .i64 n) { x with nice := n } (by omega) (by simp [drow])
      have q4 : (w.setCell ⟨g, low S.P p * 4 + 1, none⟩ (.int .i64 n)).cell? ⟨g, low S.P p * 4 + 2, none⟩ = some (.bool x.on) := by
        rw [World.cell?_setCell_other _ _ _ _ (by simp)]
        exact h9
      have cL1 := W_hid (fun w1 => rlevel_any x.nice hn w1)
      have cL2 := W_hid (fun w1 => rlevel_any n hn2 w1)
      have hcase : (x.on = false ∧ ¬ (x.on = true ∧ lev n ≠ lev x.nice)) ∨ (x.on = true ∧ lev n = lev x.nice ∧ ¬ (x.on = true ∧ lev n ≠ lev x.nice)) ∨ (x.on = true ∧ lev n ≠ lev x.nice) := by
        cases x.on with
        | false => left; simp
        | true =>
          by_cases he : lev n = lev x.nice
          · right; left; simp [he]
          · right; right; exact ⟨rfl, he⟩
      have hstay : Hid (DO base w rb ⟨S.P.set (low S.P p) { x with nice := n }, S.L⟩ Y (w.setCell ⟨g, low S.P p * 4 + 1, none⟩ (.int .i64 n))) := W_hid (DO.of hY q1 q2 fun k hk => .inl hk)
      have cO : Hid (Calls Try.prog 53 #[ptr rb, .int .i64 p] (w.setCell ⟨g, low S.P p * 4 + 1, none⟩ (.int .i64 n)) fun e w' => e = .returned (.tuple #[]) ∧ DO base w rb ⟨S.P.set (low S.P p) { x with nice := n }, off S.L p ++ [p]⟩ Y w') := W_hid (by
        refine (rlast_any p q1 hll).mono ?_
        rintro e w' ⟨rfl, vl', k1, k2, k3⟩
        exact ⟨rfl, DO.of hY k1 (q2.trans k2) fun k hk => (k3 k hk).imp_right fun h => Nat.le_trans q2.size h⟩)
      obtain ⟨K, hK⟩ : ∃ K, low S.P p = K := ⟨_, rfl⟩
      rw [hK] at hat h1 h8 h9 h10 cO hstay q3 q4 ⊢
      have hd0 : decide ((K : Int) < 0) = false := by simp
      obtain ⟨l1, hl1⟩ : ∃ l, lev x.nice = l := ⟨_, rfl⟩
      obtain ⟨l2, hl2⟩ : ∃ l, lev n = l := ⟨_, rfl⟩
      rw [hl1] at cL1 hcase ⊢
      rw [hl2] at cL2 hcase ⊢
      obtain ⟨on, hon⟩ : ∃ on, x.on = on := ⟨_, rfl⟩
      rw [hon] at hcase h9 q4 hstay cO ⊢
      replace hat := W_hid hat
      clear hM hY hg hK hset hin q1 q2 hl1 hl2 hon
      rcases hcase with ⟨rfl, hno⟩ | ⟨rfl, rfl, hno⟩ | ⟨rfl, hyes⟩
      · rw [if_neg hno]
        clear hno
        go_enter Try.func34, Try.ntmps34
        go_wp2_with (first
          | (go_at_call 52; refine hat.out.mono ?_; rintro e w' ⟨rfl, rfl⟩)
          | (go_at_call 51; refine (cN.out _).mono ?_; rintro e w' ⟨rfl, rfl⟩)
          | (go_at_call 56; first | (refine (cL1.out _).mono ?_; rintro e w' ⟨rfl, rfl⟩) | (refine (cL2.out _).mono ?_; rintro e w' ⟨rfl, rfl⟩)))
        go_ret
        exact ⟨rfl, hstay.out⟩
      · rw [if_neg hno]
        clear hno
        go_enter Try.func34, Try.ntmps34
        go_wp2_with (first
          | (go_at_call 52; refine hat.out.mono ?_; rintro e w' ⟨rfl, rfl⟩)
          | (go_at_call 51; refine (cN.out _).mono ?_; rintro e w' ⟨rfl, rfl⟩)
          | (go_at_call 56; first | (refine (cL1.out _).mono ?_; rintro e w' ⟨rfl, rfl⟩) | (refine (cL2.out _).mono ?_; rintro e w' ⟨rfl, rfl⟩)))
        go_ret
        exact ⟨rfl, hstay.out⟩
      · rw [if_pos ⟨rfl, hyes⟩]
        have hne : ¬ (l2 : Int) = (l1 : Int) := by omega
        go_enter Try.func34, Try.ntmps34
        go_wp2_with (first
          | (go_at_call 52; refine hat.out.mono ?_; rintro e w' ⟨rfl, rfl⟩)
          | (go_at_call 51; refine (cN.out _).mono ?_; rintro e w' ⟨rfl, rfl⟩)
          | (go_at_call 56; first | (refine (cL1.out _).mono ?_; rintro e w' ⟨rfl, rfl⟩) | (refine (cL2.out _).mono ?_; rintro e w' ⟨rfl, rfl⟩))
          | (go_at_call 53; refine cO.out.mono ?_; rintro e w2 ⟨rfl, hO⟩; have hO := W_hid hO))
        go_ret
        exact ⟨rfl, hO.out⟩
end
end SD
end Go.Proofs.Ytmikgkelmdgckaa

/- The document's joined, Add, Cut. -/
import Derived.Test.YtfbhcnamkojboaaRegRef4
import Derived.Deep.RegionHeld3
namespace Go.Proofs.Ytfbhcnamkojboaa
open Go.ChangeShapes Go.WideShapes Go.ChangeAt Go.RowKit
open SQ
set_option linter.unusedVariables false
set_option linter.unusedSimpArgs false
open RG (Rg)

theorem GL.alloc {w : World} {ao : Option Addr} {n cap : Nat} {l : List Rg} (h : GL w ao n cap l) (o : Obj) : GL (w.alloc o) ao n cap l := h.keep (Below.alloc (Below.refl _ _) (Nat.le_refl _) o)
theorem GvL.low {f : FuncId} {args : Array Value} {L : List Rg} {w : World} (h : GvL f args L w) : Calls Try.prog f args w fun e w' => ∃ a c, e = .returned (.slice a L.length c) ∧ w'.ownsRow w.heap.size 25 4 (.slice a L.length c) L.length (rcl L) ∧ Below w.heap.size w w' :=
  h.mono fun e w' ⟨v, h1, h2, h3⟩ => by
    obtain ⟨a, c, rfl⟩ := Own.form h2
    exact ⟨a, c, h1, h2, h3⟩

set_option maxRecDepth 100000 in
set_option maxHeartbeats 4000000 in
theorem rjoined_any (x1 x2 x3 : Option Addr) (n1 c1 n2 c2 n3 c3 : Nat) (l1 l2 l3 : List Rg) (w : World) (h1 : GL w x1 n1 c1 l1) (h2 : GL w x2 n2 c2 l2) (h3 : GL w x3 n3 c3 l3) (hlen : n1 + n2 + n3 ≤ 137438953472) :
    GvL 25 #[.slice x1 n1 c1, .slice x2 n2 c2, .slice x3 n3 c3] (RG.one (l1 ++ l2 ++ l3)) w := by
  have H1 := W_hid h1
  have H2 := W_hid h2
  have H3 := W_hid h3
  have L1 := W_hid h1.1.1
  have L2 := W_hid h2.1.1
  have L3 := W_hid h3.1.1
  clear h1 h2 h3
  obtain ⟨X, hmk, hmo⟩ := Own.make_room Try.underlying22 reg_info (n1 + n2 + n3) ((n1 : Int) + (n2 : Int) + (n3 : Int)) (by push_cast; rfl) (by omega) (by omega)
  have q1 : n1 ≤ 137438953472 ∧ n2 ≤ 137438953472 ∧ n3 ≤ 137438953472 := by omega
  have q2 : (n1 : Int) + (n2 : Int) ≤ 137438953472 := by omega
  have q3 : (n1 : Int) + (n2 : Int) + (n3 : Int) ≤ 137438953472 := by omega
  replace hmo := W_hid hmo
  have hO := W_hid (fun W ao cap h => rone_any ao (n1 + n2 + n3) cap (l1 ++ l2 ++ l3) W h (by simp only [List.length_append, L1.out, L2.out, L3.out]; exact hlen))
  obtain ⟨LL, hLL⟩ : ∃ LL, l1 ++ l2 ++ l3 = LL := ⟨_, rfl⟩
  rw [hLL] at hO ⊢
  replace hLL := W_hid hLL
  have hlen := W_hid hlen
  have b0 := W_hid ((Below.refl w.heap.size w).alloc (Nat.le_refl _) X)
  unfold GvL
  go_enter Try.func25, Try.ntmps25
  go_wp2_with (at_builtin; apply Hid.out)
  refine W_hid ?_
  refine Own.wpList_app (n := 0) (m := n1) rfl (.tmp 16) (.tmp 17) 22 rfl Try.underlying22 reg_info _ (.slice x1 n1 c1) rfl rfl (hmo.out w w.heap.size (Nat.le_refl _)) b0.out.size (H1.out.1.below b0.out (Nat.le_refl _)).src (rcl_one _) (by have := hlen.out; unfold maxLen; omega) (by have := hlen.out; omega) ?_
  intro v1 w1 own1 g1 _
  rw [Nat.zero_add, List.nil_append] at own1
  have b1 := W_hid (b0.out.grown g1 b0.out.size (fun g hg => Own.ge (hmo.out w w.heap.size (Nat.le_refl _)) g hg))
  replace own1 := W_hid own1
  obtain ⟨a1, d1, rfl⟩ := Own.form own1.out
  clear b0 g1
  go_wp2_with (at_builtin; apply Hid.out)
  refine W_hid ?_
  refine Own.wpList_app (n := n1) (m := n2) rfl (.tmp 19) (.tmp 20) 22 rfl Try.underlying22 reg_info _ (.slice x2 n2 c2) rfl rfl own1.out b1.out.size (H2.out.1.below b1.out (Nat.le_refl _)).src (rcl_one _) (by have := hlen.out; unfold maxLen; omega) (by have := hlen.out; omega) ?_
  intro v2 w2 own2 g2 _
  have b2 := W_hid (b1.out.grown g2 b1.out.size (fun g hg => Own.ge own1.out g hg))
  replace own2 := W_hid own2
  obtain ⟨a2, d2, rfl⟩ := Own.form own2.out
  clear b1 g2 own1
  go_wp2_with (at_builtin; apply Hid.out)
  refine W_hid ?_
  refine Own.wpList_app (n := n1 + n2) (m := n3) rfl (.tmp 22) (.tmp 23) 22 rfl Try.underlying22 reg_info _ (.slice x3 n3 c3) rfl rfl own2.out b2.out.size (H3.out.1.below b2.out (Nat.le_refl _)).src (rcl_one _) (by have := hlen.out; unfold maxLen; omega) (by have := hlen.out; omega) ?_
  intro v3 w3 own3 g3 _
  have b3 := W_hid (b2.out.grown g3 b2.out.size (fun g hg => Own.ge own2.out g hg))
  rw [← rcl_append, ← rcl_append, hLL.out] at own3
  obtain ⟨a3, d3, rfl⟩ := Own.form own3
  have G3 := W_hid (GL_own own3)
  replace own3 := W_hid own3
  clear b2 g3 own2
  go_wp2_with fail
  refine (hO.out _ _ _ G3.out).mono ?_
  rintro e w4 ⟨v, rfl, hown, bel⟩
  obtain ⟨va, vc, rfl⟩ := Own.form hown
  go_wp2_with fail
  go_ret
  exact ⟨_, rfl, Own.low b3.out.size hown, b3.out.trans (bel.mono b3.out.size)⟩

theorem adL_rep {l : List Rg} {r : Rg} (hok : RG.Ok true none l) (hg : RG.good r) (hp : RG.parts r.f r.t l = []) : RG.one (RG.parts 0 r.f l ++ [r] ++ RG.parts r.t 140737488355328 l) = adL l r := by
  unfold adL
  rw [if_pos ⟨hok, hg, hp⟩]
  rfl

set_option maxRecDepth 100000 in
set_option maxHeartbeats 8000000 in
theorem rAdd_any (ao : Option Addr) (n cap : Nat) (l : List Rg) (f t : Nat) (p s : Int) (w : World) (h : GL w ao n cap l) :
    GvE 9 #[.slice ao n cap, .agg #[.int .u64 (f : Int), .int .u64 (t : Int), .int .i64 p, .int .i64 s]] (adL l ⟨f, t, p, s⟩) (adE l ⟨f, t, p, s⟩) w := by
  have bb : Below w.heap.size w (w.alloc (.cells #[.int .u64 (f : Int), .int .u64 (t : Int), .int .i64 p, .int .i64 s] 25)) := (Below.refl _ _).alloc (Nat.le_refl _) _
  have hB0 : RB (w.alloc (.cells #[.int .u64 (f : Int), .int .u64 (t : Int), .int .i64 p, .int .i64 s] 25)) w.heap.size ⟨f, t, p, s⟩ := Blk.new _ _ _ rfl
  have hV := rgRight_any ao n cap l _ (h.keep bb).1
  have hI := W_hid (fun w => rRegion_any f t p s w)
  have hL := W_hid (h.keep bb)
  have hl0 := W_hid h
  by_cases hok : RG.Ok true none l
  · rw [decide_eq_true hok] at hV
    replace hV := W_hid hV
    have hll := ok_len hok
    by_cases hg : RG.good ⟨f, t, p, s⟩
    · rw [decide_eq_true hg] at hI
      have hF := W_hid (fun w h => (rParts_any ao n cap l f t w h hll).low)
      by_cases hp : RG.parts f t l = []
      · rw [hp] at hF
        have hX1 : (RG.parts 0 f l).length ≤ 34359738368 := by rw [parts_len]; exact Nat.le_trans (List.length_filter_le _ _) hll
        have hX3 : (RG.parts t 140737488355328 l).length ≤ 34359738368 := by rw [parts_len]; exact Nat.le_trans (List.length_filter_le _ _) hll
        have hE : Hid (adE l ⟨f, t, p, s⟩ = 0) := by
          show _ = _
          unfold adE
          rw [if_pos ⟨hok, hg⟩, if_pos hp]
        have hLL := adL_rep hok hg hp
        simp only at hLL
        -- the three calls, said of every world that keeps the box
        have hP1 : Hid (∀ W, (RE W w.heap.size 0 ⟨f, t, p, s⟩ ∧ Below w.heap.size w W) → Calls Try.prog 24 #[.slice ao n cap, .int .u64 0, .int .u64 (f : Int)] W fun e W' => ∃ a c, e = .returned (.slice a (RG.parts 0 f l).length c) ∧ GL W' a (RG.parts 0 f l).length c (RG.parts 0 f l) ∧ Below W.heap.size W W' ∧ RE W' w.heap.size 0 ⟨f, t, p, s⟩ ∧ Below w.heap.size w W') := by
          rintro W ⟨hb, hW⟩
          refine (rParts_any ao n cap l 0 f W (hl0.out.1.below hW (Nat.le_refl _)) hll).low.mono ?_
          rintro e W' ⟨a, c, rfl, ho, hbw⟩
          exact ⟨a, c, rfl, GL_own ho, hbw, RE.keep hb hbw, hW.trans (hbw.mono hW.size)⟩
        have hP3 : Hid (∀ W, (RE W w.heap.size 0 ⟨f, t, p, s⟩ ∧ Below w.heap.size w W) → Calls Try.prog 24 #[.slice ao n cap, .int .u64 (t : Int), .int .u64 140737488355328] W fun e W' => ∃ a c, e = .returned (.slice a (RG.parts t 140737488355328 l).length c) ∧ GL W' a (RG.parts t 140737488355328 l).length c (RG.parts t 140737488355328 l) ∧ Below W.heap.size W W' ∧ RE W' w.heap.size 0 ⟨f, t, p, s⟩ ∧ Below w.heap.size w W') := by
          rintro W ⟨hb, hW⟩
          refine (rParts_any ao n cap l t 140737488355328 W (hl0.out.1.below hW (Nat.le_refl _)) hll).low.mono ?_
          rintro e W' ⟨a, c, rfl, ho, hbw⟩
          exact ⟨a, c, rfl, GL_own ho, hbw, RE.keep hb hbw, hW.trans (hbw.mono hW.size)⟩
        have hJ : Hid (∀ W a1 c1 a2 a3 c3, (RE W w.heap.size 0 ⟨f, t, p, s⟩ ∧ Below w.heap.size w W) → GL W a1 (RG.parts 0 f l).length c1 (RG.parts 0 f l) → GL W a2 1 1 [⟨f, t, p, s⟩] → GL W a3 (RG.parts t 140737488355328 l).length c3 (RG.parts t 140737488355328 l) →
            Calls Try.prog 25 #[.slice a1 (RG.parts 0 f l).length c1, .slice a2 1 1, .slice a3 (RG.parts t 140737488355328 l).length c3] W fun e W' => ∃ a c, e = .returned (.slice a (adL l ⟨f, t, p, s⟩).length c) ∧ W'.ownsRow w.heap.size 25 4 (.slice a (adL l ⟨f, t, p, s⟩).length c) (adL l ⟨f, t, p, s⟩).length (rcl (adL l ⟨f, t, p, s⟩)) ∧ RE W' w.heap.size 0 ⟨f, t, p, s⟩ ∧ Below w.heap.size w W') := by
          rintro W a1 c1 a2 a3 c3 ⟨hb, hW⟩ g1 g2 g3
          have := (rjoined_any a1 a2 a3 _ c1 1 1 _ c3 _ _ _ W g1 g2 g3 (by omega)).low
          rw [hLL] at this
          refine this.mono ?_
          rintro e W' ⟨a, c, rfl, ho, hbw⟩
          exact ⟨a, c, rfl, Own.low hW.size ho, RE.keep hb hbw, hW.trans (hbw.mono hW.size)⟩
        unfold GvE
        generalize adL l ⟨f, t, p, s⟩ = LL at *
        generalize RG.parts 0 f l = X1 at *
        generalize RG.parts t 140737488355328 l = X3 at *
        clear hok hg hp h hLL hl0 hX1 hX3 hll
        go_enter Try.func9, Try.ntmps9
        go_wp2_with fail
        refine hV.out.mono ?_
        rintro e w1 ⟨rfl, bel1⟩
        have hB1 := hB0.keep bel1
        obtain ⟨u0, u1, u2, u3⟩ := RB.re hB1
        replace hL := W_hid (hL.out.keep bel1)
        replace bb := bb.trans (bel1.mono bb.size)
        clear bel1 hV
        go_wp2_with fail
        refine (hI.out _).mono ?_
        rintro e w2 ⟨rfl, bel2⟩
        have hB2 := Blk.keep hB1 bel2
        obtain ⟨u0, u1, u2, u3⟩ := RB.re hB2
        replace hL := W_hid (hL.out.keep bel2)
        replace bb := bb.trans (bel2.mono bb.size)
        clear bel2 hB1 hI
        go_wp2_with fail
        refine (hF.out _ hL.out.1).mono ?_
        rintro e w3 ⟨a3, c3, rfl, hown3, bel3⟩
        have hB3 := Blk.keep hB2 bel3
        obtain ⟨u0, u1, u2, u3⟩ := RB.re hB3
        replace hL := W_hid (hL.out.keep bel3)
        replace bb := bb.trans (bel3.mono bb.size)
        simp only [List.length_nil]
        have S0 := W_hid (show RE w3 w.heap.size 0 ⟨f, t, p, s⟩ ∧ Below w.heap.size w w3 from ⟨RB.re hB3, bb⟩)
        have sdr : Hid (∀ W, (RE W w.heap.size 0 ⟨f, t, p, s⟩ ∧ Below w.heap.size w W) → (RE W.drew w.heap.size 0 ⟨f, t, p, s⟩ ∧ Below w.heap.size w W.drew)) := fun W h => ⟨h.1, Below.drew h.2⟩
        have sal : Hid (∀ W o, (RE W w.heap.size 0 ⟨f, t, p, s⟩ ∧ Below w.heap.size w W) → (RE (W.alloc o) w.heap.size 0 ⟨f, t, p, s⟩ ∧ Below w.heap.size w (W.alloc o))) := fun W o h => ⟨RE.keep h.1 (Below.alloc (Below.refl _ _) (Nat.le_refl _) o), h.2.alloc h.2.size o⟩
        clear bel3 hB2 hown3 hF hB3 hB0 hL bb
        go_wp2_with fail
        go_region_held3 (fun W => (W.cell? ⟨w.heap.size, 0, none⟩ = some (.int .u64 (f : Int)) ∧ W.cell? ⟨w.heap.size, 0 + 1, none⟩ = some (.int .u64 (t : Int)) ∧ W.cell? ⟨w.heap.size, 0 + 2, none⟩ = some (.int .i64 p) ∧ W.cell? ⟨w.heap.size, 0 + 3, none⟩ = some (.int .i64 s)) ∧ Below w.heap.size w W)
          (first | exact S0.out | exact sdr.out _ S0.out | exact sal.out _ _ S0.out | exact sal.out _ _ (sdr.out _ S0.out) | assumption | exact sal.out _ _ (by assumption))
          (first
            | (go_at_call 25; refine (hJ.out _ _ _ _ _ _ (by first | assumption | exact sal.out _ _ (by assumption)) (by first | assumption | (refine GL.keep ?_ belc; first | assumption | (refine GL.alloc ?_ _; assumption)) | (refine GL.alloc (GL.keep ?_ belc) _; assumption)) (by first | exact GL_blk (Blk.new _ _ _ rfl) | exact GL.keep (GL_blk (Blk.new _ _ _ rfl)) belc | exact GL.keep (GL.keep (GL_blk (r := ⟨f, t, p, s⟩) (Blk.new w3 25 (rv ⟨f, t, p, s⟩) rfl)) (Own.bundrew bela)) belc) (by first | assumption | (refine GL.alloc ?_ _; assumption))).mono ?_; rintro e w6 ⟨a6, c6, rfl, hown6, hS6⟩)
            | (go_at_call_of 24 (Value.int IntKind.u64 140737488355328); refine (hP3.out _ (by first | assumption | exact sal.out _ _ (by assumption))).mono ?_; rintro e w5 ⟨a5, c5, rfl, hx5, belc, hS5⟩)
            | (go_at_call 24; refine (hP1.out _ (by first | exact S0.out | exact sdr.out _ S0.out | exact sal.out _ _ (sdr.out _ S0.out) | exact sal.out _ _ S0.out)).mono ?_; rintro e w4 ⟨a4, c4, rfl, hx4, bela, hS4⟩))
        all_goals
          clear hP1 hP3 hJ
          go_wp2_with fail
          go_ret2
          exact ⟨_, _, by rw [hE.out]; rfl, hown6, hS6.2⟩
      · obtain ⟨N, hN⟩ : ∃ N, (RG.parts f t l).length = N := ⟨_, rfl⟩
        have hpos : 0 < N := by
          rcases Nat.eq_zero_or_pos N with h0 | h0
          · exact absurd (List.eq_nil_of_length_eq_zero (by rw [hN, h0])) hp
          · exact h0
        rw [hN] at hF
        have hE : Hid (adE l ⟨f, t, p, s⟩ = 102 ∧ adL l ⟨f, t, p, s⟩ = []) := by
          show _ ∧ _
          unfold adE adL
          rw [if_pos ⟨hok, hg⟩, if_neg hp, if_neg (fun h => hp h.2.2)]
          exact ⟨rfl, rfl⟩
        rw [hE.out.1, hE.out.2]
        refine GvE.none ?_
        clear hok hg hp h hl0 hN
        go_enter Try.func9, Try.ntmps9
        go_wp2_with fail
        refine hV.out.mono ?_
        rintro e w1 ⟨rfl, bel1⟩
        have hB1 := hB0.keep bel1
        obtain ⟨u0, u1, u2, u3⟩ := RB.re hB1
        replace hL := W_hid (hL.out.keep bel1)
        replace bb := bb.trans (bel1.mono bb.size)
        clear bel1 hV
        go_wp2_with fail
        refine (hI.out _).mono ?_
        rintro e w2 ⟨rfl, bel2⟩
        have hB2 := Blk.keep hB1 bel2
        obtain ⟨u0, u1, u2, u3⟩ := RB.re hB2
        replace hL := W_hid (hL.out.keep bel2)
        replace bb := bb.trans (bel2.mono bb.size)
        clear bel2 hB1 hI
        go_wp2_with fail
        refine (hF.out _ hL.out.1).mono ?_
        rintro e w3 ⟨a3, c3, rfl, hown3, bel3⟩
        clear hown3 hF hL
        go_wp2_with fail
        go_ret2
        exact ⟨rfl, bb.trans (bel3.mono bb.size)⟩
    · rw [decide_eq_false hg] at hI
      have hE : Hid (adE l ⟨f, t, p, s⟩ = 2 ∧ adL l ⟨f, t, p, s⟩ = []) := by
        show _ ∧ _
        unfold adE adL
        rw [if_neg (fun h => hg h.2), if_neg (fun h => hg h.2.1)]
        exact ⟨rfl, rfl⟩
      rw [hE.out.1, hE.out.2]
      refine GvE.none ?_
      clear hok hg h hl0
      go_enter Try.func9, Try.ntmps9
      go_wp2_with fail
      refine hV.out.mono ?_
      rintro e w1 ⟨rfl, bel1⟩
      have hB1 := hB0.keep bel1
      obtain ⟨u0, u1, u2, u3⟩ := RB.re hB1
      replace bb := bb.trans (bel1.mono bb.size)
      clear bel1 hV
      go_wp2_with fail
      refine (hI.out _).mono ?_
      rintro e w2 ⟨rfl, bel2⟩
      go_wp2_with fail
      go_ret2
      exact ⟨rfl, bb.trans (bel2.mono bb.size)⟩
  · rw [decide_eq_false hok] at hV
    replace hV := W_hid hV
    have hE : Hid (adE l ⟨f, t, p, s⟩ = 2 ∧ adL l ⟨f, t, p, s⟩ = []) := by
      show _ ∧ _
      unfold adE adL
      rw [if_neg (fun h => hok h.1), if_neg (fun h => hok h.1)]
      exact ⟨rfl, rfl⟩
    rw [hE.out.1, hE.out.2]
    obtain ⟨b, hb⟩ : ∃ b, decide (RG.good ⟨f, t, p, s⟩) = b := ⟨_, rfl⟩
    rw [hb] at hI
    refine GvE.none ?_
    clear hok h hl0 hb
    go_enter Try.func9, Try.ntmps9
    go_wp2_with fail
    refine hV.out.mono ?_
    rintro e w1 ⟨rfl, bel1⟩
    have hB1 := hB0.keep bel1
    obtain ⟨u0, u1, u2, u3⟩ := RB.re hB1
    replace bb := bb.trans (bel1.mono bb.size)
    clear bel1 hV
    go_wp2_with fail
    refine (hI.out _).mono ?_
    rintro e w2 ⟨rfl, bel2⟩
    go_wp2_with fail
    go_ret2
    exact ⟨rfl, bb.trans (bel2.mono bb.size)⟩

set_option maxRecDepth 100000 in
set_option maxHeartbeats 4000000 in
theorem rCut_any (ao : Option Addr) (n cap : Nat) (l : List Rg) (lo hi : Nat) (w : World) (h : GL w ao n cap l) :
    GvEE 12 #[.slice ao n cap, .int .u64 (lo : Int), .int .u64 (hi : Int)] (ctL l lo hi) (ctO l lo hi) (ctE l lo hi) w := by
  have hV := rgRight_any ao n cap l _ h.1
  have hI := W_hid (fun w => rRange_any lo hi w)
  have hL := W_hid h
  by_cases hok : RG.Ok true none l
  · rw [decide_eq_true hok] at hV
    replace hV := W_hid hV
    have hll := ok_len hok
    by_cases hg : RG.isRange lo hi
    · rw [decide_eq_true hg] at hI
      have hX1 : (RG.parts 0 lo l).length ≤ 34359738368 := by rw [parts_len]; exact Nat.le_trans (List.length_filter_le _ _) hll
      have hX3 : (RG.parts hi 140737488355328 l).length ≤ 34359738368 := by rw [parts_len]; exact Nat.le_trans (List.length_filter_le _ _) hll
      have hP1 := W_hid (fun w h => (rParts_any ao n cap l 0 lo w h hll).low)
      have hP3 := W_hid (fun w h => (rParts_any ao n cap l hi 140737488355328 w h hll).low)
      have hPm : Hid (∀ w, RS w ao n cap l → Calls Try.prog 24 #[.slice ao n cap, .int .u64 (lo : Int), .int .u64 (hi : Int)] w fun e w' => ∃ a c, e = .returned (.slice a (ctO l lo hi).length c) ∧ w'.ownsRow w.heap.size 25 4 (.slice a (ctO l lo hi).length c) (ctO l lo hi).length (rcl (ctO l lo hi)) ∧ Below w.heap.size w w') := by
        intro w h
        have := (rParts_any ao n cap l lo hi w h hll).low
        unfold ctO
        rw [if_pos ⟨hok, hg⟩]
        exact this
      have hJ : Hid (∀ W a1 c1 a3 c3, GL W a1 (RG.parts 0 lo l).length c1 (RG.parts 0 lo l) → GL W a3 (RG.parts hi 140737488355328 l).length c3 (RG.parts hi 140737488355328 l) →
          Calls Try.prog 25 #[.slice a1 (RG.parts 0 lo l).length c1, .slice none 0 0, .slice a3 (RG.parts hi 140737488355328 l).length c3] W fun e W' => ∃ a c, e = .returned (.slice a (ctL l lo hi).length c) ∧ W'.ownsRow W.heap.size 25 4 (.slice a (ctL l lo hi).length c) (ctL l lo hi).length (rcl (ctL l lo hi)) ∧ Below W.heap.size W W') := by
        intro W a1 c1 a3 c3 g1 g3
        have := (rjoined_any a1 none a3 _ c1 0 0 _ c3 _ _ _ W g1 (GL_nil W) g3 (by omega)).low
        unfold ctL
        rw [if_pos ⟨hok, hg⟩]
        exact this
      have hE : Hid (ctE l lo hi = 0) := by
        show _ = _
        unfold ctE
        rw [if_pos ⟨hok, hg⟩]
      unfold GvEE
      generalize ctL l lo hi = LL at *
      generalize ctO l lo hi = OO at *
      generalize RG.parts 0 lo l = X1 at *
      generalize RG.parts hi 140737488355328 l = X3 at *
      clear hok hg h hX1 hX3 hll
      go_enter Try.func12, Try.ntmps12
      go_wp2_with fail
      refine hV.out.mono ?_
      rintro e w1 ⟨rfl, bel1⟩
      replace hL := W_hid (hL.out.keep bel1)
      go_wp2_with fail
      refine (hI.out _).mono ?_
      rintro e w2 ⟨rfl, rfl⟩
      go_wp2_with fail
      refine (hP1.out _ hL.out.1).mono ?_
      rintro e w3 ⟨a3, c3, rfl, hown3, bel3⟩
      replace hL := W_hid (hL.out.keep bel3)
      have bb := bel1.trans (bel3.mono bel1.size)
      have hG3 := W_hid (GL_own hown3)
      clear hown3
      go_wp2_with fail
      refine (hP3.out _ hL.out.1).mono ?_
      rintro e w4 ⟨a4, c4, rfl, hown4, bel4⟩
      replace hL := W_hid (hL.out.keep bel4)
      replace bb := bb.trans (bel4.mono bb.size)
      replace hG3 := W_hid (hG3.out.keep bel4)
      have hG4 := W_hid (GL_own hown4)
      clear hown4
      go_wp2_with fail
      refine (hJ.out _ _ _ _ _ hG3.out hG4.out).mono ?_
      rintro e w5 ⟨a5, c5, rfl, hown5, bel5⟩
      replace hL := W_hid (hL.out.keep bel5)
      have hlt := W_hid (fun g hg => (gown_cells hown5 g hg).1.lt)
      have hown5 := W_hid (Own.low bb.size hown5)
      replace bb := bb.trans (bel5.mono bb.size)
      clear hG3 hG4
      go_wp2_with fail
      refine (hPm.out _ hL.out.1).mono ?_
      rintro e w6 ⟨a6, c6, rfl, hown6, bel6⟩
      have hown7 := W_hid (Own.below hown5.out bel6)
      go_wp2_with fail
      refine bodyPost_ret (results_tmp3 rfl _ _ _) rfl ?_
      exact ⟨a5, c5, a6, c6, w5.heap.size, by rw [hE.out]; rfl, hown7.out, hlt.out, bb.size, hown6, bb.trans (bel6.mono bb.size)⟩
    · rw [decide_eq_false hg] at hI
      have hE : Hid (ctE l lo hi = 2 ∧ ctL l lo hi = [] ∧ ctO l lo hi = []) := by
        show _ ∧ _ ∧ _
        unfold ctE ctL ctO
        rw [if_neg (fun h => hg h.2), if_neg (fun h => hg h.2), if_neg (fun h => hg h.2)]
        exact ⟨rfl, rfl, rfl⟩
      unfold GvEE
      rw [hE.out.1, hE.out.2.1, hE.out.2.2]
      clear hok hg h
      go_enter Try.func12, Try.ntmps12
      go_wp2_with fail
      refine hV.out.mono ?_
      rintro e w1 ⟨rfl, bel1⟩
      go_wp2_with fail
      refine (hI.out _).mono ?_
      rintro e w2 ⟨rfl, rfl⟩
      go_wp2_with fail
      refine bodyPost_ret (results_tmp3 rfl _ _ _) rfl ?_
      exact ⟨none, 0, none, 0, w.heap.size, rfl, World.ownsRow_nil _ _ _ _, (fun g hg => by cases hg), Nat.le_refl _, World.ownsRow_nil _ _ _ _, bel1⟩
  · rw [decide_eq_false hok] at hV
    replace hV := W_hid hV
    have hE : Hid (ctE l lo hi = 2 ∧ ctL l lo hi = [] ∧ ctO l lo hi = []) := by
      show _ ∧ _ ∧ _
      unfold ctE ctL ctO
      rw [if_neg (fun h => hok h.1), if_neg (fun h => hok h.1), if_neg (fun h => hok h.1)]
      exact ⟨rfl, rfl, rfl⟩
    unfold GvEE
    rw [hE.out.1, hE.out.2.1, hE.out.2.2]
    clear hok h
    go_enter Try.func12, Try.ntmps12
    go_wp2_with fail
    refine hV.out.mono ?_
    rintro e w1 ⟨rfl, bel1⟩
    go_wp2_with fail
    refine (hI.out _).mono ?_
    rintro e w2 ⟨rfl, rfl⟩
    go_wp2_with fail
    refine bodyPost_ret (results_tmp3 rfl _ _ _) rfl ?_
    exact ⟨none, 0, none, 0, w.heap.size, rfl, World.ownsRow_nil _ _ _ _, (fun g hg => by cases hg), Nat.le_refl _, World.ownsRow_nil _ _ _ _, bel1⟩
end Go.Proofs.Ytfbhcnamkojboaa

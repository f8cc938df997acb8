/- The program's own Gap: a round of its loop. -/
import Derived.Test.YtfbhcnamkojboaaRegThm
namespace Go.Proofs.Ytfbhcnamkojboaa
open Go.ChangeShapes Go.WideShapes Go.ChangeAt Go.RowKit Go.Shelf
open SQ
set_option linter.unusedVariables false
set_option linter.unusedSimpArgs false
attribute [local go_sem] Oper.semAt_some
open RG (Rg)

/-- A round goes on with the next place, or leaves, the place as it was. -/
def gapPost (m q a sz st : Nat) (x : Rg) (V : World) : Exit → Act → World → Prop
  | .normal, _, W' => ¬ RG.fits a x.f sz ∧ Kq m q V W' ∧ Blk W' q 23 [.int .u64 ((RG.up x.t st : Nat) : Int)]
  | .exit id, _, W' => id = 1 ∧ RG.fits a x.f sz ∧ W' = V
  | _, _, _ => False

set_option maxRecDepth 100000 in
set_option maxHeartbeats 8000000 in
theorem gap_body (c : Code) (hcode : Try.f15.body.bind rfBody = some c) (lq m q a sz st b8 b9 bx : Nat) (V : World) (f t : Nat) (p s : Int)
    (u0 u1 u2 u3 u4 u5 u6 u7 u10 u11 u14 u15 u16 u17 u18 u19 u20 u21 u22 u23 u24 u25 u26 u27 u28 u29 u30 u31 u32 u33 u34 u35 u36 u37 u38 u39 u40 u41 u42 u43 u44 u45 u46 u47 u48 u49 u50 u51 u52 u53 u54 u56 u57 u58 u59 u60 u61 u62 u63 u64 u65 u66 u67 u68 u69 u70 : Value)
    (hQ : Blk V q 23 [.int .u64 (a : Int)]) (h8 : Blk V b8 23 [.int .u64 (sz : Int)]) (h9 : Blk V b9 23 [.int .u64 (st : Int)]) (hX : RB V bx ⟨f, t, p, s⟩) (hmV : m ≤ V.heap.size)
    (ha : a < 18446744073709551616) (hf : f < 18446744073709551616) (ht : t ≤ 140737488355328) (hst : 0 < st) (hst2 : st ≤ 2097152) :
    c.wpIn (Fence.wide.inRound lq) 0 Try.prog (gapPost m q a sz st ⟨f, t, p, s⟩ V) { tmps := #[u0, u1, u2, u3, u4, u5, u6, u7, .pointer (some ⟨b8, 0, none⟩), .pointer (some ⟨b9, 0, none⟩), u10, u11, .pointer (some ⟨q, 0, none⟩), .pointer (some ⟨bx, 0, none⟩), u14, u15, u16, u17, u18, u19, u20, u21, u22, u23, u24, u25, u26, u27, u28, u29, u30, u31, u32, u33, u34, u35, u36, u37, u38, u39, u40, u41, u42, u43, u44, u45, u46, u47, u48, u49, u50, u51, u52, u53, u54, .agg #[.int .u64 (f : Int), .int .u64 (t : Int), .int .i64 p, .int .i64 s], u56, u57, u58, u59, u60, u61, u62, u63, u64, u65, u66, u67, u68, u69, u70], defers := [] } V := by
  obtain ⟨x0, x1, x2, x3⟩ := hX.re
  have c8 := h8.cell (j := 0) rfl
  have c9 := h9.cell (j := 0) rfl
  have cq := hQ.cell (j := 0) rfl
  have fq := hQ.fz 0
  have hF := W_hid (fun w => fits_any a f sz w ha hf)
  simp only [Try.f15, rfBody, Option.bind_some, Option.or, Option.some.injEq] at hcode
  by_cases hfit : RG.fits a f sz
  · rw [decide_eq_true hfit] at hF
    subst hcode
    gi_wp2
    refine ⟨trivial, rfl, ?_⟩
    refine (CallsIn.inRound lq (fit_wide (hF.out _))).mono ?_
    rintro e w2 ⟨rfl, rfl⟩
    gi_wp2
    exact ⟨rfl, hfit, rfl⟩
  · rw [decide_eq_false hfit] at hF
    have hU := W_hid (fun w => up_any t st w ht hst hst2)
    have hnf := W_hid hfit
    obtain ⟨z, hz⟩ : ∃ z : Nat, RG.up t st = z := ⟨_, rfl⟩
    have hz' := W_hid hz
    rw [hz] at hU
    have hkq := W_hid ((Kq.refl q hmV).setq (v := .int .u64 (z : Int)) cq (fun g hg => by cases hg))
    have hQ2 := W_hid (hQ.set 0 (.int .u64 (z : Int)))
    clear hz hfit
    subst hcode
    gi_wp2
    refine ⟨trivial, rfl, ?_⟩
    refine (CallsIn.inRound lq (fit_wide (hF.out _))).mono ?_
    rintro e w2 ⟨rfl, rfl⟩
    gi_wp2
    refine ⟨trivial, rfl, ?_⟩
    refine (CallsIn.inRound lq (fit_wide (hU.out _))).mono ?_
    rintro e w3 ⟨rfl, rfl⟩
    gi_wp2
    refine ⟨hnf.out, hkq.out, ?_⟩
    show Blk _ q _ [.int .u64 ((RG.up t st : Nat) : Int)]
    rw [hz'.out]
    exact hQ2.out

/-- The activation in a round of Gap's loop. -/
def GapAct (b8 b9 q bx : Nat) (x : Rg) (a : Act) : Prop := ∃ u0 u1 u2 u3 u4 u5 u6 u7 u10 u11 u14 u15 u16 u17 u18 u19 u20 u21 u22 u23 u24 u25 u26 u27 u28 u29 u30 u31 u32 u33 u34 u35 u36 u37 u38 u39 u40 u41 u42 u43 u44 u45 u46 u47 u48 u49 u50 u51 u52 u53 u54 u56 u57 u58 u59 u60 u61 u62 u63 u64 u65 u66 u67 u68 u69 u70 : Value, a = { tmps := #[u0, u1, u2, u3, u4, u5, u6, u7, .pointer (some ⟨b8, 0, none⟩), .pointer (some ⟨b9, 0, none⟩), u10, u11, .pointer (some ⟨q, 0, none⟩), .pointer (some ⟨bx, 0, none⟩), u14, u15, u16, u17, u18, u19, u20, u21, u22, u23, u24, u25, u26, u27, u28, u29, u30, u31, u32, u33, u34, u35, u36, u37, u38, u39, u40, u41, u42, u43, u44, u45, u46, u47, u48, u49, u50, u51, u52, u53, u54, ra x, u56, u57, u58, u59, u60, u61, u62, u63, u64, u65, u66, u67, u68, u69, u70], defers := [] }
theorem gap_round (c : Code) (hcode : Try.f15.body.bind rfBody = some c) (lq m q a sz st b8 b9 bx : Nat) (V : World) (x : Rg) (a' : Act) (hact : GapAct b8 b9 q bx x a')
    (hQ : Blk V q 23 [.int .u64 (a : Int)]) (h8 : Blk V b8 23 [.int .u64 (sz : Int)]) (h9 : Blk V b9 23 [.int .u64 (st : Int)]) (hX : RB V bx x) (hmV : m ≤ V.heap.size)
    (ha : a < 18446744073709551616) (hg : RG.good x) (hst : 0 < st) (hst2 : st ≤ 2097152) :
    c.wpIn (Fence.wide.inRound lq) 0 Try.prog (gapPost m q a sz st x V) a' V := by
  obtain ⟨u0, u1, u2, u3, u4, u5, u6, u7, u10, u11, u14, u15, u16, u17, u18, u19, u20, u21, u22, u23, u24, u25, u26, u27, u28, u29, u30, u31, u32, u33, u34, u35, u36, u37, u38, u39, u40, u41, u42, u43, u44, u45, u46, u47, u48, u49, u50, u51, u52, u53, u54, u56, u57, u58, u59, u60, u61, u62, u63, u64, u65, u66, u67, u68, u69, u70, rfl⟩ := hact
  obtain ⟨f, t, p, s⟩ := x
  obtain ⟨⟨g1, g2, g3, g4⟩, _⟩ := hg
  simp only at g1 g2 g3 g4
  exact gap_body c hcode lq m q a sz st b8 b9 bx V f t p s _ _ _ _ _ _ _ _ _ _ _ _ _ _ _ _ _ _ _ _ _ _ _ _ _ _ _ _ _ _ _ _ _ _ _ _ _ _ _ _ _ _ _ _ _ _ _ _ _ _ _ _ _ _ _ _ _ _ _ _ _ _ _ _ _ _ hQ h8 h9 hX hmV ha (by omega) g4 hst hst2
end Go.Proofs.Ytfbhcnamkojboaa

/- The laws of layer 9 (package haywardlaw09), RegionBack, RegionOrder and RegionPieces: for every input they return true, and their arguments read as before. No further condition. -/
import Derived.Test.YtjdnhiakpobooaaLaws09
namespace Go.Proofs.Ytjdnhiakpobooaa
open Go.ChangeShapes Go.WideShapes Go.ChangeAt Go.RowKit
open SQ
set_option linter.unusedVariables false
set_option linter.unusedSimpArgs false
open RG (Rg)

theorem shown_one : adE [] ⟨4096, 8192, 3, 0⟩ = 0 ∧ adL [] ⟨4096, 8192, 3, 0⟩ = [⟨4096, 8192, 3, 0⟩] := by
  have h : RG.Ok true none [] ∧ RG.good ⟨4096, 8192, 3, 0⟩ := ⟨trivial, by decide +kernel⟩
  have hp : RG.parts (⟨4096, 8192, 3, 0⟩ : Rg).f (⟨4096, 8192, 3, 0⟩ : Rg).t [] = [] := rfl
  unfold adE adL
  rw [if_pos h, if_pos hp, if_pos ⟨h.1, h.2, hp⟩]
  exact ⟨rfl, by decide +kernel⟩
theorem shown_two : adE [⟨4096, 8192, 3, 0⟩] ⟨8192, 12288, 3, 0⟩ = 0 ∧ adL [⟨4096, 8192, 3, 0⟩] ⟨8192, 12288, 3, 0⟩ = [⟨4096, 12288, 3, 0⟩] := by
  have h : RG.Ok true none [⟨4096, 8192, 3, 0⟩] ∧ RG.good ⟨8192, 12288, 3, 0⟩ := ⟨⟨⟨by decide +kernel, fun _ e => by cases e⟩, trivial⟩, by decide +kernel⟩
  have hp : RG.parts (⟨8192, 12288, 3, 0⟩ : Rg).f (⟨8192, 12288, 3, 0⟩ : Rg).t [⟨4096, 8192, 3, 0⟩] = [] := by decide +kernel
  unfold adE adL
  rw [if_pos h, if_pos hp, if_pos ⟨h.1, h.2, hp⟩]
  exact ⟨rfl, by decide +kernel⟩
set_option maxRecDepth 100000 in
set_option maxHeartbeats 1000000 in
theorem shown_any (w : World) : Gv 12 #[] (.bool true) w := by
  have hP : Hid (∀ w, GvE 13 #[.slice none 0 0, .agg #[.int .u64 4096, .int .u64 8192, .int .i64 3, .int .i64 0]] [⟨4096, 8192, 3, 0⟩] 0 w) := by
    intro w
    have := Add_any none 0 0 [] 4096 8192 3 0 w (RL_nil w)
    rw [shown_one.1, shown_one.2] at this
    exact this
  have hQ : Hid (∀ w ao n c, RL w ao n c [⟨4096, 8192, 3, 0⟩] → GvE 13 #[.slice ao n c, .agg #[.int .u64 8192, .int .u64 12288, .int .i64 3, .int .i64 0]] [⟨4096, 12288, 3, 0⟩] 0 w) := by
    intro w ao n c h
    have := Add_any ao n c [⟨4096, 8192, 3, 0⟩] 8192 12288 3 0 w h
    rw [shown_two.1, shown_two.2] at this
    exact this
  go_enter Try.func12, Try.ntmps12
  go_wp2_with fail
  refine (hP.out _).mono ?_
  rintro e w1 ⟨a1, c1, rfl, hown1, bel1⟩
  have hL1 := RL_own hown1
  go_wp2_with fail
  refine (hQ.out _ _ _ _ hL1).mono ?_
  rintro e w2 ⟨a2, c2, rfl, hown2, bel2⟩
  obtain ⟨blk, off, rfl, hlt, hc⟩ := (RS_own hown2).at_ (by decide)
  obtain ⟨e1, e2, e3, e4⟩ := hc 0 (by decide)
  simp only [Nat.zero_mul, Nat.add_zero, List.getElem_cons_zero] at e1 e2 e3 e4
  have bel3 := bel1.trans (bel2.mono bel1.size)
  clear hc hown1 hown2 hL1 hP hQ
  go_wp2
  go_ret
  exact ⟨rfl, bel3⟩

set_option maxRecDepth 100000 in
set_option maxHeartbeats 4000000 in
theorem RegionBack_walk (o0 : Option Addr) (n0 c0 : Nat) (l0 : List Rg) (f t : Nat) (p s : Int) (w : World) (w0 : RI w o0 n0 c0 l0) (w1 : RFit1 ⟨f, t, p, s⟩) :
    Calls Try.prog 8 #[.slice o0 n0 c0, .agg #[.int .u64 (f : Int), .int .u64 (t : Int), .int .i64 p, .int .i64 s]] w fun e w' => e = .returned (.bool true) ∧ Below w.heap.size w w' := by
  have bb : Below w.heap.size w (w.alloc (.cells #[.int .u64 (f : Int), .int .u64 (t : Int), .int .i64 p, .int .i64 s] 25)) := (Below.refl _ _).alloc (Nat.le_refl _) _
  have hB0 : RB (w.alloc (.cells #[.int .u64 (f : Int), .int .u64 (t : Int), .int .i64 p, .int .i64 s] 25)) w.heap.size ⟨f, t, p, s⟩ := Blk.new _ _ _ rfl
  have hA := W_hid (fun w h => Add_any o0 n0 c0 l0 f t p s w h)
  have hL := W_hid (w0.1.keep bb)
  rcases adE_cases l0 ⟨f, t, p, s⟩ with hE | hE
  · obtain ⟨b1, b2, b3, ⟨xf, xt, xp, xk⟩, b4, b5, b6⟩ := reg_back hE
    simp only at b5 b6
    subst b5 b6
    have hC : Hid (∀ w ao n c, RL w ao n c (adL l0 ⟨f, t, xp, xk⟩) → GvEE 16 #[.slice ao n c, .int .u64 (f : Int), .int .u64 (t : Int)] l0 [⟨f, t, xp, xk⟩] 0 w) := by
      intro w ao n c h
      have := Cut_any ao n c _ f t w h
      simp only at b1 b2 b3
      rw [b1, b2, b3] at this
      exact this
    have hT : Hid (∀ w ao n c, RL w ao n c (adL l0 ⟨f, t, xp, xk⟩) → Gv 22 #[.slice ao n c, .int .u64 (f : Int)] (.tuple #[.agg #[.int .u64 (xf : Int), .int .u64 (xt : Int), .int .i64 xp, .int .i64 xk], .bool true]) w) := by
      intro w ao n c h
      have := At_any ao n c _ f w h
      simp only at b4
      rw [b4] at this
      exact this
    have hS : Hid (∀ w x1 n1 c1 x2 n2 c2, RS w x1 n1 c1 l0 → RS w x2 n2 c2 l0 → Gv 15 #[.slice x1 n1 c1, .slice x2 n2 c2] (.bool true) w) := by
      intro w x1 n1 c1 x2 n2 c2 h1 h2
      have := RSame_any x1 x2 n1 c1 n2 c2 l0 l0 w h1 h2
      rw [decide_eq_true rfl] at this
      exact this
    rw [hE] at hA
    have hq := reg_eql f t f t xp xk xp xk true (by simp)
    generalize adL l0 ⟨f, t, xp, xk⟩ = LL at *
    clear b1 b2 b3 b4 hE w0 w1
    go_enter Try.func8, Try.ntmps8
    go_wp2_with fail
    refine (shown_any _).mono ?_
    rintro e w1 ⟨rfl, bel1⟩
    have hB1 : RB w1 w.heap.size ⟨f, t, xp, xk⟩ := hB0.keep bel1
    obtain ⟨u0, u1, u2, u3⟩ := RB.re hB1
    replace hL := W_hid (hL.out.keep bel1)
    replace bb := bb.trans (bel1.mono bb.size)
    clear bel1 hB0
    go_wp2_with fail
    refine (hA.out _ hL.out).mono ?_
    rintro e w2 ⟨a2, c2, rfl, hown2, bel2⟩
    have hB2 : RB w2 w.heap.size ⟨f, t, xp, xk⟩ := hB1.keep bel2
    obtain ⟨u0, u1, u2, u3⟩ := RB.re hB2
    have hM := RL_own hown2
    replace hL := W_hid (hL.out.keep bel2)
    replace bb := bb.trans (bel2.mono bb.size)
    clear bel2 hB1 hown2
    go_wp2_with fail
    refine (hC.out _ _ _ _ hM).mono ?_
    rintro e w3 ⟨a3, c3, d3, e3, B3, rfl, hown3, hlt3, hB3', hown3', bel3⟩
    have hB3 : RB w3 w.heap.size ⟨f, t, xp, xk⟩ := hB2.keep bel3
    obtain ⟨u0, u1, u2, u3⟩ := RB.re hB3
    have hN := W_hid (RL_own hown3)
    have hO := W_hid (RL_own hown3')
    replace hM := hM.keep bel3
    replace hL := W_hid (hL.out.keep bel3)
    replace bb := bb.trans (bel3.mono bb.size)
    clear bel3 hB2 hown3 hown3' hlt3 hB3'
    go_wp2_with fail
    refine (hT.out _ _ _ _ hM).mono ?_
    rintro e w4 ⟨rfl, bel4⟩
    have bel5 : Below w4.heap.size w4 (w4.alloc (.cells #[.int .u64 (xf : Int), .int .u64 (xt : Int), .int .i64 xp, .int .i64 xk] 25)) := (Below.refl _ _).alloc (Nat.le_refl _) _
    have hX : RB (w4.alloc (.cells #[.int .u64 (xf : Int), .int .u64 (xt : Int), .int .i64 xp, .int .i64 xk] 25)) w4.heap.size ⟨xf, xt, xp, xk⟩ := Blk.new _ _ _ rfl
    replace bel4 := bel4.trans (bel5.mono bel4.size)
    have hB4 : RB (w4.alloc (.cells #[.int .u64 (xf : Int), .int .u64 (xt : Int), .int .i64 xp, .int .i64 xk] 25)) w.heap.size ⟨f, t, xp, xk⟩ := hB3.keep bel4
    obtain ⟨u0, u1, u2, u3⟩ := RB.re hB4
    obtain ⟨v0, v1, v2, v3⟩ := RB.re hX
    replace hL := W_hid (hL.out.keep bel4)
    replace hN := W_hid (hN.out.keep bel4)
    replace hO := W_hid (hO.out.keep bel4)
    replace bb := bb.trans (bel4.mono bb.size)
    obtain ⟨ob, oo, rfl, hob, hoc⟩ := hO.out.1.at_ (by simp)
    obtain ⟨y0, y1, y2, y3⟩ := hoc 0 (by simp)
    simp only [Nat.zero_mul, Nat.add_zero, List.getElem_cons_zero] at y0 y1 y2 y3
    have hSS := W_hid (hS.out (w4.alloc (.cells #[.int .u64 (xf : Int), .int .u64 (xt : Int), .int .i64 xp, .int .i64 xk] 25)).drew _ _ _ _ _ _ (by exact hN.out.1) (by exact hL.out.1))
    have hkeep := W_hid (fun w' (hb : Below (w4.alloc (.cells #[.int .u64 (xf : Int), .int .u64 (xt : Int), .int .i64 xp, .int .i64 xk] 25)).heap.size (w4.alloc (.cells #[.int .u64 (xf : Int), .int .u64 (xt : Int), .int .i64 xp, .int .i64 xk] 25)) w') => (⟨(RB.re hB4).keep hb, (RB.re hX).keep hb, (show RE _ ob oo ⟨f, t, xp, xk⟩ from ⟨y0, y1, y2, y3⟩).keep hb⟩ : RE w' w.heap.size 0 ⟨f, t, xp, xk⟩ ∧ RE w' w4.heap.size 0 ⟨xf, xt, xp, xk⟩ ∧ RE w' ob oo ⟨f, t, xp, xk⟩))
    clear hB3 hB4 hX bel5 bel4 hM hA hC hT hS hoc hL hN hO
    go_wp2_with fail
    go_region_held3 (fun w' => w'.cell? ⟨w.heap.size, 0, none⟩ = some (.int .u64 (f : Int)) ∧ w'.cell? ⟨w.heap.size, 0 + 1, none⟩ = some (.int .u64 (t : Int)) ∧ w'.cell? ⟨w.heap.size, 0 + 2, none⟩ = some (.int .i64 xp) ∧ w'.cell? ⟨w.heap.size, 0 + 3, none⟩ = some (.int .i64 xk) ∧ w'.cell? ⟨w4.heap.size, 0, none⟩ = some (.int .u64 (xf : Int)) ∧ w'.cell? ⟨w4.heap.size, 0 + 1, none⟩ = some (.int .u64 (xt : Int)) ∧ w'.cell? ⟨w4.heap.size, 0 + 2, none⟩ = some (.int .i64 xp) ∧ w'.cell? ⟨w4.heap.size, 0 + 3, none⟩ = some (.int .i64 xk) ∧ w'.cell? ⟨ob, oo, none⟩ = some (.int .u64 (f : Int)) ∧ w'.cell? ⟨ob, oo + 1, none⟩ = some (.int .u64 (t : Int)) ∧ w'.cell? ⟨ob, oo + 2, none⟩ = some (.int .i64 xp) ∧ w'.cell? ⟨ob, oo + 3, none⟩ = some (.int .i64 xk)) (go_keep)
      (first | (go_at_call 15; refine hSS.out.mono ?_; rintro e w5 ⟨rfl, bel5⟩; obtain ⟨⟨r0, r1, r2, r3⟩, ⟨q0, q1, q2, q3⟩, z0, z1, z2, z3⟩ := hkeep.out _ (Own.bundrew bel5)))
    all_goals
      go_wp2_with fail
      go_ret
      exact ⟨rfl, bb.trans ((Own.bundrew bel5).mono bb.size)⟩
  · have hE' : Hid (adL l0 ⟨f, t, p, s⟩ = [] ∧ adE l0 ⟨f, t, p, s⟩ ≠ 0) := by
      rcases hE with ⟨h1, h2⟩ | ⟨h1, h2⟩
      · exact ⟨h2, by rw [h1]; decide⟩
      · exact ⟨h2, by rw [h1]; decide⟩
    rw [hE'.out.1] at hA
    obtain ⟨E, hEE⟩ : ∃ E, adE l0 ⟨f, t, p, s⟩ = E := ⟨_, rfl⟩
    have hne : (E == 0) = false := by
      have := hE'.out.2
      rw [hEE] at this
      simpa using this
    rw [hEE] at hA
    clear hE hE' hEE w0 w1
    go_enter Try.func8, Try.ntmps8
    go_wp2_with fail
    refine (shown_any _).mono ?_
    rintro e w1 ⟨rfl, bel1⟩
    have hB1 : RB w1 w.heap.size ⟨f, t, p, s⟩ := hB0.keep bel1
    obtain ⟨u0, u1, u2, u3⟩ := RB.re hB1
    replace hL := W_hid (hL.out.keep bel1)
    replace bb := bb.trans (bel1.mono bb.size)
    clear bel1 hB0
    go_wp2_with fail
    refine (hA.out _ hL.out).mono ?_
    rintro e w2 ⟨a2, c2, rfl, hown2, bel2⟩
    replace bb := bb.trans (bel2.mono bb.size)
    clear bel2 hB1 hown2
    go_wp2_with fail
    go_ret
    exact ⟨rfl, bb⟩

set_option maxRecDepth 100000 in
theorem RegionBack_lifted (os : Os) (started : os.Started) (H : Type) (enc : TypeId × Value → H) :
    ReturnsInHanded {} Try.checked os 8 .any (Rows.regionBackSpec.pre6 enc Try.prog Try.f8 Rows.regionBackRow.domain false) (Rows.regionBackSpec.post enc Try.prog Try.f8 false true false false) := by
  refine returnsInHanded_of_change (C := Try.checked) (by kernel_rfl) started (by kernel_rfl) Try.func8
    (ChangeSpec.witness6 (enc := enc) (C := Try.checked) false ⟨#[], #[.slice none 0 0, .agg #[.int .u64 0, .int .u64 0, .int .i64 0, .int .i64 0]], []⟩ 8 (by kernel_rfl) (by kernel_rfl) (by kernel_rfl) (by kernel_rfl)) ?_
  intro W base args ds gs before hval0 hW hcnd _
  have hval : ∀ (j : Nat) t v, Try.f8.params[j]? = some t → args[j]? = some v → Value.okWide Try.prog W .any base t v := hval0
  have hW' := hW
  obtain ⟨p, q, hA0, hV, rfl, hfz, hnd⟩ := hW
  have hA : DataW.TrodAll enc Try.prog W 0 (fun _ => true) true Try.f8.params.toList args.toList ds p := hA0
  rw [Try.params8] at hA hval
  obtain ⟨v0, vs0, d0, ds0, p0, q0, hargs, rfl, rfl, h0, r0⟩ := trodAll_cons hA
  obtain ⟨v1, vs1, d1, ds1, p1, q1, rfl, rfl, rfl, h1, r1⟩ := trodAll_cons r0
  obtain ⟨rfl, rfl, rfl⟩ := trodAll_nil r1
  obtain rfl : args = #[v0, v1] := by cases args; simp_all
  obtain ⟨rfl, rfl⟩ := trodVars_none hV
  have k0 := h0
  have lt0 : ∀ x ∈ p0, x.block < W.heap.size := by obtain ⟨m, hm⟩ := k0; exact DataW.trod_lt m _ _ _ hm
  obtain ⟨o0, n0, c0, l0, rfl, w0⟩ := open_regions (hval 0 22 v0 rfl rfl) h0
  have k1 := h1
  have lt1 : ∀ x ∈ p1, x.block < W.heap.size := by obtain ⟨m, hm⟩ := k1; exact DataW.trod_lt m _ _ _ hm
  obtain ⟨a1, b1, c1, d1, rfl, w1⟩ := open_region (hval 1 25 v1 rfl rfl) h1
  clear hA0 hval0
  refine (RegionBack_walk o0 n0 c0 l0 a1 b1 c1 d1 W w0 w1).mono fun e W' ⟨he, bel⟩ => ?_
  subst he
  exact ⟨_, rfl, _, _, _, [], _, [], hW', trodAll_mk1 (shut_bool Try.underlying4 _), (trodAll_cons_mk (Below.trod laidOut (by kernel_rfl) (of_decide_eq_true (by kernel_rfl)) k0 bel lt0) (trodAll_cons_mk (Below.trod laidOut (by kernel_rfl) (of_decide_eq_true (by kernel_rfl)) k1 bel lt1) trodAll_mk0)), rfl, bel.frame _, fun h => by cases h⟩

/-- The given statement of RegionBack. -/
theorem RegionBack_holds : Rows.RegionBackSaid :=
  OpenClaim.holds_of_wide 8 Try.f8 rfl rfl rfl rfl rfl rfl rfl ⟨rfl, rfl, rfl, rfl, rfl⟩ rfl rfl rfl rfl rfl (by kernel_rfl) Try.func8 (by kernel_rfl)
    (of_decide_eq_true (by kernel_rfl)) (by unfold Func.isWrapper; first | (rw [if_pos (by decide +kernel)]; kernel_rfl) | (rw [if_neg (by decide +kernel)]; exact ⟨rfl, rfl⟩))
    (fun os started H enc _ => RegionBack_lifted os started H enc)

end Go.Proofs.Ytjdnhiakpobooaa

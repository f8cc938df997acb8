/- The laws of layer 9 (package haywardlaw09), RegionOrder and RegionPieces: for every input they return true, and their arguments read as before. No further condition. -/
import Derived.Test.YtjdnhiakpobooaaLaws09b
namespace Go.Proofs.Ytjdnhiakpobooaa
open Go.ChangeShapes Go.WideShapes Go.ChangeAt Go.RowKit
open SQ
set_option linter.unusedVariables false
set_option linter.unusedSimpArgs false
open RG (Rg)

set_option maxRecDepth 100000 in
set_option maxHeartbeats 4000000 in
theorem RegionOrder_walk (o0 : Option Addr) (n0 c0 : Nat) (l0 : List Rg) (f t : Nat) (p s : Int) (f' t' : Nat) (p' s' : Int) (w : World) (w0 : RI w o0 n0 c0 l0) (w1 : RFit1 ⟨f, t, p, s⟩) (w2 : RFit1 ⟨f', t', p', s'⟩) :
    Calls Try.prog 10 #[.slice o0 n0 c0, .agg #[.int .u64 (f : Int), .int .u64 (t : Int), .int .i64 p, .int .i64 s], (.agg #[.int .u64 (f' : Int), .int .u64 (t' : Int), .int .i64 p', .int .i64 s'])] w fun e w' => e = .returned (.bool true) ∧ Below w.heap.size w w' := by
  have bb : Below w.heap.size w ((w.alloc (.cells #[.int .u64 (f : Int), .int .u64 (t : Int), .int .i64 p, .int .i64 s] 25)).alloc (.cells #[.int .u64 (f' : Int), .int .u64 (t' : Int), .int .i64 p', .int .i64 s'] 25)) := ((Below.refl _ _).alloc (Nat.le_refl _) _).alloc (by simp) _
  have hP0 : RB ((w.alloc (.cells #[.int .u64 (f : Int), .int .u64 (t : Int), .int .i64 p, .int .i64 s] 25)).alloc (.cells #[.int .u64 (f' : Int), .int .u64 (t' : Int), .int .i64 p', .int .i64 s'] 25)) w.heap.size ⟨f, t, p, s⟩ := (Blk.new w _ (rv ⟨f, t, p, s⟩) rfl).alloc _
  have hQ0 : RB ((w.alloc (.cells #[.int .u64 (f : Int), .int .u64 (t : Int), .int .i64 p, .int .i64 s] 25)).alloc (.cells #[.int .u64 (f' : Int), .int .u64 (t' : Int), .int .i64 p', .int .i64 s'] 25)) (w.heap.size + 1) ⟨f', t', p', s'⟩ := Blk.new _ _ (rv ⟨f', t', p', s'⟩) (by simp)
  have hL := W_hid (w0.1.keep bb)
  have hord := W_hid (fun (h1 : adE l0 ⟨f, t, p, s⟩ = 0) (h2 : adE (adL l0 ⟨f, t, p, s⟩) ⟨f', t', p', s'⟩ = 0) => reg_order h1 h2)
  have hord2 := W_hid (fun (h1 : adE l0 ⟨f', t', p', s'⟩ = 0) (h2 : adE (adL l0 ⟨f', t', p', s'⟩) ⟨f, t, p, s⟩ = 0) => reg_order h1 h2)
  have h1 := W_hid (fun w ao n c h => Add_any ao n c l0 f t p s w h)
  have h2 := W_hid (fun w ao n c h => Add_any ao n c (adL l0 ⟨f, t, p, s⟩) f' t' p' s' w h)
  have h3 := W_hid (fun w ao n c h => Add_any ao n c l0 f' t' p' s' w h)
  have h4 := W_hid (fun w ao n c h => Add_any ao n c (adL l0 ⟨f', t', p', s'⟩) f t p s w h)
  have hS : Hid (∀ w x1 n1 c1 x2 n2 c2 L, RS w x1 n1 c1 L → RS w x2 n2 c2 L → Gv 15 #[.slice x1 n1 c1, .slice x2 n2 c2] (.bool true) w) := by
    intro w x1 n1 c1 x2 n2 c2 L h1 h2
    have := RSame_any x1 x2 n1 c1 n2 c2 L L w h1 h2
    rwa [decide_eq_true rfl] at this
  generalize adL (adL l0 ⟨f, t, p, s⟩) ⟨f', t', p', s'⟩ = Y at *
  generalize adL (adL l0 ⟨f', t', p', s'⟩) ⟨f, t, p, s⟩ = W4 at *
  generalize adE (adL l0 ⟨f, t, p, s⟩) ⟨f', t', p', s'⟩ = E2 at *
  generalize adE (adL l0 ⟨f', t', p', s'⟩) ⟨f, t, p, s⟩ = E4 at *
  generalize adL l0 ⟨f, t, p, s⟩ = X at *
  generalize adL l0 ⟨f', t', p', s'⟩ = Z at *
  generalize adE l0 ⟨f, t, p, s⟩ = E1 at *
  generalize adE l0 ⟨f', t', p', s'⟩ = E3 at *
  clear w0 w1 w2
  by_cases hE1 : E1 = 0
  · by_cases hE2 : E2 = 0
    · obtain ⟨k1, k2, k3⟩ := hord.out hE1 hE2
      subst hE1 hE2 k1 k2 k3
      clear hord hord2
      go_enter Try.func10, Try.ntmps10
      go_wp2_with fail
      refine (shown_any _).mono ?_
      rintro e w1 ⟨rfl, bel1⟩
      have hP1 : RB w1 w.heap.size ⟨f, t, p, s⟩ := hP0.keep bel1
      have hQ1 : RB w1 (w.heap.size + 1) ⟨f', t', p', s'⟩ := hQ0.keep bel1
      obtain ⟨u0, u1, u2, u3⟩ := RB.re hP1
      obtain ⟨v0, v1, v2, v3⟩ := RB.re hQ1
      replace hL := W_hid (hL.out.keep bel1)
      replace bb := bb.trans (bel1.mono bb.size)
      clear bel1 hP0 hQ0
      go_wp2_with fail
      refine (h1.out _ _ _ _ hL.out).mono ?_
      rintro e w2 ⟨a2, c2, rfl, hown2, bel2⟩
      have hP2 : RB w2 w.heap.size ⟨f, t, p, s⟩ := hP1.keep bel2
      have hQ2 : RB w2 (w.heap.size + 1) ⟨f', t', p', s'⟩ := hQ1.keep bel2
      obtain ⟨u0, u1, u2, u3⟩ := RB.re hP2
      obtain ⟨v0, v1, v2, v3⟩ := RB.re hQ2
      replace hL := W_hid (hL.out.keep bel2)
      have hX := W_hid (RL_own hown2)
      replace bb := bb.trans (bel2.mono bb.size)
      clear bel2 hown2 hP1 hQ1
      go_wp2_with fail
      refine (h2.out _ _ _ _ hX.out).mono ?_
      rintro e w3 ⟨a3, c3, rfl, hown3, bel3⟩
      have hP3 : RB w3 w.heap.size ⟨f, t, p, s⟩ := hP2.keep bel3
      have hQ3 : RB w3 (w.heap.size + 1) ⟨f', t', p', s'⟩ := hQ2.keep bel3
      obtain ⟨u0, u1, u2, u3⟩ := RB.re hP3
      obtain ⟨v0, v1, v2, v3⟩ := RB.re hQ3
      replace hL := W_hid (hL.out.keep bel3)
      replace hX := W_hid (hX.out.keep bel3)
      have hY := W_hid (RL_own hown3)
      replace bb := bb.trans (bel3.mono bb.size)
      clear bel3 hown3 hP2 hQ2
      go_wp2_with fail
      refine (h3.out _ _ _ _ hL.out).mono ?_
      rintro e w4 ⟨a4, c4, rfl, hown4, bel4⟩
      have hP4 : RB w4 w.heap.size ⟨f, t, p, s⟩ := hP3.keep bel4
      have hQ4 : RB w4 (w.heap.size + 1) ⟨f', t', p', s'⟩ := hQ3.keep bel4
      obtain ⟨u0, u1, u2, u3⟩ := RB.re hP4
      obtain ⟨v0, v1, v2, v3⟩ := RB.re hQ4
      replace hL := W_hid (hL.out.keep bel4)
      replace hX := W_hid (hX.out.keep bel4)
      replace hY := W_hid (hY.out.keep bel4)
      have hZ := W_hid (RL_own hown4)
      replace bb := bb.trans (bel4.mono bb.size)
      clear bel4 hown4 hP3 hQ3
      go_wp2_with fail
      refine (h4.out _ _ _ _ hZ.out).mono ?_
      rintro e w5 ⟨a5, c5, rfl, hown5, bel5⟩
      have hP5 : RB w5 w.heap.size ⟨f, t, p, s⟩ := hP4.keep bel5
      have hQ5 : RB w5 (w.heap.size + 1) ⟨f', t', p', s'⟩ := hQ4.keep bel5
      obtain ⟨u0, u1, u2, u3⟩ := RB.re hP5
      obtain ⟨v0, v1, v2, v3⟩ := RB.re hQ5
      replace hL := W_hid (hL.out.keep bel5)
      replace hX := W_hid (hX.out.keep bel5)
      replace hY := W_hid (hY.out.keep bel5)
      replace hZ := W_hid (hZ.out.keep bel5)
      have hW := W_hid (RL_own hown5)
      replace bb := bb.trans (bel5.mono bb.size)
      clear bel5 hown5 hP4 hQ4
      go_wp2_with fail
      have hSS := hS.out _ _ _ _ _ _ _ _ hY.out.1 hW.out.1
      refine hSS.mono ?_
      rintro e w6 ⟨rfl, bel6⟩
      go_wp2_with fail
      go_ret
      exact ⟨rfl, bb.trans (bel6.mono bb.size)⟩
    · have hn : Hid (E3 = 0 → E4 = 0 → False) := fun k3 k4 => hE2 (hord2.out k3 k4).2.1
      have q2 : (E2 == 0) = false := by simpa using hE2
      have q2x : (E2 != 0) = true := by simpa using hE2
      subst hE1
      clear hord hord2 hE2
      by_cases hE3 : E3 = 0
      · have q4n : E4 ≠ 0 := fun k => hn.out hE3 k
        have q4 : (E4 == 0) = false := by simpa using q4n
        have q4x : (E4 != 0) = true := by simpa using q4n
        clear q4n
        subst hE3
        clear hn
        go_enter Try.func10, Try.ntmps10
        go_wp2_with fail
        refine (shown_any _).mono ?_
        rintro e w1 ⟨rfl, bel1⟩
        have hP1 : RB w1 w.heap.size ⟨f, t, p, s⟩ := hP0.keep bel1
        have hQ1 : RB w1 (w.heap.size + 1) ⟨f', t', p', s'⟩ := hQ0.keep bel1
        obtain ⟨u0, u1, u2, u3⟩ := RB.re hP1
        obtain ⟨v0, v1, v2, v3⟩ := RB.re hQ1
        replace hL := W_hid (hL.out.keep bel1)
        replace bb := bb.trans (bel1.mono bb.size)
        clear bel1 hP0 hQ0
        go_wp2_with fail
        refine (h1.out _ _ _ _ hL.out).mono ?_
        rintro e w2 ⟨a2, c2, rfl, hown2, bel2⟩
        have hP2 : RB w2 w.heap.size ⟨f, t, p, s⟩ := hP1.keep bel2
        have hQ2 : RB w2 (w.heap.size + 1) ⟨f', t', p', s'⟩ := hQ1.keep bel2
        obtain ⟨u0, u1, u2, u3⟩ := RB.re hP2
        obtain ⟨v0, v1, v2, v3⟩ := RB.re hQ2
        replace hL := W_hid (hL.out.keep bel2)
        have hX := W_hid (RL_own hown2)
        replace bb := bb.trans (bel2.mono bb.size)
        clear bel2 hown2 hP1 hQ1
        go_wp2_with fail
        refine (h2.out _ _ _ _ hX.out).mono ?_
        rintro e w3 ⟨a3, c3, rfl, hown3, bel3⟩
        have hP3 : RB w3 w.heap.size ⟨f, t, p, s⟩ := hP2.keep bel3
        have hQ3 : RB w3 (w.heap.size + 1) ⟨f', t', p', s'⟩ := hQ2.keep bel3
        obtain ⟨u0, u1, u2, u3⟩ := RB.re hP3
        obtain ⟨v0, v1, v2, v3⟩ := RB.re hQ3
        replace hL := W_hid (hL.out.keep bel3)
        replace hX := W_hid (hX.out.keep bel3)
        have hY := W_hid (RL_own hown3)
        replace bb := bb.trans (bel3.mono bb.size)
        clear bel3 hown3 hP2 hQ2
        go_wp2_with fail
        refine (h3.out _ _ _ _ hL.out).mono ?_
        rintro e w4 ⟨a4, c4, rfl, hown4, bel4⟩
        have hP4 : RB w4 w.heap.size ⟨f, t, p, s⟩ := hP3.keep bel4
        have hQ4 : RB w4 (w.heap.size + 1) ⟨f', t', p', s'⟩ := hQ3.keep bel4
        obtain ⟨u0, u1, u2, u3⟩ := RB.re hP4
        obtain ⟨v0, v1, v2, v3⟩ := RB.re hQ4
        replace hL := W_hid (hL.out.keep bel4)
        replace hX := W_hid (hX.out.keep bel4)
        replace hY := W_hid (hY.out.keep bel4)
        have hZ := W_hid (RL_own hown4)
        replace bb := bb.trans (bel4.mono bb.size)
        clear bel4 hown4 hP3 hQ3
        go_wp2_with fail
        refine (h4.out _ _ _ _ hZ.out).mono ?_
        rintro e w5 ⟨a5, c5, rfl, hown5, bel5⟩
        have hP5 : RB w5 w.heap.size ⟨f, t, p, s⟩ := hP4.keep bel5
        have hQ5 : RB w5 (w.heap.size + 1) ⟨f', t', p', s'⟩ := hQ4.keep bel5
        obtain ⟨u0, u1, u2, u3⟩ := RB.re hP5
        obtain ⟨v0, v1, v2, v3⟩ := RB.re hQ5
        replace hL := W_hid (hL.out.keep bel5)
        replace hX := W_hid (hX.out.keep bel5)
        replace hY := W_hid (hY.out.keep bel5)
        replace hZ := W_hid (hZ.out.keep bel5)
        have hW := W_hid (RL_own hown5)
        replace bb := bb.trans (bel5.mono bb.size)
        clear bel5 hown5 hP4 hQ4
        go_wp2_with fail
        go_ret
        exact ⟨rfl, bb⟩
      · have q3 : (E3 == 0) = false := by simpa using hE3
        have q3x : (E3 != 0) = true := by simpa using hE3
        clear hn hE3
        go_enter Try.func10, Try.ntmps10
        go_wp2_with fail
        refine (shown_any _).mono ?_
        rintro e w1 ⟨rfl, bel1⟩
        have hP1 : RB w1 w.heap.size ⟨f, t, p, s⟩ := hP0.keep bel1
        have hQ1 : RB w1 (w.heap.size + 1) ⟨f', t', p', s'⟩ := hQ0.keep bel1
        obtain ⟨u0, u1, u2, u3⟩ := RB.re hP1
        obtain ⟨v0, v1, v2, v3⟩ := RB.re hQ1
        replace hL := W_hid (hL.out.keep bel1)
        replace bb := bb.trans (bel1.mono bb.size)
        clear bel1 hP0 hQ0
        go_wp2_with fail
        refine (h1.out _ _ _ _ hL.out).mono ?_
        rintro e w2 ⟨a2, c2, rfl, hown2, bel2⟩
        have hP2 : RB w2 w.heap.size ⟨f, t, p, s⟩ := hP1.keep bel2
        have hQ2 : RB w2 (w.heap.size + 1) ⟨f', t', p', s'⟩ := hQ1.keep bel2
        obtain ⟨u0, u1, u2, u3⟩ := RB.re hP2
        obtain ⟨v0, v1, v2, v3⟩ := RB.re hQ2
        replace hL := W_hid (hL.out.keep bel2)
        have hX := W_hid (RL_own hown2)
        replace bb := bb.trans (bel2.mono bb.size)
        clear bel2 hown2 hP1 hQ1
        go_wp2_with fail
        refine (h2.out _ _ _ _ hX.out).mono ?_
        rintro e w3 ⟨a3, c3, rfl, hown3, bel3⟩
        have hP3 : RB w3 w.heap.size ⟨f, t, p, s⟩ := hP2.keep bel3
        have hQ3 : RB w3 (w.heap.size + 1) ⟨f', t', p', s'⟩ := hQ2.keep bel3
        obtain ⟨u0, u1, u2, u3⟩ := RB.re hP3
        obtain ⟨v0, v1, v2, v3⟩ := RB.re hQ3
        replace hL := W_hid (hL.out.keep bel3)
        replace hX := W_hid (hX.out.keep bel3)
        have hY := W_hid (RL_own hown3)
        replace bb := bb.trans (bel3.mono bb.size)
        clear bel3 hown3 hP2 hQ2
        go_wp2_with fail
        refine (h3.out _ _ _ _ hL.out).mono ?_
        rintro e w4 ⟨a4, c4, rfl, hown4, bel4⟩
        have hP4 : RB w4 w.heap.size ⟨f, t, p, s⟩ := hP3.keep bel4
        have hQ4 : RB w4 (w.heap.size + 1) ⟨f', t', p', s'⟩ := hQ3.keep bel4
        obtain ⟨u0, u1, u2, u3⟩ := RB.re hP4
        obtain ⟨v0, v1, v2, v3⟩ := RB.re hQ4
        replace hL := W_hid (hL.out.keep bel4)
        replace hX := W_hid (hX.out.keep bel4)
        replace hY := W_hid (hY.out.keep bel4)
        have hZ := W_hid (RL_own hown4)
        replace bb := bb.trans (bel4.mono bb.size)
        clear bel4 hown4 hP3 hQ3
        go_wp2_with fail
        refine (h4.out _ _ _ _ hZ.out).mono ?_
        rintro e w5 ⟨a5, c5, rfl, hown5, bel5⟩
        have hP5 : RB w5 w.heap.size ⟨f, t, p, s⟩ := hP4.keep bel5
        have hQ5 : RB w5 (w.heap.size + 1) ⟨f', t', p', s'⟩ := hQ4.keep bel5
        obtain ⟨u0, u1, u2, u3⟩ := RB.re hP5
        obtain ⟨v0, v1, v2, v3⟩ := RB.re hQ5
        replace hL := W_hid (hL.out.keep bel5)
        replace hX := W_hid (hX.out.keep bel5)
        replace hY := W_hid (hY.out.keep bel5)
        replace hZ := W_hid (hZ.out.keep bel5)
        have hW := W_hid (RL_own hown5)
        replace bb := bb.trans (bel5.mono bb.size)
        clear bel5 hown5 hP4 hQ4
        go_wp2_with fail
        go_ret
        exact ⟨rfl, bb⟩
  · have hn : Hid (E3 = 0 → E4 = 0 → False) := fun k3 k4 => hE1 (hord2.out k3 k4).1
    have q1 : (E1 == 0) = false := by simpa using hE1
    have q1x : (E1 != 0) = true := by simpa using hE1
    clear hord hord2 hE1
    by_cases hE3 : E3 = 0
    · have q4n : E4 ≠ 0 := fun k => hn.out hE3 k
      have q4 : (E4 == 0) = false := by simpa using q4n
      have q4x : (E4 != 0) = true := by simpa using q4n
      clear q4n
      subst hE3
      clear hn
      go_enter Try.func10, Try.ntmps10
      go_wp2_with fail
      refine (shown_any _).mono ?_
      rintro e w1 ⟨rfl, bel1⟩
      have hP1 : RB w1 w.heap.size ⟨f, t, p, s⟩ := hP0.keep bel1
      have hQ1 : RB w1 (w.heap.size + 1) ⟨f', t', p', s'⟩ := hQ0.keep bel1
      obtain ⟨u0, u1, u2, u3⟩ := RB.re hP1
      obtain ⟨v0, v1, v2, v3⟩ := RB.re hQ1
      replace hL := W_hid (hL.out.keep bel1)
      replace bb := bb.trans (bel1.mono bb.size)
      clear bel1 hP0 hQ0
      go_wp2_with fail
      refine (h1.out _ _ _ _ hL.out).mono ?_
      rintro e w2 ⟨a2, c2, rfl, hown2, bel2⟩
      have hP2 : RB w2 w.heap.size ⟨f, t, p, s⟩ := hP1.keep bel2
      have hQ2 : RB w2 (w.heap.size + 1) ⟨f', t', p', s'⟩ := hQ1.keep bel2
      obtain ⟨u0, u1, u2, u3⟩ := RB.re hP2
      obtain ⟨v0, v1, v2, v3⟩ := RB.re hQ2
      replace hL := W_hid (hL.out.keep bel2)
      have hX := W_hid (RL_own hown2)
      replace bb := bb.trans (bel2.mono bb.size)
      clear bel2 hown2 hP1 hQ1
      go_wp2_with fail
      refine (h2.out _ _ _ _ hX.out).mono ?_
      rintro e w3 ⟨a3, c3, rfl, hown3, bel3⟩
      have hP3 : RB w3 w.heap.size ⟨f, t, p, s⟩ := hP2.keep bel3
      have hQ3 : RB w3 (w.heap.size + 1) ⟨f', t', p', s'⟩ := hQ2.keep bel3
      obtain ⟨u0, u1, u2, u3⟩ := RB.re hP3
      obtain ⟨v0, v1, v2, v3⟩ := RB.re hQ3
      replace hL := W_hid (hL.out.keep bel3)
      replace hX := W_hid (hX.out.keep bel3)
      have hY := W_hid (RL_own hown3)
      replace bb := bb.trans (bel3.mono bb.size)
      clear bel3 hown3 hP2 hQ2
      go_wp2_with fail
      refine (h3.out _ _ _ _ hL.out).mono ?_
      rintro e w4 ⟨a4, c4, rfl, hown4, bel4⟩
      have hP4 : RB w4 w.heap.size ⟨f, t, p, s⟩ := hP3.keep bel4
      have hQ4 : RB w4 (w.heap.size + 1) ⟨f', t', p', s'⟩ := hQ3.keep bel4
      obtain ⟨u0, u1, u2, u3⟩ := RB.re hP4
      obtain ⟨v0, v1, v2, v3⟩ := RB.re hQ4
      replace hL := W_hid (hL.out.keep bel4)
      replace hX := W_hid (hX.out.keep bel4)
      replace hY := W_hid (hY.out.keep bel4)
      have hZ := W_hid (RL_own hown4)
      replace bb := bb.trans (bel4.mono bb.size)
      clear bel4 hown4 hP3 hQ3
      go_wp2_with fail
      refine (h4.out _ _ _ _ hZ.out).mono ?_
      rintro e w5 ⟨a5, c5, rfl, hown5, bel5⟩
      have hP5 : RB w5 w.heap.size ⟨f, t, p, s⟩ := hP4.keep bel5
      have hQ5 : RB w5 (w.heap.size + 1) ⟨f', t', p', s'⟩ := hQ4.keep bel5
      obtain ⟨u0, u1, u2, u3⟩ := RB.re hP5
      obtain ⟨v0, v1, v2, v3⟩ := RB.re hQ5
      replace hL := W_hid (hL.out.keep bel5)
      replace hX := W_hid (hX.out.keep bel5)
      replace hY := W_hid (hY.out.keep bel5)
      replace hZ := W_hid (hZ.out.keep bel5)
      have hW := W_hid (RL_own hown5)
      replace bb := bb.trans (bel5.mono bb.size)
      clear bel5 hown5 hP4 hQ4
      go_wp2_with fail
      go_ret
      exact ⟨rfl, bb⟩
    · have q3 : (E3 == 0) = false := by simpa using hE3
      have q3x : (E3 != 0) = true := by simpa using hE3
      clear hn hE3
      go_enter Try.func10, Try.ntmps10
      go_wp2_with fail
      refine (shown_any _).mono ?_
      rintro e w1 ⟨rfl, bel1⟩
      have hP1 : RB w1 w.heap.size ⟨f, t, p, s⟩ := hP0.keep bel1
      have hQ1 : RB w1 (w.heap.size + 1) ⟨f', t', p', s'⟩ := hQ0.keep bel1
      obtain ⟨u0, u1, u2, u3⟩ := RB.re hP1
      obtain ⟨v0, v1, v2, v3⟩ := RB.re hQ1
      replace hL := W_hid (hL.out.keep bel1)
      replace bb := bb.trans (bel1.mono bb.size)
      clear bel1 hP0 hQ0
      go_wp2_with fail
      refine (h1.out _ _ _ _ hL.out).mono ?_
      rintro e w2 ⟨a2, c2, rfl, hown2, bel2⟩
      have hP2 : RB w2 w.heap.size ⟨f, t, p, s⟩ := hP1.keep bel2
      have hQ2 : RB w2 (w.heap.size + 1) ⟨f', t', p', s'⟩ := hQ1.keep bel2
      obtain ⟨u0, u1, u2, u3⟩ := RB.re hP2
      obtain ⟨v0, v1, v2, v3⟩ := RB.re hQ2
      replace hL := W_hid (hL.out.keep bel2)
      have hX := W_hid (RL_own hown2)
      replace bb := bb.trans (bel2.mono bb.size)
      clear bel2 hown2 hP1 hQ1
      go_wp2_with fail
      refine (h2.out _ _ _ _ hX.out).mono ?_
      rintro e w3 ⟨a3, c3, rfl, hown3, bel3⟩
      have hP3 : RB w3 w.heap.size ⟨f, t, p, s⟩ := hP2.keep bel3
      have hQ3 : RB w3 (w.heap.size + 1) ⟨f', t', p', s'⟩ := hQ2.keep bel3
      obtain ⟨u0, u1, u2, u3⟩ := RB.re hP3
      obtain ⟨v0, v1, v2, v3⟩ := RB.re hQ3
      replace hL := W_hid (hL.out.keep bel3)
      replace hX := W_hid (hX.out.keep bel3)
      have hY := W_hid (RL_own hown3)
      replace bb := bb.trans (bel3.mono bb.size)
      clear bel3 hown3 hP2 hQ2
      go_wp2_with fail
      refine (h3.out _ _ _ _ hL.out).mono ?_
      rintro e w4 ⟨a4, c4, rfl, hown4, bel4⟩
      have hP4 : RB w4 w.heap.size ⟨f, t, p, s⟩ := hP3.keep bel4
      have hQ4 : RB w4 (w.heap.size + 1) ⟨f', t', p', s'⟩ := hQ3.keep bel4
      obtain ⟨u0, u1, u2, u3⟩ := RB.re hP4
      obtain ⟨v0, v1, v2, v3⟩ := RB.re hQ4
      replace hL := W_hid (hL.out.keep bel4)
      replace hX := W_hid (hX.out.keep bel4)
      replace hY := W_hid (hY.out.keep bel4)
      have hZ := W_hid (RL_own hown4)
      replace bb := bb.trans (bel4.mono bb.size)
      clear bel4 hown4 hP3 hQ3
      go_wp2_with fail
      refine (h4.out _ _ _ _ hZ.out).mono ?_
      rintro e w5 ⟨a5, c5, rfl, hown5, bel5⟩
      have hP5 : RB w5 w.heap.size ⟨f, t, p, s⟩ := hP4.keep bel5
      have hQ5 : RB w5 (w.heap.size + 1) ⟨f', t', p', s'⟩ := hQ4.keep bel5
      obtain ⟨u0, u1, u2, u3⟩ := RB.re hP5
      obtain ⟨v0, v1, v2, v3⟩ := RB.re hQ5
      replace hL := W_hid (hL.out.keep bel5)
      replace hX := W_hid (hX.out.keep bel5)
      replace hY := W_hid (hY.out.keep bel5)
      replace hZ := W_hid (hZ.out.keep bel5)
      have hW := W_hid (RL_own hown5)
      replace bb := bb.trans (bel5.mono bb.size)
      clear bel5 hown5 hP4 hQ4
      go_wp2_with fail
      go_ret
      exact ⟨rfl, bb⟩

set_option maxRecDepth 100000 in
theorem RegionOrder_lifted (os : Os) (started : os.Started) (H : Type) (enc : TypeId × Value → H) :
    ReturnsInHanded {} Try.checked os 10 .any (Rows.regionOrderSpec.pre6 enc Try.prog Try.f10 Rows.regionOrderRow.domain false) (Rows.regionOrderSpec.post enc Try.prog Try.f10 false true false false) := by
  refine returnsInHanded_of_change (C := Try.checked) (by kernel_rfl) started (by kernel_rfl) Try.func10
    (ChangeSpec.witness6 (enc := enc) (C := Try.checked) false ⟨#[], #[.slice none 0 0, .agg #[.int .u64 0, .int .u64 0, .int .i64 0, .int .i64 0], .agg #[.int .u64 0, .int .u64 0, .int .i64 0, .int .i64 0]], []⟩ 8 (by kernel_rfl) (by kernel_rfl) (by kernel_rfl) (by kernel_rfl)) ?_
  intro W base args ds gs before hval0 hW hcnd _
  have hval : ∀ (j : Nat) t v, Try.f10.params[j]? = some t → args[j]? = some v → Value.okWide Try.prog W .any base t v := hval0
  have hW' := hW
  obtain ⟨p, q, hA0, hV, rfl, hfz, hnd⟩ := hW
  have hA : DataW.TrodAll enc Try.prog W 0 (fun _ => true) true Try.f10.params.toList args.toList ds p := hA0
  rw [Try.params10] at hA hval
  obtain ⟨v0, vs0, d0, ds0, p0, q0, hargs, rfl, rfl, h0, r0⟩ := trodAll_cons hA
  obtain ⟨v1, vs1, d1, ds1, p1, q1, rfl, rfl, rfl, h1, r1⟩ := trodAll_cons r0
  obtain ⟨v2, vs2, d2, ds2, p2, q2, rfl, rfl, rfl, h2, r2⟩ := trodAll_cons r1
  obtain ⟨rfl, rfl, rfl⟩ := trodAll_nil r2
  obtain rfl : args = #[v0, v1, v2] := by cases args; simp_all
  obtain ⟨rfl, rfl⟩ := trodVars_none hV
  have k0 := h0
  have lt0 : ∀ x ∈ p0, x.block < W.heap.size := by obtain ⟨m, hm⟩ := k0; exact DataW.trod_lt m _ _ _ hm
  obtain ⟨o0, n0, c0, l0, rfl, w0⟩ := open_regions (hval 0 22 v0 rfl rfl) h0
  have k1 := h1
  have lt1 : ∀ x ∈ p1, x.block < W.heap.size := by obtain ⟨m, hm⟩ := k1; exact DataW.trod_lt m _ _ _ hm
  obtain ⟨a1, b1, c1, d1, rfl, w1⟩ := open_region (hval 1 25 v1 rfl rfl) h1
  have k2 := h2
  have lt2 : ∀ x ∈ p2, x.block < W.heap.size := by obtain ⟨m, hm⟩ := k2; exact DataW.trod_lt m _ _ _ hm
  obtain ⟨a2, b2, c2, d2, rfl, w2⟩ := open_region (hval 2 25 v2 rfl rfl) h2
  clear hA0 hval0
  refine (RegionOrder_walk o0 n0 c0 l0 a1 b1 c1 d1 a2 b2 c2 d2 W w0 w1 w2).mono fun e W' ⟨he, bel⟩ => ?_
  subst he
  exact ⟨_, rfl, _, _, _, [], _, [], hW', trodAll_mk1 (shut_bool Try.underlying4 _), (trodAll_cons_mk (Below.trod laidOut (by kernel_rfl) (of_decide_eq_true (by kernel_rfl)) k0 bel lt0) (trodAll_cons_mk (Below.trod laidOut (by kernel_rfl) (of_decide_eq_true (by kernel_rfl)) k1 bel lt1) (trodAll_cons_mk (Below.trod laidOut (by kernel_rfl) (of_decide_eq_true (by kernel_rfl)) k2 bel lt2) trodAll_mk0))), rfl, bel.frame _, fun h => by cases h⟩

/-- The given statement of RegionOrder. -/
theorem RegionOrder_holds : Rows.RegionOrderSaid :=
  OpenClaim.holds_of_wide 10 Try.f10 rfl rfl rfl rfl rfl rfl rfl ⟨rfl, rfl, rfl, rfl, rfl⟩ rfl rfl rfl rfl rfl (by kernel_rfl) Try.func10 (by kernel_rfl)
    (of_decide_eq_true (by kernel_rfl)) (by unfold Func.isWrapper; first | (rw [if_pos (by decide +kernel)]; kernel_rfl) | (rw [if_neg (by decide +kernel)]; exact ⟨rfl, rfl⟩))
    (fun os started H enc _ => RegionOrder_lifted os started H enc)

set_option maxRecDepth 100000 in
set_option maxHeartbeats 4000000 in
theorem RegionPieces_walk (o0 : Option Addr) (n0 c0 : Nat) (l0 : List Rg) (a1 a2 a3 : Int) (w : World) (w0 : RI w o0 n0 c0 l0) (w1 : (Lit.int .u64 a1).wf = true) (w2 : (Lit.int .u64 a2).wf = true) (w3 : (Lit.int .u64 a3).wf = true) :
    Calls Try.prog 9 #[.slice o0 n0 c0, .int .u64 a1, .int .u64 a2, .int .u64 a3] w fun e w' => e = .returned (.bool true) ∧ Below w.heap.size w w' := by
  obtain ⟨x, rfl⟩ : ∃ x : Nat, a1 = x := ⟨a1.toNat, by have := bounds_u64 w1; omega⟩
  obtain ⟨y, rfl⟩ : ∃ x : Nat, a2 = x := ⟨a2.toNat, by have := bounds_u64 w2; omega⟩
  obtain ⟨z, rfl⟩ : ∃ x : Nat, a3 = x := ⟨a3.toNat, by have := bounds_u64 w3; omega⟩
  have hL := W_hid w0.1
  have hpc := W_hid (fun (h1 : ctE l0 x z = 0) (h2 : ctE l0 x y = 0) (h3 : ctE (ctL l0 x y) y z = 0) => reg_pieces h1 h2 h3)
  have h1 := W_hid (fun w ao n c h => Cut_any ao n c l0 x z w h)
  have h2 := W_hid (fun w ao n c h => Cut_any ao n c l0 x y w h)
  have h3 := W_hid (fun w ao n c h => Cut_any ao n c (ctL l0 x y) y z w h)
  have k1 := W_hid (ctO_ok l0 x z)
  have k2 := W_hid (ctO_ok l0 x y)
  have k3 := W_hid (ctO_ok (ctL l0 x y) y z)
  have hS : Hid (∀ w x1 n1 c1 x2 n2 c2 L, RS w x1 n1 c1 L → RS w x2 n2 c2 L → Gv 15 #[.slice x1 n1 c1, .slice x2 n2 c2] (.bool true) w) := by
    intro w x1 n1 c1 x2 n2 c2 L h1 h2
    have := RSame_any x1 x2 n1 c1 n2 c2 L L w h1 h2
    rwa [decide_eq_true rfl] at this
  have hz : Hid (∀ w ao n c L, RG.Ok true none L → RS w ao n c L → Gv 24 #[.slice ao n c] (.int .u64 ((RG.Sz L : Nat) : Int)) w) := by
    intro w ao n c L hk hr
    refine RSize_any ao n c L w hr (fun r hr => ?_) ?_
    · have := (hk.good_of r hr).1
      have h1 := this.2.2.1
      have h2 := this.2.2.2
      omega
    · have := RG.Sz_top hk
      omega
  have m1 := W_hid (RG.Sz_top k1.out)
  have m2 := W_hid (RG.Sz_top k2.out)
  have m3 := W_hid (RG.Sz_top k3.out)
  generalize ctL (ctL l0 x y) y z = N at *
  generalize ctO (ctL l0 x y) y z = Q at *
  generalize ctE (ctL l0 x y) y z = E3 at *
  generalize ctL l0 x y = M at *
  generalize ctO l0 x y = P at *
  generalize ctE l0 x y = E2 at *
  generalize ctL l0 x z = A at *
  generalize ctO l0 x z = O at *
  generalize ctE l0 x z = E1 at *
  clear w0 w1 w2 w3
  by_cases hE1 : E1 = 0
  · by_cases hE2 : E2 = 0
    · by_cases hE3 : E3 = 0
      · obtain ⟨j1, j2⟩ := hpc.out hE1 hE2 hE3
        subst hE1 hE2 hE3 j1
        replace j2 := W_hid j2
        clear hpc
        go_enter Try.func9, Try.ntmps9
        go_wp2_with fail
        refine (shown_any _).mono ?_
        rintro e w1 ⟨rfl, bb⟩
        replace hL := W_hid (hL.out.keep bb)
        go_wp2_with fail
        refine (h1.out _ _ _ _ hL.out).mono ?_
        rintro e w2 ⟨a2, c2, d2, e2, B2, rfl, hown2, hlt2, hB2, hownb2, bel2⟩
        replace hL := W_hid (hL.out.keep bel2)
        have hR2 := W_hid (RL_own hown2)
        have hO2 := W_hid (RL_own hownb2)
        replace bb := bb.trans (bel2.mono bb.size)
        clear bel2 hown2 hownb2 hlt2 hB2
        go_wp2_with fail
        refine (h2.out _ _ _ _ hL.out).mono ?_
        rintro e w3 ⟨a3, c3, d3, e3, B3, rfl, hown3, hlt3, hB3, hownb3, bel3⟩
        replace hL := W_hid (hL.out.keep bel3)
        replace hR2 := W_hid (hR2.out.keep bel3)
        replace hO2 := W_hid (hO2.out.keep bel3)
        have hR3 := W_hid (RL_own hown3)
        have hO3 := W_hid (RL_own hownb3)
        replace bb := bb.trans (bel3.mono bb.size)
        clear bel3 hown3 hownb3 hlt3 hB3
        go_wp2_with fail
        refine (h3.out _ _ _ _ hR3.out).mono ?_
        rintro e w4 ⟨a4, c4, d4, e4, B4, rfl, hown4, hlt4, hB4, hownb4, bel4⟩
        replace hL := W_hid (hL.out.keep bel4)
        replace hR2 := W_hid (hR2.out.keep bel4)
        replace hO2 := W_hid (hO2.out.keep bel4)
        replace hR3 := W_hid (hR3.out.keep bel4)
        replace hO3 := W_hid (hO3.out.keep bel4)
        have hR4 := W_hid (RL_own hown4)
        have hO4 := W_hid (RL_own hownb4)
        replace bb := bb.trans (bel4.mono bb.size)
        clear bel4 hown4 hownb4 hlt4 hB4
        go_wp2_with fail
        have hSS := hS.out _ _ _ _ _ _ _ _ hR2.out.1 hR4.out.1
        refine hSS.mono ?_
        rintro e w6 ⟨rfl, bel6⟩
        replace hO2 := W_hid (hO2.out.keep bel6)
        replace hO3 := W_hid (hO3.out.keep bel6)
        replace hO4 := W_hid (hO4.out.keep bel6)
        replace bb := bb.trans (bel6.mono bb.size)
        clear bel6 hSS
        obtain ⟨z1, hz1⟩ : ∃ z, RG.Sz O = z := ⟨_, rfl⟩
        obtain ⟨z2, hz2⟩ : ∃ z, RG.Sz P = z := ⟨_, rfl⟩
        obtain ⟨z3, hz3⟩ : ∃ z, RG.Sz Q = z := ⟨_, rfl⟩
        have g1 := W_hid (fun w ao n c h => hz.out w ao n c O k1.out h)
        have g2 := W_hid (fun w ao n c h => hz.out w ao n c P k2.out h)
        have g3 := W_hid (fun w ao n c h => hz.out w ao n c Q k3.out h)
        rw [hz1] at g1 j2 m1
        rw [hz2] at g2 j2 m2
        rw [hz3] at g3 j2 m3
        have e1 : z1 = z2 + z3 := j2.out
        have e2 := m2.out
        have e3 := m3.out
        subst e1
        clear hz1 hz2 hz3 hz k1 k2 k3 j2 m1
        go_wp2_with fail
        refine (g1.out _ _ _ _ hO2.out.1).mono ?_
        rintro e w7 ⟨rfl, bel7⟩
        replace hO3 := W_hid (hO3.out.keep bel7)
        replace hO4 := W_hid (hO4.out.keep bel7)
        replace bb := bb.trans (bel7.mono bb.size)
        clear bel7
        go_wp2_with fail
        refine (g2.out _ _ _ _ hO3.out.1).mono ?_
        rintro e w8 ⟨rfl, bel8⟩
        replace hO4 := W_hid (hO4.out.keep bel8)
        replace bb := bb.trans (bel8.mono bb.size)
        clear bel8
        go_wp2_with fail
        refine (g3.out _ _ _ _ hO4.out.1).mono ?_
        rintro e w9 ⟨rfl, bel9⟩
        go_wp2_with fail
        go_ret
        exact ⟨rfl, bb.trans (bel9.mono bb.size)⟩
      · have q3 : (E3 == 0) = false := by simpa using hE3
        have q3x : (E3 != 0) = true := by simpa using hE3
        subst hE1 hE2
        clear hpc hE3
        go_enter Try.func9, Try.ntmps9
        go_wp2_with fail
        refine (shown_any _).mono ?_
        rintro e w1 ⟨rfl, bb⟩
        replace hL := W_hid (hL.out.keep bb)
        go_wp2_with fail
        refine (h1.out _ _ _ _ hL.out).mono ?_
        rintro e w2 ⟨a2, c2, d2, e2, B2, rfl, hown2, hlt2, hB2, hownb2, bel2⟩
        replace hL := W_hid (hL.out.keep bel2)
        have hR2 := W_hid (RL_own hown2)
        have hO2 := W_hid (RL_own hownb2)
        replace bb := bb.trans (bel2.mono bb.size)
        clear bel2 hown2 hownb2 hlt2 hB2
        go_wp2_with fail
        refine (h2.out _ _ _ _ hL.out).mono ?_
        rintro e w3 ⟨a3, c3, d3, e3, B3, rfl, hown3, hlt3, hB3, hownb3, bel3⟩
        replace hL := W_hid (hL.out.keep bel3)
        replace hR2 := W_hid (hR2.out.keep bel3)
        replace hO2 := W_hid (hO2.out.keep bel3)
        have hR3 := W_hid (RL_own hown3)
        have hO3 := W_hid (RL_own hownb3)
        replace bb := bb.trans (bel3.mono bb.size)
        clear bel3 hown3 hownb3 hlt3 hB3
        go_wp2_with fail
        refine (h3.out _ _ _ _ hR3.out).mono ?_
        rintro e w4 ⟨a4, c4, d4, e4, B4, rfl, hown4, hlt4, hB4, hownb4, bel4⟩
        replace hL := W_hid (hL.out.keep bel4)
        replace hR2 := W_hid (hR2.out.keep bel4)
        replace hO2 := W_hid (hO2.out.keep bel4)
        replace hR3 := W_hid (hR3.out.keep bel4)
        replace hO3 := W_hid (hO3.out.keep bel4)
        have hR4 := W_hid (RL_own hown4)
        have hO4 := W_hid (RL_own hownb4)
        replace bb := bb.trans (bel4.mono bb.size)
        clear bel4 hown4 hownb4 hlt4 hB4
        go_wp2_with fail
        go_ret
        exact ⟨rfl, bb⟩
    · have q2 : (E2 == 0) = false := by simpa using hE2
      have q2x : (E2 != 0) = true := by simpa using hE2
      subst hE1
      clear hpc hE2
      go_enter Try.func9, Try.ntmps9
      go_wp2_with fail
      refine (shown_any _).mono ?_
      rintro e w1 ⟨rfl, bb⟩
      replace hL := W_hid (hL.out.keep bb)
      go_wp2_with fail
      refine (h1.out _ _ _ _ hL.out).mono ?_
      rintro e w2 ⟨a2, c2, d2, e2, B2, rfl, hown2, hlt2, hB2, hownb2, bel2⟩
      replace hL := W_hid (hL.out.keep bel2)
      have hR2 := W_hid (RL_own hown2)
      have hO2 := W_hid (RL_own hownb2)
      replace bb := bb.trans (bel2.mono bb.size)
      clear bel2 hown2 hownb2 hlt2 hB2
      go_wp2_with fail
      refine (h2.out _ _ _ _ hL.out).mono ?_
      rintro e w3 ⟨a3, c3, d3, e3, B3, rfl, hown3, hlt3, hB3, hownb3, bel3⟩
      replace hL := W_hid (hL.out.keep bel3)
      replace hR2 := W_hid (hR2.out.keep bel3)
      replace hO2 := W_hid (hO2.out.keep bel3)
      have hR3 := W_hid (RL_own hown3)
      have hO3 := W_hid (RL_own hownb3)
      replace bb := bb.trans (bel3.mono bb.size)
      clear bel3 hown3 hownb3 hlt3 hB3
      go_wp2_with fail
      refine (h3.out _ _ _ _ hR3.out).mono ?_
      rintro e w4 ⟨a4, c4, d4, e4, B4, rfl, hown4, hlt4, hB4, hownb4, bel4⟩
      replace hL := W_hid (hL.out.keep bel4)
      replace hR2 := W_hid (hR2.out.keep bel4)
      replace hO2 := W_hid (hO2.out.keep bel4)
      replace hR3 := W_hid (hR3.out.keep bel4)
      replace hO3 := W_hid (hO3.out.keep bel4)
      have hR4 := W_hid (RL_own hown4)
      have hO4 := W_hid (RL_own hownb4)
      replace bb := bb.trans (bel4.mono bb.size)
      clear bel4 hown4 hownb4 hlt4 hB4
      go_wp2_with fail
      go_ret
      exact ⟨rfl, bb⟩
  · have q1 : (E1 == 0) = false := by simpa using hE1
    have q1x : (E1 != 0) = true := by simpa using hE1
    clear hpc hE1
    go_enter Try.func9, Try.ntmps9
    go_wp2_with fail
    refine (shown_any _).mono ?_
    rintro e w1 ⟨rfl, bb⟩
    replace hL := W_hid (hL.out.keep bb)
    go_wp2_with fail
    refine (h1.out _ _ _ _ hL.out).mono ?_
    rintro e w2 ⟨a2, c2, d2, e2, B2, rfl, hown2, hlt2, hB2, hownb2, bel2⟩
    replace hL := W_hid (hL.out.keep bel2)
    have hR2 := W_hid (RL_own hown2)
    have hO2 := W_hid (RL_own hownb2)
    replace bb := bb.trans (bel2.mono bb.size)
    clear bel2 hown2 hownb2 hlt2 hB2
    go_wp2_with fail
    refine (h2.out _ _ _ _ hL.out).mono ?_
    rintro e w3 ⟨a3, c3, d3, e3, B3, rfl, hown3, hlt3, hB3, hownb3, bel3⟩
    replace hL := W_hid (hL.out.keep bel3)
    replace hR2 := W_hid (hR2.out.keep bel3)
    replace hO2 := W_hid (hO2.out.keep bel3)
    have hR3 := W_hid (RL_own hown3)
    have hO3 := W_hid (RL_own hownb3)
    replace bb := bb.trans (bel3.mono bb.size)
    clear bel3 hown3 hownb3 hlt3 hB3
    go_wp2_with fail
    refine (h3.out _ _ _ _ hR3.out).mono ?_
    rintro e w4 ⟨a4, c4, d4, e4, B4, rfl, hown4, hlt4, hB4, hownb4, bel4⟩
    replace hL := W_hid (hL.out.keep bel4)
    replace hR2 := W_hid (hR2.out.keep bel4)
    replace hO2 := W_hid (hO2.out.keep bel4)
    replace hR3 := W_hid (hR3.out.keep bel4)
    replace hO3 := W_hid (hO3.out.keep bel4)
    have hR4 := W_hid (RL_own hown4)
    have hO4 := W_hid (RL_own hownb4)
    replace bb := bb.trans (bel4.mono bb.size)
    clear bel4 hown4 hownb4 hlt4 hB4
    go_wp2_with fail
    go_ret
    exact ⟨rfl, bb⟩

set_option maxRecDepth 100000 in
theorem RegionPieces_lifted (os : Os) (started : os.Started) (H : Type) (enc : TypeId × Value → H) :
    ReturnsInHanded {} Try.checked os 9 .any (Rows.regionPiecesSpec.pre6 enc Try.prog Try.f9 Rows.regionPiecesRow.domain false) (Rows.regionPiecesSpec.post enc Try.prog Try.f9 false true false false) := by
  refine returnsInHanded_of_change (C := Try.checked) (by kernel_rfl) started (by kernel_rfl) Try.func9
    (ChangeSpec.witness6 (enc := enc) (C := Try.checked) false ⟨#[], #[.slice none 0 0, .int .u64 0, .int .u64 0, .int .u64 0], []⟩ 8 (by kernel_rfl) (by kernel_rfl) (by kernel_rfl) (by kernel_rfl)) ?_
  intro W base args ds gs before hval0 hW hcnd _
  have hval : ∀ (j : Nat) t v, Try.f9.params[j]? = some t → args[j]? = some v → Value.okWide Try.prog W .any base t v := hval0
  have hW' := hW
  obtain ⟨p, q, hA0, hV, rfl, hfz, hnd⟩ := hW
  have hA : DataW.TrodAll enc Try.prog W 0 (fun _ => true) true Try.f9.params.toList args.toList ds p := hA0
  rw [Try.params9] at hA hval
  obtain ⟨v0, vs0, d0, ds0, p0, q0, hargs, rfl, rfl, h0, r0⟩ := trodAll_cons hA
  obtain ⟨v1, vs1, d1, ds1, p1, q1, rfl, rfl, rfl, h1, r1⟩ := trodAll_cons r0
  obtain ⟨v2, vs2, d2, ds2, p2, q2, rfl, rfl, rfl, h2, r2⟩ := trodAll_cons r1
  obtain ⟨v3, vs3, d3, ds3, p3, q3, rfl, rfl, rfl, h3, r3⟩ := trodAll_cons r2
  obtain ⟨rfl, rfl, rfl⟩ := trodAll_nil r3
  obtain rfl : args = #[v0, v1, v2, v3] := by cases args; simp_all
  obtain ⟨rfl, rfl⟩ := trodVars_none hV
  have k0 := h0
  have lt0 : ∀ x ∈ p0, x.block < W.heap.size := by obtain ⟨m, hm⟩ := k0; exact DataW.trod_lt m _ _ _ hm
  obtain ⟨o0, n0, c0, l0, rfl, w0⟩ := open_regions (hval 0 22 v0 rfl rfl) h0
  obtain ⟨a1, rfl, rfl, rfl, w1⟩ := open_int Try.underlying23 (hval 1 23 v1 rfl rfl) h1
  obtain ⟨a2, rfl, rfl, rfl, w2⟩ := open_int Try.underlying23 (hval 2 23 v2 rfl rfl) h2
  obtain ⟨a3, rfl, rfl, rfl, w3⟩ := open_int Try.underlying23 (hval 3 23 v3 rfl rfl) h3
  clear hA0 hval0
  refine (RegionPieces_walk o0 n0 c0 l0 a1 a2 a3 W w0 w1 w2 w3).mono fun e W' ⟨he, bel⟩ => ?_
  subst he
  exact ⟨_, rfl, _, _, _, [], _, [], hW', trodAll_mk1 (shut_bool Try.underlying4 _), (trodAll_cons_mk (Below.trod laidOut (by kernel_rfl) (of_decide_eq_true (by kernel_rfl)) k0 bel lt0) (trodAll_cons_mk (shut_int Try.underlying23 w1) (trodAll_cons_mk (shut_int Try.underlying23 w2) (trodAll_cons_mk (shut_int Try.underlying23 w3) trodAll_mk0)))), rfl, bel.frame _, fun h => by cases h⟩

/-- The given statement of RegionPieces. -/
theorem RegionPieces_holds : Rows.RegionPiecesSaid :=
  OpenClaim.holds_of_wide 9 Try.f9 rfl rfl rfl rfl rfl rfl rfl ⟨rfl, rfl, rfl, rfl, rfl⟩ rfl rfl rfl rfl rfl (by kernel_rfl) Try.func9 (by kernel_rfl)
    (of_decide_eq_true (by kernel_rfl)) (by unfold Func.isWrapper; first | (rw [if_pos (by decide +kernel)]; kernel_rfl) | (rw [if_neg (by decide +kernel)]; exact ⟨rfl, rfl⟩))
    (fun os started H enc _ => RegionPieces_lifted os started H enc)

end Go.Proofs.Ytjdnhiakpobooaa

/- The law ProcIdle of layer 14 (package haywardlaw14): for every input it returns true, and its arguments read as before. No further condition. -/
import Derived.Test.YtahcpimpmedbiaaLaws14b
import Derived.ChangeOld
import Derived.ShutString
namespace Go.Proofs.Ytahcpimpmedbiaa
open Go.ChangeShapes Go.WideShapes Go.ChangeAt Go.RowKit Go.Maps
set_option linter.unusedVariables false
set_option linter.unusedSimpArgs false
set_option maxRecDepth 100000
open PC
open IS (I64)
open IN (Keeps lt_of_some)
theorem open_op14 {H : Type} {enc : TypeId × Value → H} {W : World} {r : Reach} {b0 : Nat} {v : Value} {d : DataW H} {p : List MemPlace} (hv : Value.okWide Try.prog W r b0 33 v)
    (h : DataW.Trod enc Try.prog W 0 (fun _ => true) true 33 v d p) :
    ∃ (a b c : Int), v = .agg #[.int .i64 a, .int .i64 b, .int .i64 c] ∧ I64 a ∧ I64 b ∧ I64 c := by
  obtain ⟨cs, rfl, hsz⟩ := okWide_struct Try.underlying33 hv
  have hC : Try.prog.cellsOf 33 = 3 := by kernel_rfl
  rw [hC] at hsz
  obtain ⟨l, rfl⟩ : ∃ l : List Value, cs = l.toArray := ⟨cs.toList, by simp⟩
  have hlen : l.length = 3 := by simpa using hsz
  obtain ⟨fuel, hf⟩ := h
  obtain ⟨xs, k, hk, hxy, _, hxl, hff⟩ := DataW.trod_struct Try.underlying33 hf
  match xs, hxl, l, hlen with
  | [y0, y1, y2], _, [v0, v1, v2], _ =>
    have t0 : Try.prog.cellsOf 3 = 1 := by kernel_rfl
    have g0 := hff 0 _ rfl
    have g1 := hff 1 _ rfl
    have g2 := hff 2 _ rfl
    simp [t0, Value.cells] at g0 g1 g2
    obtain ⟨z0, q0, -, b0⟩ := DataW.trod_int Try.underlying3 g0
    obtain ⟨z1, q1, -, b1⟩ := DataW.trod_int Try.underlying3 g1
    obtain ⟨z2, q2, -, b2⟩ := DataW.trod_int Try.underlying3 g2
    have b0' := bounds_i64 b0
    have b1' := bounds_i64 b1
    have b2' := bounds_i64 b2
    simp at q0 q1 q2
    subst q0 q1 q2
    exact ⟨z0, z1, z2, rfl, ⟨b0'.1, b0'.2⟩, ⟨b1'.1, b1'.2⟩, ⟨b2'.1, b2'.2⟩⟩
theorem PC.kind5 (k : Int) : ((((k.tmod 5) + 5).tmod 5) = 0 ∨ (((k.tmod 5) + 5).tmod 5) = 1 ∨ (((k.tmod 5) + 5).tmod 5) = 2 ∨ (((k.tmod 5) + 5).tmod 5) = 3 ∨ (((k.tmod 5) + 5).tmod 5) = 4) ∧ -4 ≤ k.tmod 5 ∧ k.tmod 5 ≤ 4 := by
  have h1 := Int.tmod_lt_of_pos k (show (0 : Int) < 5 by decide)
  have h2 : -5 < k.tmod 5 := by
    have := Int.lt_tmod_of_pos k (show (0 : Int) < 5 by decide)
    omega
  obtain ⟨t, ht⟩ : ∃ t, k.tmod 5 = t := ⟨_, rfl⟩
  rw [ht] at h1 h2 ⊢
  have : t = -4 ∨ t = -3 ∨ t = -2 ∨ t = -1 ∨ t = 0 ∨ t = 1 ∨ t = 2 ∨ t = 3 ∨ t = 4 := by omega
  rcases this with rfl | rfl | rfl | rfl | rfl | rfl | rfl | rfl | rfl <;> decide

set_option maxRecDepth 100000 in
set_option maxHeartbeats 16000000 in
theorem ProcIdle_walk (o0 : Option Addr) (n0 c0 : Nat) (l0 : List OpT14) (a1 b1 c1 : Int) (w : World) (w0 : OS14 w o0 n0 c0 l0) (w1 : I64 a1 ∧ I64 b1 ∧ I64 c1) :
    Calls Try.prog 7 #[.slice o0 n0 c0, .agg #[.int .i64 a1, .int .i64 b1, .int .i64 c1]] w fun e w' => e = .returned (.bool true) ∧ Below w.heap.size w w' := by
  obtain ⟨-, hb1, hc1⟩ := w1
  obtain ⟨xg, hxg⟩ : ∃ xg, w.heap.size = xg := ⟨_, rfl⟩
  obtain ⟨W0, hW0⟩ : ∃ W0, w.alloc (.cells #[.int .i64 a1, .int .i64 b1, .int .i64 c1] 33) = W0 := ⟨_, rfl⟩
  have hbW : Below w.heap.size w W0 := by rw [← hW0]; exact (Below.refl _ _).alloc (Nat.le_refl _) _
  have hx0 : Blk W0 xg 33 [.int .i64 a1, .int .i64 b1, .int .i64 c1] := by rw [← hW0]; exact Blk.new w 33 [.int .i64 a1, .int .i64 b1, .int .i64 c1] hxg.symm
  have hlow : Hid (∀ w', Below W0.heap.size W0 w' → Below xg w w') := W_hid (by
    intro w' h
    rw [← hxg]
    exact hbW.trans (bel_mono h hbW.size))
  have hop := W_hid (os_keep w0 hbW)
  have cS := W_hid (shown14 W0)
  replace hbW := W_hid hbW
  replace hx0 := W_hid hx0
  clear w0
  rw [hxg]
  go_enter Try.func7, Try.ntmps7
  go_wp2_with fail
  refine cS.out.mono ?_
  rintro e w1 ⟨rfl, b1'⟩
  have cR := W_hid (ran14 o0 n0 c0 l0 w1 (os_keep hop.out b1') W0.heap.size W0 b1' b1'.size)
  clear cS b1'
  go_wp2_with fail
  refine cR.out.mono ?_
  rintro e w2 ⟨tb, L, rfl, h2, -⟩
  have hG := h2.good
  clear cR
  have cA := W_hid (by obtain ⟨X, hT, -⟩ := h2; exact All_any hT hG)
  have hlen : L.length ≤ 1024 := by have := hG.len; omega
  replace h2 := W_hid h2
  replace hG := W_hid hG
  go_wp2_with fail
  refine cA.out.mono ?_
  rintro e w3 ⟨v, rfl, hrow, b3⟩
  obtain ⟨av, cv, rfl⟩ := Own.form hrow
  have h3 : P1 W0.heap.size W0 tb 8 L (fun k => (Value.slice av L.length cv).ownBlock = some k) w3 := by
    obtain ⟨X, k1, k2, k3, k4⟩ := h2.out
    refine ⟨X, k1.keep b3, k2, fun k hk => ?_, k4.trans (bel_mono b3 k1.base_le)⟩
    obtain ⟨cur, hc⟩ := own_obj hrow hk
    exact ⟨fun hx => by have := k1.lt k hx; have := Own.ge hrow k hk; omega, lt_of_some hc⟩
  have hrow3 := W_hid hrow
  have hx3 := hx0.out.below h3.bel hx0.out.lt
  have y0 := hx3.cell (j := 0) rfl
  have y1 := hx3.cell (j := 1) rfl
  have y2 := hx3.cell (j := 2) rfl
  clear cA hrow b3 hx3
  have hfin : Hid (∀ w4, P1 W0.heap.size W0 tb 8 L (fun k => (Value.slice av L.length cv).ownBlock = some k) w4 → (∀ k, (Value.slice av L.length cv).ownBlock = some k → w4.heap[k]? = w3.heap[k]?) → Calls Try.prog 15 #[.pointer (some ⟨tb, 0, none⟩)] w4 fun e w5 => ∃ u, e = .returned u ∧ Calls Try.prog 14 #[u, .slice av L.length cv] w5 fun e w6 => e = .returned (.bool true) ∧ Below W0.heap.size W0 w6) := W_hid (by
    intro w4 h4 hk
    obtain ⟨X, k1, k2, k3, k4⟩ := h4
    refine (All_any k1 k2).mono ?_
    rintro e w5 ⟨u, rfl, hu, b5⟩
    refine ⟨u, rfl, (pSame_yes u (.slice av L.length cv) _ _ L w5 hlen hu (Own.below (own_move hrow3.out hk) b5)).mono ?_⟩
    rintro e w6 ⟨rfl, b6⟩
    exact ⟨rfl, k4.trans (bel_mono (b5.trans (bel_mono b6 b5.size)) k1.base_le)⟩)
  obtain ⟨hcs, hk1, hk2⟩ := kind5 a1
  obtain ⟨tm, htm⟩ : ∃ tm, a1.tmod 5 = tm := ⟨_, rfl⟩
  rw [htm] at hcs hk1 hk2
  have hwt : IntKind.i64.wrap (tm + 5) = tm + 5 := IntWalk.i64_in _ (by omega)
  rcases hcs with e0 | e0 | e0 | e0 | e0
  · have cP := h3.Spawn b1 c1 hb1
    obtain ⟨r, hr⟩ : ∃ r, (spawnR 8 L b1 c1).1.2 = r := ⟨_, rfl⟩
    have hidle := fun h => spawn_idle (L := L) (N := 8) b1 c1 h
    rw [hr] at cP hidle
    replace cP := W_hid cP
    replace hidle := W_hid hidle
    clear hr
    go_wp2_with fail
    refine cP.out.mono ?_
    rintro e w4 ⟨rfl, h4, hk4⟩
    by_cases hr0 : r = 0
    · subst hr0
      have hB4 := W_hid (hlow.out w4 h4.bel)
      clear h4 hk4 cP
      go_wp2_with fail
      go_ret
      exact ⟨rfl, hB4.out⟩
    · have hL := hidle.out hr0
      rw [hL] at h4
      have cB := W_hid (hfin.out w4 h4 hk4)
      have hne : (r == 0) = false := by simp [hr0]
      clear h4 hk4 cP hL hr0
      go_wp2_with (first
        | (go_at_call 15; refine cB.out.mono ?_; rintro e w5 ⟨u, rfl, cE⟩; have cE := W_hid cE)
        | (go_at_call 14; refine cE.out.mono ?_; rintro e w6 ⟨rfl, b6⟩; have b6 := W_hid (hlow.out _ b6)))
      go_ret
      exact ⟨rfl, b6.out⟩
  · have cP := h3.Exit b1 c1 hb1
    obtain ⟨r, hr⟩ : ∃ r, (exitR L b1 c1).1 = r := ⟨_, rfl⟩
    have hidle := fun h => exit_idle (L := L) b1 c1 h
    rw [hr] at cP hidle
    replace cP := W_hid cP
    replace hidle := W_hid hidle
    clear hr
    go_wp2_with fail
    refine cP.out.mono ?_
    rintro e w4 ⟨rfl, h4, hk4⟩
    by_cases hr0 : r = 0
    · subst hr0
      have hB4 := W_hid (hlow.out w4 h4.bel)
      clear h4 hk4 cP
      go_wp2_with fail
      go_ret
      exact ⟨rfl, hB4.out⟩
    · have hL := hidle.out hr0
      rw [hL] at h4
      have cB := W_hid (hfin.out w4 h4 hk4)
      have hne : (r == 0) = false := by simp [hr0]
      clear h4 hk4 cP hL hr0
      go_wp2_with (first
        | (go_at_call 15; refine cB.out.mono ?_; rintro e w5 ⟨u, rfl, cE⟩; have cE := W_hid cE)
        | (go_at_call 14; refine cE.out.mono ?_; rintro e w6 ⟨rfl, b6⟩; have b6 := W_hid (hlow.out _ b6)))
      go_ret
      exact ⟨rfl, b6.out⟩
  · have cP := h3.Wait b1 c1 hb1
    obtain ⟨r, hr⟩ : ∃ r, (waitR L b1 c1).1.2 = r := ⟨_, rfl⟩
    have hidle := fun h => wait_idle (L := L) b1 c1 h
    rw [hr] at cP hidle
    replace cP := W_hid cP
    replace hidle := W_hid hidle
    clear hr
    go_wp2_with fail
    refine cP.out.mono ?_
    rintro e w4 ⟨rfl, h4, hk4⟩
    by_cases hr0 : r = 0
    · subst hr0
      have hB4 := W_hid (hlow.out w4 h4.bel)
      clear h4 hk4 cP
      go_wp2_with fail
      go_ret
      exact ⟨rfl, hB4.out⟩
    · have hL := hidle.out hr0
      rw [hL] at h4
      have cB := W_hid (hfin.out w4 h4 hk4)
      have hne : (r == 0) = false := by simp [hr0]
      clear h4 hk4 cP hL hr0
      go_wp2_with (first
        | (go_at_call 15; refine cB.out.mono ?_; rintro e w5 ⟨u, rfl, cE⟩; have cE := W_hid cE)
        | (go_at_call 14; refine cE.out.mono ?_; rintro e w6 ⟨rfl, b6⟩; have b6 := W_hid (hlow.out _ b6)))
      go_ret
      exact ⟨rfl, b6.out⟩
  · have cP := h3.Undo b1 hb1
    obtain ⟨r, hr⟩ : ∃ r, (undoR L b1).1 = r := ⟨_, rfl⟩
    have hidle := fun h => undo_idle (L := L) b1 h
    rw [hr] at cP hidle
    replace cP := W_hid cP
    replace hidle := W_hid hidle
    clear hr
    go_wp2_with fail
    refine cP.out.mono ?_
    rintro e w4 ⟨rfl, h4, hk4⟩
    by_cases hr0 : r = 0
    · subst hr0
      have hB4 := W_hid (hlow.out w4 h4.bel)
      clear h4 hk4 cP
      go_wp2_with fail
      go_ret
      exact ⟨rfl, hB4.out⟩
    · have hL := hidle.out hr0
      rw [hL] at h4
      have cB := W_hid (hfin.out w4 h4 hk4)
      have hne : (r == 0) = false := by simp [hr0]
      clear h4 hk4 cP hL hr0
      go_wp2_with (first
        | (go_at_call 15; refine cB.out.mono ?_; rintro e w5 ⟨u, rfl, cE⟩; have cE := W_hid cE)
        | (go_at_call 14; refine cE.out.mono ?_; rintro e w6 ⟨rfl, b6⟩; have b6 := W_hid (hlow.out _ b6)))
      go_ret
      exact ⟨rfl, b6.out⟩
  · have cP := h3.Nice b1 c1 hb1
    obtain ⟨r, hr⟩ : ∃ r, (niceR L b1 c1).1 = r := ⟨_, rfl⟩
    have hidle := fun h => nice_idle (L := L) b1 c1 h
    rw [hr] at cP hidle
    replace cP := W_hid cP
    replace hidle := W_hid hidle
    clear hr
    go_wp2_with fail
    refine cP.out.mono ?_
    rintro e w4 ⟨rfl, h4, hk4⟩
    by_cases hr0 : r = 0
    · subst hr0
      have hB4 := W_hid (hlow.out w4 h4.bel)
      clear h4 hk4 cP
      go_wp2_with fail
      go_ret
      exact ⟨rfl, hB4.out⟩
    · have hL := hidle.out hr0
      rw [hL] at h4
      have cB := W_hid (hfin.out w4 h4 hk4)
      have hne : (r == 0) = false := by simp [hr0]
      clear h4 hk4 cP hL hr0
      go_wp2_with (first
        | (go_at_call 15; refine cB.out.mono ?_; rintro e w5 ⟨u, rfl, cE⟩; have cE := W_hid cE)
        | (go_at_call 14; refine cE.out.mono ?_; rintro e w6 ⟨rfl, b6⟩; have b6 := W_hid (hlow.out _ b6)))
      go_ret
      exact ⟨rfl, b6.out⟩
set_option maxRecDepth 100000 in
theorem ProcIdle_lifted (os : Os) (started : os.Started) (H : Type) (enc : TypeId × Value → H) :
    ReturnsInHanded {} Try.checked os 7 .any (Rows.procIdleSpec.pre6 enc Try.prog Try.f7 Rows.procIdleRow.domain false) (Rows.procIdleSpec.post enc Try.prog Try.f7 false true false false) := by
  refine returnsInHanded_of_change (C := Try.checked) (by kernel_rfl) started (by kernel_rfl) Try.func7
    (ChangeSpec.witness6 (enc := enc) (C := Try.checked) false ⟨#[], #[.slice none 0 0, .agg #[.int .i64 0, .int .i64 0, .int .i64 0]], []⟩ 8 (by kernel_rfl) (by kernel_rfl) (by kernel_rfl) (by kernel_rfl)) ?_
  intro W base args ds gs before hval0 hW hcnd _
  have hval : ∀ (j : Nat) t v, Try.f7.params[j]? = some t → args[j]? = some v → Value.okWide Try.prog W .any base t v := hval0
  have hW' := hW
  obtain ⟨p, q, hA0, hV, rfl, hfz, hnd⟩ := hW
  have hA : DataW.TrodAll enc Try.prog W 0 (fun _ => true) true Try.f7.params.toList args.toList ds p := hA0
  rw [Try.params7] at hA hval
  obtain ⟨v0, vs0, d0, ds0, p0, q0, hargs, rfl, rfl, h0, r0⟩ := trodAll_cons hA
  obtain ⟨v1, vs1, d1, ds1, p1, q1, rfl, rfl, rfl, h1, r1⟩ := trodAll_cons r0
  obtain ⟨rfl, rfl, rfl⟩ := trodAll_nil r1
  obtain rfl : args = #[v0, v1] := by cases args; simp_all
  obtain ⟨rfl, rfl⟩ := trodVars_none hV
  have k0 := h0
  have lt0 : ∀ x ∈ p0, x.block < W.heap.size := by obtain ⟨m, hm⟩ := k0; exact DataW.trod_lt m _ _ _ hm
  obtain ⟨o0, n0, c0, l0, rfl, w0⟩ := open_ops14 (hval 0 22 v0 rfl rfl) h0
  have k1 := h1
  have lt1 : ∀ x ∈ p1, x.block < W.heap.size := by obtain ⟨m, hm⟩ := k1; exact DataW.trod_lt m _ _ _ hm
  obtain ⟨a1, b1, c1, rfl, w1⟩ := open_op14 (hval 1 33 v1 rfl rfl) h1
  clear hA0 hval0
  refine (ProcIdle_walk o0 n0 c0 l0 a1 b1 c1 W w0 w1).mono fun e W' ⟨he, bel⟩ => ?_
  subst he
  exact ⟨_, rfl, _, _, _, [], _, [], hW', trodAll_mk1 (shut_bool Try.underlying4 _), (trodAll_cons_mk (Below.trod laidOut (by kernel_rfl) (of_decide_eq_true (by kernel_rfl)) k0 bel lt0) (trodAll_cons_mk (Below.trod laidOut (by kernel_rfl) (of_decide_eq_true (by kernel_rfl)) k1 bel lt1) trodAll_mk0)), rfl, bel.frame _, fun h => by cases h⟩

/-- The given statement of ProcIdle. -/
theorem ProcIdle_holds : Rows.ProcIdleSaid :=
  OpenClaim.holds_of_wide 7 Try.f7 rfl rfl rfl rfl rfl rfl rfl ⟨rfl, rfl, rfl, rfl, rfl⟩ rfl rfl rfl rfl rfl (by kernel_rfl) Try.func7 (by kernel_rfl)
    (of_decide_eq_true (by kernel_rfl)) (by unfold Func.isWrapper; first | (rw [if_pos (by decide +kernel)]; kernel_rfl) | (rw [if_neg (by decide +kernel)]; exact ⟨rfl, rfl⟩))
    (fun os started H enc _ => ProcIdle_lifted os started H enc)


end Go.Proofs.Ytahcpimpmedbiaa

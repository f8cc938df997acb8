/- The law ProcUndone of layer 14 (package haywardlaw14): for every input it returns true, and its arguments read as before. No further condition. -/
import Derived.Test.YtahcpimpmedbiaaPrcThm
import Derived.ChangeOld
import Derived.ShutString
namespace Go.Proofs.Ytahcpimpmedbiaa
open Go.ChangeShapes Go.WideShapes Go.ChangeAt Go.RowKit Go.Maps
set_option linter.unusedVariables false
set_option linter.unusedSimpArgs false
set_option maxRecDepth 100000
open PC
open IS (I64)
open IN (Keeps lt_of_some)
theorem PC.os_keep {w w1 : World} {o : Option Addr} {n cap : Nat} {l : List OpT14} (h : OS14 w o n cap l) (hb : Below w.heap.size w w1) : OS14 w1 o n cap l := by
  obtain ⟨h1, h2, h3⟩ := h
  refine ⟨h1, h2, fun j hj => ?_⟩
  obtain ⟨blk, off, e, hblk, k0, k1, k2, z⟩ := h3 j hj
  have kk : ∀ {a : Nat} {u : Value}, w.cell? ⟨blk, a, none⟩ = some u → w1.cell? ⟨blk, a, none⟩ = some u := fun {a u} hc => by rw [hb.cell (p := ⟨blk, a, none⟩) hblk]; exact hc
  exact ⟨blk, off, e, Nat.lt_of_lt_of_le hblk hb.size, kk k0, kk k1, kk k2, z⟩

set_option maxRecDepth 100000 in
set_option maxHeartbeats 8000000 in
theorem ProcUndone_walk (o0 : Option Addr) (n0 c0 : Nat) (l0 : List OpT14) (a1 a2 : Int) (w : World) (w0 : OS14 w o0 n0 c0 l0) (w1 : (Lit.int .i64 a1).wf = true) (w2 : (Lit.int .i64 a2).wf = true) :
    Calls Try.prog 6 #[.slice o0 n0 c0, .int .i64 a1, .int .i64 a2] w fun e w' => e = .returned (.bool true) ∧ Below w.heap.size w w' := by
  have ha1 : I64 a1 := ⟨by have := bounds_i64 w1; omega, by have := bounds_i64 w1; omega⟩
  clear w1 w2
  have cS := W_hid (shown14 w)
  go_enter Try.func6, Try.ntmps6
  go_wp2_with fail
  refine cS.out.mono ?_
  rintro e w1 ⟨rfl, b1⟩
  have cR := W_hid (ran14 o0 n0 c0 l0 w1 (os_keep w0 b1) w.heap.size w b1 b1.size)
  clear cS w0 b1
  go_wp2_with fail
  refine cR.out.mono ?_
  rintro e w2 ⟨tb, L, rfl, h2, -⟩
  have hG := h2.good
  clear cR
  have cA := W_hid (by obtain ⟨X, hT, -⟩ := h2; exact All_any hT hG)
  have hlen : L.length ≤ 1024 := by have := hG.len; omega
  replace h2 := W_hid h2
  replace hG := W_hid hG
  go_wp2_with fail
  refine cA.out.mono ?_
  rintro e w3 ⟨v, rfl, hrow, b3⟩
  obtain ⟨av, cv, rfl⟩ := Own.form hrow
  have h3 : P1 w.heap.size w tb 8 L (fun k => (Value.slice av L.length cv).ownBlock = some k) w3 := by
    obtain ⟨X, k1, k2, k3, k4⟩ := h2.out
    refine ⟨X, k1.keep b3, k2, fun k hk => ?_, k4.trans (bel_mono b3 k1.base_le)⟩
    obtain ⟨cur, hc⟩ := own_obj hrow hk
    exact ⟨fun hx => by have := k1.lt k hx; have := Own.ge hrow k hk; omega, lt_of_some hc⟩
  have hrow3 := W_hid hrow
  have cP := W_hid (h3.Spawn a1 a2 ha1)
  have hle3 := W_hid h3.ble
  clear cA hrow b3 h3
  have hfin : Hid (∀ w4, P1 w.heap.size w tb 8 L (fun k => (Value.slice av L.length cv).ownBlock = some k) w4 → (∀ k, (Value.slice av L.length cv).ownBlock = some k → w4.heap[k]? = w3.heap[k]?) → Calls Try.prog 15 #[.pointer (some ⟨tb, 0, none⟩)] w4 fun e w5 => ∃ u, e = .returned u ∧ Calls Try.prog 14 #[u, .slice av L.length cv] w5 fun e w6 => e = .returned (.bool true) ∧ Below w.heap.size w w6) := W_hid (by
    intro w4 h4 hk
    obtain ⟨X, k1, k2, k3, k4⟩ := h4
    refine (All_any k1 k2).mono ?_
    rintro e w5 ⟨u, rfl, hu, b5⟩
    refine ⟨u, rfl, (pSame_yes u (.slice av L.length cv) _ _ L w5 hlen hu (Own.below (own_move hrow3.out hk) b5)).mono ?_⟩
    rintro e w6 ⟨rfl, b6⟩
    exact ⟨rfl, k4.trans (bel_mono (b5.trans (bel_mono b6 b5.size)) k1.base_le)⟩)
  go_wp2_with fail
  rcases spawnR_cases 8 L a1 a2 with ⟨er, her, hR⟩ | ⟨hr, hl, hR⟩
  · rw [hR] at cP
    have hne : (er == 0) = false := by rcases her with rfl | rfl | rfl <;> rfl
    have hne2 : (er != 0) = true := by rcases her with rfl | rfl | rfl <;> rfl
    refine cP.out.mono ?_
    rintro e w4 ⟨rfl, h4, hk4⟩
    have cB := W_hid (hfin.out w4 h4 hk4)
    clear h4 hk4 cP her hR
    go_wp2_with (first
      | (go_at_call 15; refine cB.out.mono ?_; rintro e w5 ⟨u, rfl, cE⟩; have cE := W_hid cE)
      | (go_at_call 14; refine cE.out.mono ?_; rintro e w6 ⟨rfl, b6⟩; have b6 := W_hid b6))
    go_ret
    exact ⟨rfl, b6.out⟩
  · rw [hR] at cP
    refine cP.out.mono ?_
    rintro e w4 ⟨rfl, h4, hk4⟩
    have hI : I64 ((low L : Int) + 1) := by have := low_le L; exact ⟨by omega, by omega⟩
    have cU := W_hid (h4.Undo ((low L : Int) + 1) hI)
    rw [undone hG.out hr hl] at cU
    obtain ⟨q, hq⟩ : ∃ q : Int, (low L : Int) + 1 = q := ⟨_, rfl⟩
    simp only [hq] at cU ⊢
    have hk4 := W_hid hk4
    clear h4 cP hR hr hl
    go_wp2_with fail
    refine cU.out.mono ?_
    rintro e w5 ⟨rfl, h5, hk5⟩
    have cB := W_hid (hfin.out w5 h5 (fun k hk => (hk5 k hk).trans (hk4.out k hk)))
    clear h5 hk5 cU
    go_wp2_with (first
      | (go_at_call 15; refine cB.out.mono ?_; rintro e w5 ⟨u, rfl, cE⟩; have cE := W_hid cE)
      | (go_at_call 14; refine cE.out.mono ?_; rintro e w6 ⟨rfl, b6⟩; have b6 := W_hid b6))
    go_ret
    exact ⟨rfl, b6.out⟩
set_option maxRecDepth 100000 in
theorem ProcUndone_lifted (os : Os) (started : os.Started) (H : Type) (enc : TypeId × Value → H) :
    ReturnsInHanded {} Try.checked os 6 .any (Rows.procUndoneSpec.pre6 enc Try.prog Try.f6 Rows.procUndoneRow.domain false) (Rows.procUndoneSpec.post enc Try.prog Try.f6 false true false false) := by
  refine returnsInHanded_of_change (C := Try.checked) (by kernel_rfl) started (by kernel_rfl) Try.func6
    (ChangeSpec.witness6 (enc := enc) (C := Try.checked) false ⟨#[], #[.slice none 0 0, .int .i64 0, .int .i64 0], []⟩ 8 (by kernel_rfl) (by kernel_rfl) (by kernel_rfl) (by kernel_rfl)) ?_
  intro W base args ds gs before hval0 hW hcnd _
  have hval : ∀ (j : Nat) t v, Try.f6.params[j]? = some t → args[j]? = some v → Value.okWide Try.prog W .any base t v := hval0
  have hW' := hW
  obtain ⟨p, q, hA0, hV, rfl, hfz, hnd⟩ := hW
  have hA : DataW.TrodAll enc Try.prog W 0 (fun _ => true) true Try.f6.params.toList args.toList ds p := hA0
  rw [Try.params6] at hA hval
  obtain ⟨v0, vs0, d0, ds0, p0, q0, hargs, rfl, rfl, h0, r0⟩ := trodAll_cons hA
  obtain ⟨v1, vs1, d1, ds1, p1, q1, rfl, rfl, rfl, h1, r1⟩ := trodAll_cons r0
  obtain ⟨v2, vs2, d2, ds2, p2, q2, rfl, rfl, rfl, h2, r2⟩ := trodAll_cons r1
  obtain ⟨rfl, rfl, rfl⟩ := trodAll_nil r2
  obtain rfl : args = #[v0, v1, v2] := by cases args; simp_all
  obtain ⟨rfl, rfl⟩ := trodVars_none hV
  have k0 := h0
  have lt0 : ∀ x ∈ p0, x.block < W.heap.size := by obtain ⟨m, hm⟩ := k0; exact DataW.trod_lt m _ _ _ hm
  obtain ⟨o0, n0, c0, l0, rfl, w0⟩ := open_ops14 (hval 0 22 v0 rfl rfl) h0
  obtain ⟨a1, rfl, rfl, rfl, w1⟩ := open_int Try.underlying3 (hval 1 3 v1 rfl rfl) h1
  obtain ⟨a2, rfl, rfl, rfl, w2⟩ := open_int Try.underlying3 (hval 2 3 v2 rfl rfl) h2
  clear hA0 hval0
  refine (ProcUndone_walk o0 n0 c0 l0 a1 a2 W w0 w1 w2).mono fun e W' ⟨he, bel⟩ => ?_
  subst he
  exact ⟨_, rfl, _, _, _, [], _, [], hW', trodAll_mk1 (shut_bool Try.underlying4 _), (trodAll_cons_mk (Below.trod laidOut (by kernel_rfl) (of_decide_eq_true (by kernel_rfl)) k0 bel lt0) (trodAll_cons_mk (shut_int Try.underlying3 w1) (trodAll_cons_mk (shut_int Try.underlying3 w2) trodAll_mk0))), rfl, bel.frame _, fun h => by cases h⟩

/-- The given statement of ProcUndone. -/
theorem ProcUndone_holds : Rows.ProcUndoneSaid :=
  OpenClaim.holds_of_wide 6 Try.f6 rfl rfl rfl rfl rfl rfl rfl ⟨rfl, rfl, rfl, rfl, rfl⟩ rfl rfl rfl rfl rfl (by kernel_rfl) Try.func6 (by kernel_rfl)
    (of_decide_eq_true (by kernel_rfl)) (by unfold Func.isWrapper; first | (rw [if_pos (by decide +kernel)]; kernel_rfl) | (rw [if_neg (by decide +kernel)]; exact ⟨rfl, rfl⟩))
    (fun os started H enc _ => ProcUndone_lifted os started H enc)


end Go.Proofs.Ytahcpimpmedbiaa

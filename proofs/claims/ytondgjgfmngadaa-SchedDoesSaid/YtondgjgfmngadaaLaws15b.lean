/- The law SchedDoes of layer 15 (package haywardlaw15): for every input it returns true, and its arguments read as before. No further condition. -/
import Derived.Test.YtondgjgfmngadaaSchRan
import Derived.ChangeOld
import Derived.ShutString
namespace Go.Proofs.Ytondgjgfmngadaa
open Go.ChangeShapes Go.WideShapes Go.ChangeAt Go.RowKit
set_option linter.unusedVariables false
set_option linter.unusedSimpArgs false
set_option maxRecDepth 100000
open SD
open IN (Keeps lt_of_some)

set_option maxRecDepth 100000 in
set_option maxHeartbeats 8000000 in
theorem SchedDoes_walk (o0 : Option Addr) (n0 c0 : Nat) (l0 : List OpT15) (w : World) (w0 : OS15 w o0 n0 c0 l0) :
    Calls Try.prog 3 #[.slice o0 n0 c0] w fun e w' => e = .returned (.bool true) ∧ Below w.heap.size w w' := by
  have cS := W_hid (shown15 w)
  go_enter Try.func3, Try.ntmps3
  go_wp2_with fail
  refine cS.out.mono ?_
  rintro e w1 ⟨rfl, b1⟩
  obtain ⟨hlen, hll, hops⟩ := os_keep w0 b1
  have hlen2 : (n0 : Int) ≤ 9223372036854775807 := by unfold maxLen at hlen; omega
  have cN := W_hid (SW.new w1)
  replace hops := W_hid hops
  replace hll := W_hid hll
  have hb1 := W_hid b1
  clear hlen cS w0 b1
  go_wp2_with fail
  refine cN.out.mono ?_
  rintro e w2 ⟨qb, rfl, h2⟩
  have hJ := W_hid (J.new h2)
  clear cN h2
  go_wp2_with fail
  go_loopw [6, 7] (fun v _ wr => ∃ (j : Nat) (S : Qs), j ≤ n0 ∧ j ≤ 300 ∧ v = .int .i64 (j : Int) ∧ Hid (J w1.heap.size w1 qb w2.heap.size j S S (fun _ => False) wr)) (fun v _ _ => n0 - (intOf v).toNat)
  case atStart => exact ⟨0, _, by omega, by omega, rfl, hJ⟩
  case round =>
    clear hJ
    obtain ⟨j, S, hj, hj2, rfl, hJ⟩ := hrel
    have hb := W_hid hJ.out.bel
    by_cases hlt : j < n0 ∧ j < 300
    · obtain ⟨hl1, hl2⟩ := hlt
      obtain ⟨blk, off, rfl, hblk, hc0, hc1, hc2, hc3, z1, z2, z3, z4, z5, z6, z7⟩ := hops.out j (by rw [hll.out]; exact hl1)
      obtain ⟨⟨kd, a, c, x⟩, hx⟩ : ∃ x, l0[j]'(by rw [hll.out]; exact hl1) = x := ⟨_, rfl⟩
      rw [hx] at hc0 hc1 hc2 hc3 z1 z2 z3 z4 z5 z6 z7
      simp only at hc0 hc1 hc2 hc3 z1 z2 z3 z4 z5 z6 z7
      have kk : ∀ {a : Nat} {u : Value}, w1.cell? ⟨blk, a, none⟩ = some u → wr.cell? ⟨blk, a, none⟩ = some u := fun {a u} hc => by rw [hb.out.cell (p := ⟨blk, a, none⟩) hblk]; exact hc
      have k0 := kk hc0
      have k1 := kk hc1
      have k2 := kk hc2
      have k3 := kk hc3
      have cD := W_hid (does15 w1.heap.size w1 qb w2.heap.size j S kd a c x wr hJ.out (by omega) z4 z7)
      clear kk hc0 hc1 hc2 hc3 hx
      go_wp2_with fail
      refine cD.out.mono ?_
      rintro e w6 ⟨rfl, L, hJ6⟩
      have cP := W_hid (hJ6.rdy (by omega))
      clear cD hJ6
      go_wp2_with fail
      refine cP.out.mono ?_
      rintro e w7 ⟨v1, rfl, ho1, -, hJ7, -⟩
      have hlr : (ready L).length ≤ 60000 := by
        have h1 := hJ7.good
        have h2 := h1.llen
        have h3 := cat_len (ls := lst L.P L.L) (c := 400) (fun k => by have := lst_len L k; omega) 5
        rw [ready_cat]
        omega
      have cQ := W_hid (hJ7.rdyD (by omega))
      have ho1 := W_hid ho1
      clear cP hJ7
      go_wp2_with fail
      refine cQ.out.mono ?_
      rintro e w8 ⟨v2, rfl, ho2, -, hJ8, hk8⟩
      have ho1' := own_move ho1.out fun k hk => hk8 k (.inr hk)
      have cE := W_hid (rSame_yes v1 v2 _ _ (ready L) w8 hlr ho1' ho2)
      have hJ8' := W_hid (hJ8.less (Z' := fun _ => False) fun k hk => hk.elim)
      clear cQ hJ8 hk8 ho2 ho1'
      go_wp2_with fail
      refine cE.out.mono ?_
      rintro e w9 ⟨rfl, b9⟩
      have hJ9 := W_hid (hJ8'.out.keep b9).1
      clear b9 cE hJ8'
      go_wp2_with fail
      go_roundw
      case rel => exact ⟨j + 1, L, by omega, by omega, by go_num, hJ9⟩
      case measure => simp [intOf]; omega
    · have hex : (¬ j < n0) ∨ (j < n0 ∧ ¬ j < 300) := by omega
      have hfin : Hid (Below w.heap.size w wr) := W_hid (hb1.out.trans (bel_mono hb.out hb1.out.size))
      clear hJ
      rcases hex with h1 | ⟨h1, h2⟩ <;>
      · go_wp2_with fail
        go_ret
        exact ⟨rfl, hfin.out⟩
set_option maxRecDepth 100000 in
theorem SchedDoes_lifted (os : Os) (started : os.Started) (H : Type) (enc : TypeId × Value → H) :
    ReturnsInHanded {} Try.checked os 3 .any (Rows.schedDoesSpec.pre6 enc Try.prog Try.f3 Rows.schedDoesRow.domain false) (Rows.schedDoesSpec.post enc Try.prog Try.f3 false true false false) := by
  refine returnsInHanded_of_change (C := Try.checked) (by kernel_rfl) started (by kernel_rfl) Try.func3
    (ChangeSpec.witness6 (enc := enc) (C := Try.checked) false ⟨#[], #[.slice none 0 0], []⟩ 8 (by kernel_rfl) (by kernel_rfl) (by kernel_rfl) (by kernel_rfl)) ?_
  intro W base args ds gs before hval0 hW hcnd _
  have hval : ∀ (j : Nat) t v, Try.f3.params[j]? = some t → args[j]? = some v → Value.okWide Try.prog W .any base t v := hval0
  have hW' := hW
  obtain ⟨p, q, hA0, hV, rfl, hfz, hnd⟩ := hW
  have hA : DataW.TrodAll enc Try.prog W 0 (fun _ => true) true Try.f3.params.toList args.toList ds p := hA0
  rw [Try.params3] at hA hval
  obtain ⟨v0, vs0, d0, ds0, p0, q0, hargs, rfl, rfl, h0, r0⟩ := trodAll_cons hA
  obtain ⟨rfl, rfl, rfl⟩ := trodAll_nil r0
  obtain rfl : args = #[v0] := by cases args; simp_all
  obtain ⟨rfl, rfl⟩ := trodVars_none hV
  have k0 := h0
  have lt0 : ∀ x ∈ p0, x.block < W.heap.size := by obtain ⟨m, hm⟩ := k0; exact DataW.trod_lt m _ _ _ hm
  obtain ⟨o0, n0, c0, l0, rfl, w0⟩ := open_ops15 (hval 0 22 v0 rfl rfl) h0
  clear hA0 hval0
  refine (SchedDoes_walk o0 n0 c0 l0 W w0).mono fun e W' ⟨he, bel⟩ => ?_
  subst he
  exact ⟨_, rfl, _, _, _, [], _, [], hW', trodAll_mk1 (shut_bool Try.underlying4 _), (trodAll_cons_mk (Below.trod laidOut (by kernel_rfl) (of_decide_eq_true (by kernel_rfl)) k0 bel lt0) trodAll_mk0), rfl, bel.frame _, fun h => by cases h⟩

/-- The given statement of SchedDoes. -/
theorem SchedDoes_holds : Rows.SchedDoesSaid :=
  OpenClaim.holds_of_wide 3 Try.f3 rfl rfl rfl rfl rfl rfl rfl ⟨rfl, rfl, rfl, rfl, rfl⟩ rfl rfl rfl rfl rfl (by kernel_rfl) Try.func3 (by kernel_rfl)
    (of_decide_eq_true (by kernel_rfl)) (by unfold Func.isWrapper; first | (rw [if_pos (by decide +kernel)]; kernel_rfl) | (rw [if_neg (by decide +kernel)]; exact ⟨rfl, rfl⟩))
    (fun os started H enc _ => SchedDoes_lifted os started H enc)

end Go.Proofs.Ytondgjgfmngadaa

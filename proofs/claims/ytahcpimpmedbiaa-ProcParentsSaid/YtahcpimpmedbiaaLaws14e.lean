/- The law ProcParents of layer 14 (package haywardlaw14): for every input it returns true, and its arguments read as before. No further condition. -/
import Derived.Test.YtahcpimpmedbiaaLaws14b
import Derived.ChangeOld
import Derived.ShutString
namespace Go.Proofs.Ytahcpimpmedbiaa
open Go.ChangeShapes Go.WideShapes Go.ChangeAt Go.RowKit Go.Maps
set_option linter.unusedVariables false
set_option linter.unusedSimpArgs false
set_option maxRecDepth 100000
open PC
open IS (I64)
open IN (Keeps lt_of_some)

set_option maxRecDepth 100000 in
set_option maxHeartbeats 16000000 in
theorem ProcParents_walk (o0 : Option Addr) (n0 c0 : Nat) (l0 : List OpT14) (w : World) (w0 : OS14 w o0 n0 c0 l0) :
    Calls Try.prog 4 #[.slice o0 n0 c0] w fun e w' => e = .returned (.bool true) ∧ Below w.heap.size w w' := by
  have cS := W_hid (shown14 w)
  go_enter Try.func4, Try.ntmps4
  go_wp2_with fail
  refine cS.out.mono ?_
  rintro e w1 ⟨rfl, b1⟩
  have cR := W_hid (ran14 o0 n0 c0 l0 w1 (os_keep w0 b1) w.heap.size w b1 b1.size)
  clear cS w0 b1
  go_wp2_with fail
  refine cR.out.mono ?_
  rintro e w2 ⟨tb, L, rfl, h2, -⟩
  have hG := h2.good
  clear cR
  have cA := W_hid (by obtain ⟨X, hT, -⟩ := h2; exact All_any hT hG)
  have hlen : L.length ≤ 8 := hG.len
  obtain ⟨h00, f1, f2, f3, f4, f5⟩ := first_one hG
  replace h2 := W_hid h2
  replace hG := W_hid hG
  go_wp2_with fail
  refine cA.out.mono ?_
  rintro e w3 ⟨v, rfl, hrow, b3⟩
  obtain ⟨av, cv, rfl, hat⟩ := prow_at hrow
  have h3 := (h2.out.keep b3).1
  have hB3 := W_hid h3.bel
  have hble := W_hid h3.ble
  obtain ⟨X3, hT3, -⟩ := h3
  have hT3 := W_hid hT3
  obtain ⟨m, hm⟩ : ∃ m, L.length = m := ⟨_, rfl⟩
  have hm0 : 1 ≤ m := by omega
  rw [hm] at hlen ⊢
  have hat := W_hid hat
  replace hm := W_hid hm
  have F1 := W_hid f1
  have F2 := W_hid f2
  have F3 := W_hid f3
  have F4 := W_hid f4
  replace f5 := W_hid f5
  replace h00 := W_hid h00
  clear cA hrow b3 f1 f2 f3 f4
  go_wp2_with fail
  go_loopw [7] (fun i wr => ∃ j : Nat, j ≤ m ∧ i = .int .i64 (j : Int) ∧ Below w3.heap.size w3 wr) (fun i _ => m - (intOf i).toNat)
  case atStart => exact ⟨0, Nat.zero_le _, rfl, Below.refl _ _⟩
  case round =>
    obtain ⟨j, hj, rfl, bel⟩ := hrel
    have hwj : IntKind.i64.wrap ((j : Int) + 1) = (j : Int) + 1 := IntWalk.i64_in _ (by omega)
    have kk : ∀ {b a : Nat} {u : Value}, b < w3.heap.size → w3.cell? ⟨b, a, none⟩ = some u → wr.cell? ⟨b, a, none⟩ = some u := fun {b a u} hb hc => by rw [bel.cell (p := ⟨b, a, none⟩) hb]; exact hc
    by_cases hlt : j < m
    · have hjL : j < L.length := by rw [hm.out]; exact hlt
      have hjm : (j : Int) < (m : Int) := by omega
      obtain ⟨blk, rfl, hblk, hc⟩ := hat.out j hjL
      rcases Nat.eq_zero_or_pos j with hj0 | hjp
      · subst hj0
        obtain ⟨⟨xa, xb, xc, xd, xe⟩, hx⟩ : ∃ x, L[0]'hjL = x := ⟨_, rfl⟩
        have g1 := F1.out
        have g2 := F2.out
        have g3 := F3.out
        have g4 := F4.out
        rw [hx] at hc g1 g2 g3 g4
        simp only at g1 g2 g3 g4
        subst g1 g2 g3 g4
        have e0 := kk hblk (hc 0 _ rfl)
        have e1 := kk hblk (hc 1 _ rfl)
        have e2 := kk hblk (hc 2 _ rfl)
        have e3 := kk hblk (hc 3 _ rfl)
        have e4 := kk hblk (hc 4 _ rfl)
        simp only [Nat.zero_mul, Nat.zero_add] at e0 e1 e2 e3 e4
        have hb5 := W_hid (bel.alloc bel.size (.cells #[.int .i64 1, .int .i64 0, .int .i64 1, .int .i64 0, .int .i64 xe] 43))
        have hz : ((0 : Nat) : Int) = 0 := rfl
        replace bel := W_hid bel
        clear hc kk hx hjL
        go_wp2_with fail
        go_quiet (fail)
        go_wp2_with fail
        go_roundw
        case rel => exact ⟨1, by omega, by go_num, bel_drew hb5.out _⟩
        case measure => simp [intOf]; omega
      · obtain ⟨i, hji⟩ : ∃ i, j = i + 1 := ⟨j - 1, by omega⟩
        have hiL : i < L.length := by omega
        obtain ⟨blk', hblke, hblk', hc'⟩ := hat.out i hiL
        simp only [Option.some.injEq, Addr.mk.injEq, and_true] at hblke
        subst hblke
        have hne1 := f5.out j hjL (by omega)
        have hasc := List.pairwise_iff_getElem.1 hG.out.asc i j hiL hjL (by omega)
        have hstc := hG.out.st _ (List.getElem_mem hjL)
        have hpar := hG.out.par _ (List.getElem_mem hjL) hne1
        obtain ⟨⟨xa, xb, xc, xd, xe⟩, hx⟩ : ∃ x, L[j] = x := ⟨_, rfl⟩
        obtain ⟨⟨ya, yb, yc, yd, ye⟩, hy⟩ : ∃ y, L[i] = y := ⟨_, rfl⟩
        rw [hx] at hc hne1 hasc hstc hpar
        rw [hy] at hc' hasc
        simp only at hne1 hasc hstc hpar
        have e0 := kk hblk (hc 0 _ rfl)
        have e1 := kk hblk (hc 1 _ rfl)
        have e2 := kk hblk (hc 2 _ rfl)
        have e3 := kk hblk (hc 3 _ rfl)
        have e4 := kk hblk (hc 4 _ rfl)
        have p0 := kk hblk (hc' 0 _ rfl)
        rw [Nat.add_zero] at e0 p0
        obtain ⟨px, hpx, hpst⟩ := run_of hpar.2
        have hIb : I64 xb := by
          have := hG.out.pid px (get_some hpx).1
          have h9 := (get_some hpx).2
          exact ⟨by omega, by omega⟩
        have hget : getR L xb = (px, true) := by unfold getR; rw [hpx]
        obtain ⟨pa, pb, pc, pd, pe⟩ := px
        simp only at hpst
        subst hpst
        have hge : decide (xa ≤ ya) = false := by simp; omega
        have hb5 := W_hid (fun n => bel_drew (bel.alloc bel.size (.cells #[.int .i64 xa, .int .i64 xb, .int .i64 xc, .int .i64 xd, .int .i64 xe] 43)) n)
        have cG := W_hid (fun W (hb : Below w3.heap.size w3 W) => Get_any (hT3.out.keep hb) xb hIb)
        rw [hget] at cG
        simp only [prow] at cG
        have hb6 := hb5.out 0
        have hx6 : ∀ n, Blk ((wr.alloc (.cells #[.int .i64 xa, .int .i64 xb, .int .i64 xc, .int .i64 xd, .int .i64 xe] 43)).drewN n) wr.heap.size 43 (fv xa xb xc xd xe) := fun n => Blk.new wr 43 (fv xa xb xc xd xe) rfl
        have hwi : IntKind.i64.wrap (i : Int) = (i : Int) := IntWalk.i64_in _ (by omega)
        have hsub : (j : Int) - 1 = (i : Int) := by omega
        have hgt : decide ((0 : Int) < (j : Int)) = true := by simp; omega
        have him : (i : Int) < (m : Int) := by omega
        replace hji := W_hid hji
        have p1 : ∀ ob n, ((wr.alloc ob).drewN n).cell? ⟨blk, i * 5, none⟩ = some (.int .i64 ya) := fun ob n => cell_alloc p0 ob
        have p2 : ∀ ob, (wr.alloc ob).cell? ⟨blk, i * 5, none⟩ = some (.int .i64 ya) := fun ob => cell_alloc p0 ob
        have hx6 := W_hid hx6
        have hne2 : (xa == 1) = false := by simp [hne1]
        have hne3 : (xb == xa) = false := by simp; exact hpar.1
        replace bel := W_hid bel
        replace hpar := W_hid hpar
        clear hc hc' kk hx hy hjL hiL hne1 hasc hpx hget hb6
        rcases hstc with ⟨h1, h2⟩ | h1
        · subst h1 h2
          go_wp2_with fail
          go_quiet (fail)
          have hx7 := hx6.out nq
          have s0 := hx7.cell (j := 0) rfl
          have s1 := hx7.cell (j := 1) rfl
          have s2 := hx7.cell (j := 2) rfl
          have cG2 := W_hid (cG.out _ (hb5.out nq))
          replace hx7 := W_hid hx7
          obtain ⟨W7, hW7⟩ : ∃ W7, (wr.alloc (.cells #[.int .i64 xa, .int .i64 xb, .int .i64 1, .int .i64 0, .int .i64 xe] 43)).drewN nq = W7 := ⟨_, rfl⟩
          have hB7 : Below w3.heap.size w3 W7 := by rw [← hW7]; exact hb5.out nq
          rw [hW7] at s0 s1 s2 cG2 hx7 ⊢
          replace hW7 := W_hid hW7
          go_wp2_with fail
          refine cG2.out.mono ?_
          rintro e w8 ⟨rfl, b8⟩
          have hx8 := hx7.out.keep b8
          have hx9 := hx8.alloc (.cells #[.int .i64 pa, .int .i64 pb, .int .i64 1, .int .i64 pd, .int .i64 pe] 43)
          have u0 := hx9.cell (j := 0) rfl
          have u1 := hx9.cell (j := 1) rfl
          have hb9 := W_hid ((hB7.trans (bel_mono b8 hB7.size)).alloc (Nat.le_trans hB7.size b8.size) (.cells #[.int .i64 pa, .int .i64 pb, .int .i64 1, .int .i64 pd, .int .i64 pe] 43))
          have hy9 := Blk.new w8 43 (fv pa pb 1 pd pe) (x := w8.heap.size) rfl
          have v2 := hy9.cell (j := 2) rfl
          simp only [fv] at v2
          replace hx8 := W_hid hx8
          replace hx9 := W_hid hx9
          replace hy9 := W_hid hy9
          replace b8 := W_hid b8
          replace hB7 := W_hid hB7
          go_wp2_with fail
          go_roundw
          case rel => exact ⟨j + 1, by omega, by go_num, hb9.out⟩
          case measure => simp [intOf]; omega
        · subst h1
          go_wp2_with fail
          go_quiet (fail)
          have hx7 := hx6.out nq
          have s0 := hx7.cell (j := 0) rfl
          have s1 := hx7.cell (j := 1) rfl
          have s2 := hx7.cell (j := 2) rfl
          have cG2 := W_hid (cG.out _ (hb5.out nq))
          replace hx7 := W_hid hx7
          obtain ⟨W7, hW7⟩ : ∃ W7, (wr.alloc (.cells #[.int .i64 xa, .int .i64 xb, .int .i64 2, .int .i64 xd, .int .i64 xe] 43)).drewN nq = W7 := ⟨_, rfl⟩
          have hB7 : Below w3.heap.size w3 W7 := by rw [← hW7]; exact hb5.out nq
          rw [hW7] at s0 s1 s2 cG2 hx7 ⊢
          replace hW7 := W_hid hW7
          go_wp2_with fail
          refine cG2.out.mono ?_
          rintro e w8 ⟨rfl, b8⟩
          have hx8 := hx7.out.keep b8
          have hx9 := hx8.alloc (.cells #[.int .i64 pa, .int .i64 pb, .int .i64 1, .int .i64 pd, .int .i64 pe] 43)
          have u0 := hx9.cell (j := 0) rfl
          have u1 := hx9.cell (j := 1) rfl
          have hb9 := W_hid ((hB7.trans (bel_mono b8 hB7.size)).alloc (Nat.le_trans hB7.size b8.size) (.cells #[.int .i64 pa, .int .i64 pb, .int .i64 1, .int .i64 pd, .int .i64 pe] 43))
          have hy9 := Blk.new w8 43 (fv pa pb 1 pd pe) (x := w8.heap.size) rfl
          have v2 := hy9.cell (j := 2) rfl
          simp only [fv] at v2
          replace hx8 := W_hid hx8
          replace hx9 := W_hid hx9
          replace hy9 := W_hid hy9
          replace b8 := W_hid b8
          replace hB7 := W_hid hB7
          go_wp2_with fail
          go_roundw
          case rel => exact ⟨j + 1, by omega, by go_num, hb9.out⟩
          case measure => simp [intOf]; omega
    · obtain rfl : j = m := by omega
      obtain ⟨blk, rfl, hblk, hc⟩ := hat.out 0 h00.out
      have e0 := hc 0 _ rfl
      rw [F1.out] at e0
      have e0 := kk hblk e0
      simp only [Nat.zero_mul, Nat.zero_add] at e0
      have hge : ¬ ((j : Int) < (j : Int)) := by omega
      have h1 : decide ((1 : Int) ≤ (j : Int)) = true := by simp; omega
      have h8 : decide ((j : Int) ≤ 8) = true := by simp; omega
      have hpos : (0 : Int) < (j : Int) := by omega
      have hB := W_hid (hB3.out.trans (bel_mono bel hble.out))
      replace bel := W_hid bel
      clear hc kk
      go_wp2_with fail
      go_ret
      exact ⟨rfl, hB.out⟩
set_option maxRecDepth 100000 in
theorem ProcParents_lifted (os : Os) (started : os.Started) (H : Type) (enc : TypeId × Value → H) :
    ReturnsInHanded {} Try.checked os 4 .any (Rows.procParentsSpec.pre6 enc Try.prog Try.f4 Rows.procParentsRow.domain false) (Rows.procParentsSpec.post enc Try.prog Try.f4 false true false false) := by
  refine returnsInHanded_of_change (C := Try.checked) (by kernel_rfl) started (by kernel_rfl) Try.func4
    (ChangeSpec.witness6 (enc := enc) (C := Try.checked) false ⟨#[], #[.slice none 0 0], []⟩ 8 (by kernel_rfl) (by kernel_rfl) (by kernel_rfl) (by kernel_rfl)) ?_
  intro W base args ds gs before hval0 hW hcnd _
  have hval : ∀ (j : Nat) t v, Try.f4.params[j]? = some t → args[j]? = some v → Value.okWide Try.prog W .any base t v := hval0
  have hW' := hW
  obtain ⟨p, q, hA0, hV, rfl, hfz, hnd⟩ := hW
  have hA : DataW.TrodAll enc Try.prog W 0 (fun _ => true) true Try.f4.params.toList args.toList ds p := hA0
  rw [Try.params4] at hA hval
  obtain ⟨v0, vs0, d0, ds0, p0, q0, hargs, rfl, rfl, h0, r0⟩ := trodAll_cons hA
  obtain ⟨rfl, rfl, rfl⟩ := trodAll_nil r0
  obtain rfl : args = #[v0] := by cases args; simp_all
  obtain ⟨rfl, rfl⟩ := trodVars_none hV
  have k0 := h0
  have lt0 : ∀ x ∈ p0, x.block < W.heap.size := by obtain ⟨m, hm⟩ := k0; exact DataW.trod_lt m _ _ _ hm
  obtain ⟨o0, n0, c0, l0, rfl, w0⟩ := open_ops14 (hval 0 22 v0 rfl rfl) h0
  clear hA0 hval0
  refine (ProcParents_walk o0 n0 c0 l0 W w0).mono fun e W' ⟨he, bel⟩ => ?_
  subst he
  exact ⟨_, rfl, _, _, _, [], _, [], hW', trodAll_mk1 (shut_bool Try.underlying4 _), (trodAll_cons_mk (Below.trod laidOut (by kernel_rfl) (of_decide_eq_true (by kernel_rfl)) k0 bel lt0) trodAll_mk0), rfl, bel.frame _, fun h => by cases h⟩

/-- The given statement of ProcParents. -/
theorem ProcParents_holds : Rows.ProcParentsSaid :=
  OpenClaim.holds_of_wide 4 Try.f4 rfl rfl rfl rfl rfl rfl rfl ⟨rfl, rfl, rfl, rfl, rfl⟩ rfl rfl rfl rfl rfl (by kernel_rfl) Try.func4 (by kernel_rfl)
    (of_decide_eq_true (by kernel_rfl)) (by unfold Func.isWrapper; first | (rw [if_pos (by decide +kernel)]; kernel_rfl) | (rw [if_neg (by decide +kernel)]; exact ⟨rfl, rfl⟩))
    (fun os started H enc _ => ProcParents_lifted os started H enc)


end Go.Proofs.Ytahcpimpmedbiaa

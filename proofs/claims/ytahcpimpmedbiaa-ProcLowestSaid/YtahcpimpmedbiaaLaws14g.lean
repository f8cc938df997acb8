/- The law ProcLowest of layer 14 (package haywardlaw14): for every input it returns true, and its arguments read as before. No further condition. -/
import Derived.Test.YtahcpimpmedbiaaLaws14b
import Derived.ChangeOld
import Derived.ShutString
namespace Go.Proofs.Ytahcpimpmedbiaa
open Go.ChangeShapes Go.WideShapes Go.ChangeAt Go.RowKit Go.Maps
set_option linter.unusedVariables false
set_option linter.unusedSimpArgs false
set_option maxRecDepth 100000
open PC
open IS (I64)
open IN (Keeps lt_of_some)

theorem PC.low_new {N : Nat} {L : List Pr} (h : Good N L) (hl : L.length ≠ N) : spawnR N L 1 0 = (((low L : Int) + 1, 0), spawnL L 1 0) ∧ getR (spawnL L 1 0) ((low L : Int) + 1) = (⟨(low L : Int) + 1, 1, 1, 0, 0⟩, true) := by
  have hr : runs L 1 = true := by
    obtain ⟨x1, m1, p1, s1, -⟩ := h.one
    exact (runs_iff h.asc).2 ⟨x1, m1, p1, s1⟩
  refine ⟨?_, ?_⟩
  · unfold spawnR
    rw [hr, if_neg (by simp), if_neg (by decide), if_neg hl]
  · unfold getR
    have : get (spawnL L 1 0) ((low L : Int) + 1) = some (newP L 1 0) := (get_iff (asc_spawn h.asc h.ge 1 0)).2 ⟨mem_spawn.2 (.inl rfl), rfl⟩
    rw [this]
    rfl
theorem PC.low_full {N : Nat} {L : List Pr} (h : Good N L) (hl : L.length = N) : spawnR N L 1 0 = ((0, 25), L) := by
  have hr : runs L 1 = true := by
    obtain ⟨x1, m1, p1, s1, -⟩ := h.one
    exact (runs_iff h.asc).2 ⟨x1, m1, p1, s1⟩
  unfold spawnR
  rw [hr, if_neg (by simp), if_neg (by decide), if_pos hl]
set_option maxRecDepth 100000 in
set_option maxHeartbeats 8000000 in
theorem ProcLowest_walk (o0 : Option Addr) (n0 c0 : Nat) (l0 : List OpT14) (w : World) (w0 : OS14 w o0 n0 c0 l0) :
    Calls Try.prog 9 #[.slice o0 n0 c0] w fun e w' => e = .returned (.bool true) ∧ Below w.heap.size w w' := by
  have cS := W_hid (shown14 w)
  go_enter Try.func9, Try.ntmps9
  go_wp2_with fail
  refine cS.out.mono ?_
  rintro e w1 ⟨rfl, b1⟩
  have cR := W_hid (ran14 o0 n0 c0 l0 w1 (os_keep w0 b1) w.heap.size w b1 b1.size)
  clear cS w0 b1
  go_wp2_with fail
  refine cR.out.mono ?_
  rintro e w2 ⟨tb, L, rfl, h2, -⟩
  have hG := h2.good
  clear cR
  have cA := W_hid (by obtain ⟨X, hT, -⟩ := h2; exact All_any hT hG)
  have hlen : L.length ≤ 8 := hG.len
  replace h2 := W_hid h2
  replace hG := W_hid hG
  go_wp2_with fail
  refine cA.out.mono ?_
  rintro e w3 ⟨v, rfl, hrow, b3⟩
  obtain ⟨av, cv, rfl, hat⟩ := prow_at hrow
  have h3 := (h2.out.keep b3).1
  have hlow := low_le L
  have hel : Hid (∀ j (hj : j < L.length), (j < low L → L[j].pid = (j : Int) + 1) ∧ (j = low L → ¬ L[j].pid = (j : Int) + 1)) := W_hid (by
    intro j hj
    refine ⟨fun h => low_at hj h, fun h => ?_⟩
    subst h
    exact low_stop hj)
  have hI1 : I64 1 := ⟨by decide, by decide⟩
  have cP := W_hid (h3.Spawn 1 0 hI1)
  have hB3 := W_hid h3.bel
  have hfull := W_hid (fun h => low_full hG.out h)
  have hnew := W_hid (fun h => low_new hG.out h)
  obtain ⟨lo, hlo⟩ : ∃ lo, low L = lo := ⟨_, rfl⟩
  rw [hlo] at hel hlow hnew
  obtain ⟨m, hm⟩ : ∃ m, L.length = m := ⟨_, rfl⟩
  rw [hm] at hlow hlen hfull hnew ⊢
  have hat := W_hid hat
  replace hm := W_hid hm
  replace h3 := W_hid h3
  clear cA hrow b3 hlo
  go_wp2_with fail
  go_loopw [7, 8] (fun s i wr => ∃ j : Nat, j ≤ lo ∧ s = .int .i64 ((j : Int) + 1) ∧ i = .int .i64 (j : Int) ∧ w3 = wr) (fun _ i _ => lo - (intOf i).toNat)
  case atStart => exact ⟨0, Nat.zero_le _, rfl, rfl, rfl⟩
  case round =>
    obtain ⟨j, hj, rfl, rfl, hwr⟩ := hrel
    subst hwr
    have hwj : IntKind.i64.wrap ((j : Int) + 1) = (j : Int) + 1 := IntWalk.i64_in _ (by omega)
    have hwj2 : IntKind.i64.wrap ((j : Int) + 1 + 1) = (j : Int) + 1 + 1 := IntWalk.i64_in _ (by omega)
    by_cases hjlo : j < lo
    · have hjL : j < L.length := by rw [hm.out]; omega
      obtain ⟨blk, rfl, hblk, hc⟩ := hat.out j hjL
      have e0 := hc 0 _ rfl
      rw [Nat.add_zero, (hel.out j hjL).1 hjlo] at e0
      have hjm : (j : Int) < (m : Int) := by omega
      clear hc hjL
      go_wp2_with fail
      go_roundw
      case rel => exact ⟨j + 1, by omega, by go_num, by go_num, by first | trivial | rfl⟩
      case measure => simp [intOf]; omega
    · obtain rfl : j = lo := by omega
      have hcase : Hid (j = m) ∨ (j < m ∧ ∃ blk a, av = some ⟨blk, 0, none⟩ ∧ w3.cell? ⟨blk, j * 5, none⟩ = some (.int .i64 a) ∧ ¬ a = (j : Int) + 1) := by
        rcases Nat.lt_or_ge j m with hlt | hge
        · right
          have hjL : j < L.length := by rw [hm.out]; omega
          obtain ⟨blk, rfl, hblk, hc⟩ := hat.out j hjL
          have e0 := hc 0 _ rfl
          rw [Nat.add_zero] at e0
          exact ⟨hlt, blk, _, rfl, e0, (hel.out j hjL).2 rfl⟩
        · left; exact W_hid (by omega)
      rcases hcase with h1 | ⟨h1, blk, a, rfl, e0, e1⟩
      · have hge : (m : Int) ≤ (j : Int) := by have := h1.out; omega
        by_cases h8 : m = 8
        · have cP2 := cP.out
          rw [hfull.out h8] at cP2
          replace cP2 := W_hid cP2
          subst h8
          go_wp2_with fail
          refine cP2.out.mono ?_
          rintro e w4 ⟨rfl, h4, -⟩
          have hB4 := W_hid h4.bel
          clear h4
          go_wp2_with fail
          go_ret
          exact ⟨rfl, hB4.out⟩
        · have cP2 := cP.out
          obtain ⟨g1, g2⟩ := hnew.out h8
          rw [g1] at cP2
          have hne8 : ((m : Int) == 8) = false := by simp; omega
          have hI : I64 ((j : Int) + 1) := ⟨by omega, by omega⟩
          have hq := prc_eq ((j : Int) + 1) 1 1 0 0
          replace cP2 := W_hid cP2
          replace g1 := W_hid g1
          replace g2 := W_hid g2
          replace h8 := W_hid h8
          go_wp2_with fail
          refine cP2.out.mono ?_
          rintro e w4 ⟨rfl, h4, -⟩
          have cG := h4.Get ((j : Int) + 1) hI
          rw [g2.out] at cG
          simp only [prow] at cG
          replace cG := W_hid cG
          clear h4
          go_wp2_with fail
          refine cG.out.mono ?_
          rintro e w5 ⟨rfl, h5, -⟩
          have h6 := h5.alloc (.cells #[.int .i64 ((j : Int) + 1), .int .i64 1, .int .i64 1, .int .i64 0, .int .i64 0] 43)
          have hB6 := W_hid h6.bel
          have hx := Blk.new w5 43 (fv ((j : Int) + 1) 1 1 0 0) (x := w5.heap.size) rfl
          have f0 := hx.cell (j := 0) rfl
          have f1 := hx.cell (j := 1) rfl
          have f2 := hx.cell (j := 2) rfl
          have f3 := hx.cell (j := 3) rfl
          have f4 := hx.cell (j := 4) rfl
          simp only [fv] at f0 f1 f2 f3 f4
          replace hx := W_hid hx
          clear h5 h6
          go_wp2_with fail
          go_ret
          exact ⟨rfl, hB6.out⟩
      · have hlt : (j : Int) < (m : Int) := by omega
        by_cases h8 : m = 8
        · have cP2 := cP.out
          rw [hfull.out h8] at cP2
          replace cP2 := W_hid cP2
          subst h8
          go_wp2_with fail
          refine cP2.out.mono ?_
          rintro e w4 ⟨rfl, h4, -⟩
          have hB4 := W_hid h4.bel
          clear h4
          go_wp2_with fail
          go_ret
          exact ⟨rfl, hB4.out⟩
        · have cP2 := cP.out
          obtain ⟨g1, g2⟩ := hnew.out h8
          rw [g1] at cP2
          have hne8 : ((m : Int) == 8) = false := by simp; omega
          have hI : I64 ((j : Int) + 1) := ⟨by omega, by omega⟩
          have hq := prc_eq ((j : Int) + 1) 1 1 0 0
          replace cP2 := W_hid cP2
          replace g1 := W_hid g1
          replace g2 := W_hid g2
          replace h8 := W_hid h8
          go_wp2_with fail
          refine cP2.out.mono ?_
          rintro e w4 ⟨rfl, h4, -⟩
          have cG := h4.Get ((j : Int) + 1) hI
          rw [g2.out] at cG
          simp only [prow] at cG
          replace cG := W_hid cG
          clear h4
          go_wp2_with fail
          refine cG.out.mono ?_
          rintro e w5 ⟨rfl, h5, -⟩
          have h6 := h5.alloc (.cells #[.int .i64 ((j : Int) + 1), .int .i64 1, .int .i64 1, .int .i64 0, .int .i64 0] 43)
          have hB6 := W_hid h6.bel
          have hx := Blk.new w5 43 (fv ((j : Int) + 1) 1 1 0 0) (x := w5.heap.size) rfl
          have f0 := hx.cell (j := 0) rfl
          have f1 := hx.cell (j := 1) rfl
          have f2 := hx.cell (j := 2) rfl
          have f3 := hx.cell (j := 3) rfl
          have f4 := hx.cell (j := 4) rfl
          simp only [fv] at f0 f1 f2 f3 f4
          replace hx := W_hid hx
          clear h5 h6
          go_wp2_with fail
          go_ret
          exact ⟨rfl, hB6.out⟩
set_option maxRecDepth 100000 in
theorem ProcLowest_lifted (os : Os) (started : os.Started) (H : Type) (enc : TypeId × Value → H) :
    ReturnsInHanded {} Try.checked os 9 .any (Rows.procLowestSpec.pre6 enc Try.prog Try.f9 Rows.procLowestRow.domain false) (Rows.procLowestSpec.post enc Try.prog Try.f9 false true false false) := by
  refine returnsInHanded_of_change (C := Try.checked) (by kernel_rfl) started (by kernel_rfl) Try.func9
    (ChangeSpec.witness6 (enc := enc) (C := Try.checked) false ⟨#[], #[.slice none 0 0], []⟩ 8 (by kernel_rfl) (by kernel_rfl) (by kernel_rfl) (by kernel_rfl)) ?_
  intro W base args ds gs before hval0 hW hcnd _
  have hval : ∀ (j : Nat) t v, Try.f9.params[j]? = some t → args[j]? = some v → Value.okWide Try.prog W .any base t v := hval0
  have hW' := hW
  obtain ⟨p, q, hA0, hV, rfl, hfz, hnd⟩ := hW
  have hA : DataW.TrodAll enc Try.prog W 0 (fun _ => true) true Try.f9.params.toList args.toList ds p := hA0
  rw [Try.params9] at hA hval
  obtain ⟨v0, vs0, d0, ds0, p0, q0, hargs, rfl, rfl, h0, r0⟩ := trodAll_cons hA
  obtain ⟨rfl, rfl, rfl⟩ := trodAll_nil r0
  obtain rfl : args = #[v0] := by cases args; simp_all
  obtain ⟨rfl, rfl⟩ := trodVars_none hV
  have k0 := h0
  have lt0 : ∀ x ∈ p0, x.block < W.heap.size := by obtain ⟨m, hm⟩ := k0; exact DataW.trod_lt m _ _ _ hm
  obtain ⟨o0, n0, c0, l0, rfl, w0⟩ := open_ops14 (hval 0 22 v0 rfl rfl) h0
  clear hA0 hval0
  refine (ProcLowest_walk o0 n0 c0 l0 W w0).mono fun e W' ⟨he, bel⟩ => ?_
  subst he
  exact ⟨_, rfl, _, _, _, [], _, [], hW', trodAll_mk1 (shut_bool Try.underlying4 _), (trodAll_cons_mk (Below.trod laidOut (by kernel_rfl) (of_decide_eq_true (by kernel_rfl)) k0 bel lt0) trodAll_mk0), rfl, bel.frame _, fun h => by cases h⟩

/-- The given statement of ProcLowest. -/
theorem ProcLowest_holds : Rows.ProcLowestSaid :=
  OpenClaim.holds_of_wide 9 Try.f9 rfl rfl rfl rfl rfl rfl rfl ⟨rfl, rfl, rfl, rfl, rfl⟩ rfl rfl rfl rfl rfl (by kernel_rfl) Try.func9 (by kernel_rfl)
    (of_decide_eq_true (by kernel_rfl)) (by unfold Func.isWrapper; first | (rw [if_pos (by decide +kernel)]; kernel_rfl) | (rw [if_neg (by decide +kernel)]; exact ⟨rfl, rfl⟩))
    (fun os started H enc _ => ProcLowest_lifted os started H enc)


end Go.Proofs.Ytahcpimpmedbiaa

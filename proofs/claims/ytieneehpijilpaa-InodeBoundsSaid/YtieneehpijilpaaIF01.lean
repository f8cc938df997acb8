/- The law InodeBounds of layer 11 (package haywardlaw11): for every input it returns true, and its arguments read as before. No further condition. -/
import Derived.Test.YtieneehpijilpaaIL05
import Derived.Deep.MidRow

namespace Go.Proofs.Ytieneehpijilpaa
open Go.ChangeShapes Go.WideShapes Go.ChangeAt Go.RowKit
open Go.ChangeMaps (open_string shut_string)
set_option linter.unusedVariables false
set_option linter.unusedSimpArgs false

open IN

set_option maxRecDepth 100000 in
set_option maxHeartbeats 32000000 in
theorem InodeBounds_walk (o0 : Option Addr) (n0 c0 : Nat) (l0 : List OpT11) (w : World) (w0 : OS11 w o0 n0 c0 l0) :
    Calls Try.prog 4 #[.slice o0 n0 c0] w fun e w' => e = .returned (.bool true) ∧ Below w.heap.size w w' := by
  obtain ⟨hlen, hll, hops⟩ := w0
  have hlen2 : (n0 : Int) ≤ 9223372036854775807 := by unfold maxLen at hlen; omega
  have cS := W_hid (shown_any w)
  replace hops := W_hid hops
  replace hll := W_hid hll
  clear hlen
  have cap : ∀ w, (Instr.build 23 #[(0, .int .i64 6), (1, .int .i64 60), (2, .int .i64 3)]).run Try.prog w = .ok (.agg #[.int .i64 6, .int .i64 60, .int .i64 3, .int .i64 0, .int .i64 0, .int .i64 0, .int .i64 0]) w := fun w => by kernel_rfl
  go_enter Try.func4, Try.ntmps4
  go_wp2_with fail
  refine cS.out.mono ?_
  rintro e x0 ⟨rfl, b0⟩
  have b1 := b0.alloc b0.size (.cells #[.int .i64 6, .int .i64 60, .int .i64 3, .int .i64 0, .int .i64 0, .int .i64 0, .int .i64 0] 23)
  have hC := Blk.new x0 23 [.int .i64 6, .int .i64 60, .int .i64 3, .int .i64 0, .int .i64 0, .int .i64 0, .int .i64 0] rfl
  have hbase := b1.size
  have cN := New_yes 6 60 3 0 0 0 0 (x0.alloc (.cells #[.int .i64 6, .int .i64 60, .int .i64 3, .int .i64 0, .int .i64 0, .int .i64 0, .int .i64 0] 23)) (by unfold IN.Right; omega)
  have cR := fun w => rNew_yes 6 60 3 0 0 0 0 w (by unfold IN.Right; omega)
  have qf := hC.fz
  have q0 := hC.cell (j := 0) rfl
  have q1 := hC.cell (j := 1) rfl
  have q2 := hC.cell (j := 2) rfl
  have q3 := hC.cell (j := 3) rfl
  have q4 := hC.cell (j := 4) rfl
  have q5 := hC.cell (j := 5) rfl
  have q6 := hC.cell (j := 6) rfl
  unfold cap7 at cN cR
  replace cN := W_hid cN
  replace cR := W_hid cR
  replace b1 := W_hid b1
  replace hC := W_hid hC
  clear b0
  go_wp2_with fail
  refine cN.out.mono ?_
  rintro e x2 ⟨sg, mb, M, rfl, hP, b2⟩
  have hsz2 := b2.size
  have hC2 := hC.out.keep b2
  have p0 := hC2.cell (j := 0) rfl
  have p1 := hC2.cell (j := 1) rfl
  have p2 := hC2.cell (j := 2) rfl
  have p3 := hC2.cell (j := 3) rfl
  have p4 := hC2.cell (j := 4) rfl
  have p5 := hC2.cell (j := 5) rfl
  have p6 := hC2.cell (j := 6) rfl
  have b2 := W_hid (b1.out.trans (b2.mono hbase))
  obtain ⟨B0, hB0⟩ : ∃ B0, (x0.alloc (.cells #[.int .i64 6, .int .i64 60, .int .i64 3, .int .i64 0, .int .i64 0, .int .i64 0, .int .i64 0] 23)).heap.size = B0 := ⟨_, rfl⟩
  rw [hB0] at hP hbase hsz2
  have hP := W_hid hP
  have hC2 := W_hid hC2
  clear cN q0 q1 q2 q3 q4 q5 q6 qf
  go_wp2_with fail
  refine (cR.out x2).mono ?_
  rintro e x3 ⟨rg, rfl, hRS, b3⟩
  have hP := W_hid (hP.out.keep b3)
  have hC3 := W_hid (hC2.out.keep b3)
  have hs2 := b2.out.size
  have b3 := W_hid (b2.out.trans (b3.mono hs2))
  have hcap : Hid (x0.heap.size < B0) := W_hid (by rw [← hB0]; simp)
  have hB2 := W_hid hsz2
  rw [← lst_none 6] at hRS
  have hRS := W_hid hRS
  obtain ⟨b2', hb2'⟩ : ∃ x, x2.heap.size = x := ⟨_, rfl⟩
  rw [hb2'] at hRS hs2 hB2
  replace hb2' := W_hid hb2'
  replace hB0 := W_hid hB0
  obtain ⟨xc, hxc⟩ : ∃ xc, x0.heap.size = xc := ⟨_, rfl⟩
  clear cR p0 p1 p2 p3 p4 p5 p6 b2 hC2 hC b1
  go_wp2_with fail
  rw [hxc] at hC3 hcap
  replace hxc := W_hid hxc
  go_loopw [9] (fun v wr => ∃ (j : Nat) (S : Int → Option Nd), j ≤ n0 ∧ j ≤ 200 ∧ v = .int .i64 (j : Int) ∧ Hid (∃ M, PS B0 wr sg mb M 6 3 60 j S) ∧ Hid (RS b2' wr rg ((6 : Nat) : Int) ((60 : Nat) : Int) ((3 : Nat) : Int) (lst S 6)) ∧ Hid (Blk wr xc 23 [.int .i64 6, .int .i64 60, .int .i64 3, .int .i64 0, .int .i64 0, .int .i64 0, .int .i64 0]) ∧ Hid (Below w.heap.size w wr)) (fun v _ => n0 - (intOf v).toNat)
  case atStart => exact ⟨0, _, by omega, by omega, rfl, W_hid ⟨M, hP.out⟩, hRS, hC3, b3⟩
  case round =>
    clear hP b3 hRS hC3
    obtain ⟨j, S, hj, hj2, rfl, hP, hRS, hC, hb⟩ := hrel
    by_cases hlt : j < n0 ∧ j < 200
    · obtain ⟨hl1, hl2⟩ := hlt
      obtain ⟨blk, off, rfl, hblk, hc0, hc1, hc2, hc3, hc4, z1, z2, z3, z4, z5, z6, z7, z8, z9⟩ := hops.out j (by rw [hll.out]; exact hl1)
      obtain ⟨⟨kd, n, f, m, s⟩, hx⟩ : ∃ x, l0[j]'(by rw [hll.out]; exact hl1) = x := ⟨_, rfl⟩
      rw [hx] at hc0 hc1 hc2 hc3 hc4 z1 z2 z3 z4 z5 z6 z7 z8 z9
      simp only at hc0 hc1 hc2 hc3 hc4 z1 z2 z3 z4 z5 z6 z7 z8 z9
      have kk : ∀ {a : Nat} {u : Value}, w.cell? ⟨blk, a, none⟩ = some u → wr.cell? ⟨blk, a, none⟩ = some u := fun {a u} hc => by rw [hb.out.cell (p := ⟨blk, a, none⟩) hblk]; exact hc
      have k0 := kk hc0
      have k1 := kk hc1
      have k2 := kk hc2
      have k3 := kk hc3
      have k4 := kk hc4
      obtain ⟨M1, hP1⟩ := hP.out
      have cD := W_hid (does_any (B0 := B0) kd n f m s wr hP1 hRS.out (by omega) (by decide) ⟨z3, z4⟩ ⟨z5, z6⟩ ⟨z7, z8⟩ z9 (Nat.le_refl _) hB2.out hP1.low)
      clear kk hc0 hc1 hc2 hc3 hc4 hx hP1
      go_wp2_with fail
      refine cD.out.mono ?_
      rintro e w4 ⟨rfl, S', hP4, hR4, b4⟩
      obtain ⟨M4, hP4⟩ := hP4
      have hC4 := hC.out.below b4 hcap.out
      have cA := W_hid (All_any w4 hP4)
      have hF := W_hid hP4.fn
      replace hP4 := W_hid hP4
      replace hR4 := W_hid hR4
      replace hC4 := W_hid hC4
      have b4 := W_hid (hb.out.trans (b4.mono hbase))
      clear cD k0 k1 k2 k3 k4 hP hRS hC hb
      go_wp2_with fail
      refine cA.out.mono ?_
      rintro e w5 ⟨v5, rfl, ho5, b5⟩
      obtain ⟨ao5, c5, rfl, hel⟩ := IN.own_at ho5
      have hP5 := W_hid (hP4.out.keep b5)
      have hR5 := W_hid (hR4.out.keep b5)
      have hC5 := W_hid (hC4.out.keep b5)
      have b5 := W_hid (b4.out.trans (b5.mono b4.out.size))
      have hls := lst_len S' 6
      have htot := hF.out.tot
      have hmem : Hid (∀ i (hi : i < (lst S' 6).length), 1 ≤ (lst S' 6)[i].1 ∧ (lst S' 6)[i].1 ≤ 6 ∧ S' ((lst S' 6)[i].1 : Int) = some (lst S' 6)[i].2) := W_hid (fun i hi => mem_lst.1 (List.getElem_mem hi))
      have hps := W_hid (psum_le (lst S' 6))
      have hpa := W_hid (psum_all (lst S' 6))
      have hpn := W_hid (psum_succ (lst S' 6))
      have htt : Hid (((lst S' 6).map fun x => EM.cnt x.2.l).sum = tot S' 6) := W_hid rfl
      obtain ⟨Ls, hLs⟩ : ∃ Ls, lst S' 6 = Ls := ⟨_, rfl⟩
      rw [hLs] at hel hls hmem hps hpa hpn htt ⊢
      obtain ⟨N, hN⟩ : ∃ N, Ls.length = N := ⟨_, rfl⟩
      rw [hN] at hls ⊢
      replace hN := W_hid hN
      replace hel := W_hid hel
      replace hLs := W_hid hLs
      have q0 := hC5.out.cell (j := 0) rfl
      have q1 := hC5.out.cell (j := 1) rfl
      have q2 := hC5.out.cell (j := 2) rfl
      have hxl5 := hC5.out.lt
      clear cA ho5 hP4 hR4 hC4 b4
      obtain ⟨wa, rfl⟩ : ∃ wa, wa = wr := ⟨wr, rfl⟩
      go_wp2_with fail
      go_loopw [11, 12] (fun su k wr => ∃ (i : Nat), i ≤ N ∧ k = .int .i64 (i : Int) ∧ su = .int .i64 (psum Ls i : Int) ∧ Hid (Below w5.heap.size w5 wr)) (fun _ k _ => N - (intOf k).toNat)
      case atStart => exact ⟨0, Nat.zero_le _, rfl, rfl, W_hid (Below.refl _ _)⟩
      case round =>
        obtain ⟨i, hi, rfl, rfl, hbi⟩ := hrel
        by_cases hlt : i < N
        · have hil : i < Ls.length := by rw [hN.out]; exact hlt
          obtain ⟨bk, rfl, hbk, hcell⟩ := hel.out i hil
          have hm := hmem.out i hil
          have hsu := hpn.out i hil
          obtain ⟨⟨nj, dj⟩, hx⟩ : ∃ x, Ls[i] = x := ⟨_, rfl⟩
          rw [hx] at hcell hm hsu
          simp only at hcell hm hsu
          have hg := hF.out.good _ _ hm.2.2
          have hce := cnt_ends hg.ok
          have g1 := hg.links
          have g2 := hg.opens
          have g3 := hg.some
          have g4 := hg.fin
          have g5 := hg.size
          have hR := W_hid (range_six (o := i * 6) (cellkept hbi.out (hcell 0 _ rfl)) (cellkept hbi.out (hcell 1 _ rfl)) (cellkept hbi.out (hcell 2 _ rfl)) (cellkept hbi.out (hcell 3 _ rfl)) (cellkept hbi.out (hcell 4 _ rfl)) (cellkept hbi.out (hcell 5 _ rfl)))
          obtain ⟨lk, hlk⟩ : ∃ lk, dj.links = lk := ⟨_, rfl⟩
          obtain ⟨op, hop⟩ : ∃ op, dj.opens = op := ⟨_, rfl⟩
          obtain ⟨sz, hsz⟩ : ∃ sz, dj.size = sz := ⟨_, rfl⟩
          obtain ⟨cn, hcn⟩ : ∃ cn : Nat, EM.cnt dj.l = cn := ⟨_, rfl⟩
          rw [hlk] at g1 g3 hR
          rw [hop] at g2 g3 hR
          rw [hsz] at g4 g5 hR
          rw [hcn] at hce hsu hR
          have hps1 := hps.out (i + 1)
          rw [htt.out] at hps1
          have hsn : (psum Ls i : Int) + (cn : Int) = (psum Ls (i + 1) : Int) := by omega
          have hw1 : IntKind.i64.wrap ((psum Ls i : Int) + (cn : Int)) = (psum Ls (i + 1) : Int) := by rw [IntWalk.i64_in _ (by omega)]; exact hsn
          have hw2 : IntKind.i64.wrap (lk + op) = lk + op := IntWalk.i64_in _ (by omega)
          have d1 : decide (lk + op < 1) = false := by simp; omega
          have d2 : decide (lk < 0) = false := by simp; omega
          have d3 : decide (op < 0) = false := by simp; omega
          have d4 : decide ((3 : Int) < lk) = false := by simp; omega
          have d5 : decide ((nj : Int) < 1) = false := by simp; omega
          have d6 : decide ((6 : Int) < (nj : Int)) = false := by simp; omega
          have d7 : decide (sz < (cn : Int)) = false := by simp; omega
          have hxb := Blk.new wr 41 [.int .i64 (nj : Int), .int .i64 dj.kind, .int .i64 lk, .int .i64 op, .int .i64 sz, .int .i64 (cn : Int)] rfl
          have u0 := hxb.cell (j := 0) rfl
          have u2 := hxb.cell (j := 2) rfl
          have u3 := hxb.cell (j := 3) rfl
          have u4 := hxb.cell (j := 4) rfl
          have u5 := hxb.cell (j := 5) rfl
          have hCr := (hC5.out.keep hbi.out).alloc (.cells #[.int .i64 (nj : Int), .int .i64 dj.kind, .int .i64 lk, .int .i64 op, .int .i64 sz, .int .i64 (cn : Int)] 41)
          have t0 := hCr.cell (j := 0) rfl
          have t1 := hCr.cell (j := 1) rfl
          have t2 := hCr.cell (j := 2) rfl
          have hb2 := W_hid (hbi.out.alloc hbi.out.size (.cells #[.int .i64 (nj : Int), .int .i64 dj.kind, .int .i64 lk, .int .i64 op, .int .i64 sz, .int .i64 (cn : Int)] 41))
          have h1 : 0 ≤ (i : Int) := by omega
          replace hsn := W_hid hsn
          replace hlk := W_hid hlk
          replace hop := W_hid hop
          replace hsz := W_hid hsz
          replace hcn := W_hid hcn
          clear hcell hm hg hx hce hxb hCr hps1 hsu g4 hil
          go_wp2_with (first | (refine wpList_load_mid rfl 41 (.tmp 55) rfl bk (i * 6) rfl [.int .i64 (nj : Int), .int .i64 dj.kind, .int .i64 lk, .int .i64 op, .int .i64 sz, .int .i64 (cn : Int)] _ hR.out Try.underlying41 rfl (by kernel_rfl) ?_))
          go_roundw
          case rel => exact ⟨i + 1, by omega, by go_num, by first | rfl | trivial, hb2⟩
          case measure => simp [intOf]; omega
        · obtain rfl : i = N := by omega
          have hall := hpa.out i (Nat.le_of_eq hN.out)
          rw [htt.out] at hall
          have hd1 : decide ((60 : Int) < (psum Ls i : Int)) = false := by simp; omega
          have hd2 : decide ((6 : Int) < (i : Int)) = false := by simp; omega
          have hCr := hC5.out.keep hbi.out
          have t0 := hCr.cell (j := 0) rfl
          have t1 := hCr.cell (j := 1) rfl
          have hPf : Hid (∃ M, PS B0 wr sg mb M 6 3 60 (j + 1) S') := W_hid ⟨M4, hP5.out.keep hbi.out⟩
          have hRf := W_hid (hR5.out.keep hbi.out)
          rw [hLs.out] at hRf
          have hCf := W_hid hCr
          have hbf := W_hid (b5.out.trans (hbi.out.mono b5.out.size))
          replace hall := W_hid hall
          clear hCr
          go_wp2_with fail
          go_roundw
          case rel => exact ⟨j + 1, S', by omega, by omega, by go_num, hPf, W_hid (by rw [hLs.out]; exact hRf.out), hCf, hbf⟩
          case measure => simp [intOf]; omega
    · have hex : (¬ j < n0) ∨ (j < n0 ∧ ¬ j < 200) := by omega
      rcases hex with h1 | ⟨h1, h2⟩
      all_goals
        go_wp2_with fail
        go_ret
        exact ⟨rfl, hb.out⟩

set_option maxRecDepth 100000 in
theorem InodeBounds_lifted (os : Os) (started : os.Started) (H : Type) (enc : TypeId × Value → H) :
    ReturnsInHanded {} Try.checked os 4 .any (Rows.inodeBoundsSpec.pre6 enc Try.prog Try.f4 Rows.inodeBoundsRow.domain false) (Rows.inodeBoundsSpec.post enc Try.prog Try.f4 false true false false) := by
  refine returnsInHanded_of_change (C := Try.checked) (by kernel_rfl) started (by kernel_rfl) Try.func4
    (ChangeSpec.witness6 (enc := enc) (C := Try.checked) false ⟨#[], #[.slice none 0 0], []⟩ 8 (by kernel_rfl) (by kernel_rfl) (by kernel_rfl) (by kernel_rfl)) ?_
  intro W base args ds gs before hval0 hW hcnd _
  have hval : ∀ (j : Nat) t v, Try.f4.params[j]? = some t → args[j]? = some v → Value.okWide Try.prog W .any base t v := hval0
  have hW' := hW
  obtain ⟨p, q, hA0, hV, rfl, hfz, hnd⟩ := hW
  have hA : DataW.TrodAll enc Try.prog W 0 (fun _ => true) true Try.f4.params.toList args.toList ds p := hA0
  rw [Try.params4] at hA hval
  obtain ⟨v0, vs0, d0, ds0, p0, q0, hargs, rfl, rfl, h0, r0⟩ := trodAll_cons hA
  obtain ⟨rfl, rfl, rfl⟩ := trodAll_nil r0
  obtain rfl : args = #[v0] := by cases args; simp_all
  obtain ⟨rfl, rfl⟩ := trodVars_none hV
  have k0 := h0
  have lt0 : ∀ x ∈ p0, x.block < W.heap.size := by obtain ⟨m, hm⟩ := k0; exact DataW.trod_lt m _ _ _ hm
  obtain ⟨o0, n0, c0, l0, rfl, w0⟩ := open_ops11 (hval 0 24 v0 rfl rfl) h0
  clear hA0 hval0
  refine (InodeBounds_walk o0 n0 c0 l0 W w0).mono fun e W' ⟨he, bel⟩ => ?_
  subst he
  exact ⟨_, rfl, _, _, _, [], _, [], hW', trodAll_mk1 (shut_bool Try.underlying4 _), (trodAll_cons_mk (Below.trod laidOut (by kernel_rfl) (of_decide_eq_true (by kernel_rfl)) k0 bel lt0) trodAll_mk0), rfl, bel.frame _, fun h => by cases h⟩

/-- The given statement of InodeBounds. -/
theorem InodeBounds_holds : Rows.InodeBoundsSaid :=
  OpenClaim.holds_of_wide 4 Try.f4 rfl rfl rfl rfl rfl rfl rfl ⟨rfl, rfl, rfl, rfl, rfl⟩ rfl rfl rfl rfl rfl (by kernel_rfl) Try.func4 (by kernel_rfl)
    (of_decide_eq_true (by kernel_rfl)) (by unfold Func.isWrapper; first | (rw [if_pos (by decide +kernel)]; kernel_rfl) | (rw [if_neg (by decide +kernel)]; exact ⟨rfl, rfl⟩))
    (fun os started H enc _ => InodeBounds_lifted os started H enc)
end Go.Proofs.Ytieneehpijilpaa

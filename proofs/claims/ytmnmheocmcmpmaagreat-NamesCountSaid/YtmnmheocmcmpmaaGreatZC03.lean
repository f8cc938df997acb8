/- The law NamesCount of layer 12 (package haywardlaw12): for every input it returns true, and its arguments read as before. No further condition. -/
import Derived.Test.YtmnmheocmcmpmaaGreatZC02

namespace Go.Proofs.YtmnmheocmcmpmaaGreat
open Go.ChangeShapes Go.WideShapes Go.ChangeAt Go.RowKit Go.Maps
open Go.ChangeMaps (open_string shut_string)
set_option linter.unusedVariables false
set_option linter.unusedSimpArgs false
open RN
open NT
set_option maxRecDepth 100000 in
set_option maxHeartbeats 32000000 in
theorem NamesCount_walk (o0 : Option Addr) (n0 c0 : Nat) (l0 : List OpT12) (w : World) (w0 : OS12 w o0 n0 c0 l0) :
    Calls Tryz.prog 4 #[.slice o0 n0 c0] w fun e w' => e = .returned (.bool true) ∧ Below w.heap.size w w' := by
  have hlen2 : (n0 : Int) ≤ 9223372036854775807 := by have := w0.1; unfold maxLen at this; omega
  have hll := W_hid w0.2.1
  have cS := W_hid (shown12 w)
  have hops := W_hid (fun (W : World) (hb : Below w.heap.size w W) => show OS12 W o0 n0 c0 l0 from by
    obtain ⟨h1, h2, h3⟩ := w0
    refine ⟨h1, h2, fun j hj => ?_⟩
    obtain ⟨blk, off, e, hlt, k0, k1, k2, k3, z⟩ := h3 j hj
    have kk : ∀ {a : Nat} {u : Value}, w.cell? ⟨blk, a, none⟩ = some u → W.cell? ⟨blk, a, none⟩ = some u := fun {a u} hc => by rw [hb.cell (p := ⟨blk, a, none⟩) hlt]; exact hc
    exact ⟨blk, off, e, Nat.lt_of_lt_of_le hlt hb.size, kk k0, kk k1, kk k2, kk k3, z⟩)
  clear w0
  go_enter Tryz.func4, Tryz.ntmps4
  go_wp2_with fail
  refine cS.out.mono ?_
  rintro e w1 ⟨rfl, bb1⟩
  have B1 := W_hid bb1
  clear bb1 cS
  go_wp2_with fail
  go_loopw [4] (fun v wr => ∃ j : Nat, j ≤ n0 ∧ v = .int .i64 (j : Int) ∧ Hid (∀ i (hi : i < l0.length), i < j → l0[i].2.1.size ≤ 20 ∧ l0[i].2.2.1.size ≤ 20) ∧ w1 = wr) (fun v _ => n0 - (intOf v).toNat)
  case atStart => exact ⟨0, Nat.zero_le _, rfl, W_hid (fun i hi h => by omega), rfl⟩
  case round =>
    obtain ⟨j, hj, rfl, hsh, hwr⟩ := hrel
    subst hwr
    by_cases hlt : j < n0
    · obtain ⟨-, -, hel⟩ := hops.out w1 B1.out
      have hjl : j < l0.length := by rw [hll.out]; exact hlt
      obtain ⟨blk, off, rfl, hblk, hc0, hc1, hc2, hc3, z1, z2, z3, z4, z5, z6⟩ := hel j hjl
      have hnew : Hid (l0[j].2.1.size ≤ 20 → l0[j].2.2.1.size ≤ 20 → ∀ i (hi : i < l0.length), i < j + 1 → l0[i].2.1.size ≤ 20 ∧ l0[i].2.2.1.size ≤ 20) := W_hid (fun h1 h2 i hi h => by
        by_cases e : i = j
        · subst e; exact ⟨h1, h2⟩
        · exact hsh.out i hi (by omega))
      obtain ⟨⟨kd, s, t, n⟩, hx⟩ : ∃ x, l0[j] = x := ⟨_, rfl⟩
      rw [hx] at hc0 hc1 hc2 hc3 z1 z2 z3 z4 z5 z6 hnew
      simp only at hc0 hc1 hc2 hc3 z1 z2 z3 z4 z5 z6 hnew
      clear hx hel hc0 hc3 hsh
      by_cases h1 : s.size ≤ 20
      · by_cases h2 : t.size ≤ 20
        · have hsh2 := W_hid (hnew.out h1 h2)
          have g1 : ¬ (20 : Int) < (s.size : Int) := by omega
          have g2 : ¬ (20 : Int) < (t.size : Int) := by omega
          go_wp2_with fail
          go_roundw
          case rel => exact ⟨j + 1, by omega, by go_num, hsh2, by first | trivial | rfl⟩
          case measure => simp [intOf]; omega
        · have g1 : ¬ (20 : Int) < (s.size : Int) := by omega
          have g2 : (20 : Int) < (t.size : Int) := by omega
          go_wp2_with fail
          go_ret
          exact ⟨rfl, B1.out⟩
      · have g1 : (20 : Int) < (s.size : Int) := by omega
        go_wp2_with fail
        go_ret
        exact ⟨rfl, B1.out⟩
    · obtain rfl : j = n0 := by omega
      have cR := W_hid (run_core Shrt o0 j c0 l0 w1 (hops.out w1 B1.out) D0_short (fun i hi S D S' D' h hT => by
        obtain ⟨h1, h2⟩ := hsh.out i hi (by have := hll.out; omega)
        exact turn_short h h1 h2 hT))
      clear hops hsh
      go_wp2_with fail
      refine cR.out.mono ?_
      rintro e w2 ⟨b1', tg, sg, mb, S, D, hSh, rfl, hb1, hP2, bb2⟩
      have B2 := W_hid (B1.out.trans (bb2.mono B1.out.size))
      have cA := W_hid (all_p w2 hP2)
      have hti := hP2.ti
      replace hP2 := W_hid hP2
      clear bb2 cR hb1 B1
      obtain ⟨d1, hd1, -⟩ := hti.root
      obtain ⟨r1, hr1, -⟩ := hti.dir hd1
      obtain ⟨T, hT⟩ : ∃ T, IN.hi S 1 12 = T := ⟨_, rfl⟩
      have hL : IN.lst S 12 = (1, r1) :: T := by
        rw [IN.split S 1 12 (by decide) (by decide), hT]
        have e1 : IN.lo S 1 = [] := rfl
        rw [e1, show S ((1 : Nat) : Int) = some r1 from hr1]
        rfl
      have hrise := IN.lst_rise S 12
      rw [hL, List.pairwise_cons] at hrise
      have hTm : ∀ y ∈ T, S (y.1 : Int) = some y.2 ∧ (y.1 : Int) ≠ 1 := fun y hy => by
        have h1 := (IN.mem_lst.1 (show y ∈ IN.lst S 12 by rw [hL]; exact List.mem_cons_of_mem _ hy)).2.2
        have h2 := hrise.1 y hy
        exact ⟨h1, by simp at h2; omega⟩
      have hown : ∀ y ∈ T, sumT D (NT.one (y.1 : Int)) 12 1 = cnt D (y.1 : Int) 12 ∧ y.2.links = (cnt D (y.1 : Int) 12 : Int) ∧ (y.2.kind = 2 → cnt D (y.1 : Int) 12 = 1) := fun y hy => by
        obtain ⟨h1, h2⟩ := hTm y hy
        have h3 := own_cnt hti (y.1 : Int)
        have h4 := (hti.links _ _ h1).2
        rw [if_neg h2] at h4
        simp only [e0] at h4
        refine ⟨h3, by omega, fun hk => ?_⟩
        have := hti.one _ _ h1 hk
        omega
      have hX : (T.map fun y => (y.1 : Int)).Nodup := by
        unfold List.Nodup
        rw [List.pairwise_map]
        exact hrise.2.imp fun {a b} h e => by omega
      have htot := all_own hX (D := D) (fun n d y hD hy => by
        have hl := look_asc (hti.asc n d hD).1 y hy
        have hat : at_ D n y.1 = some y.2 := by unfold at_; rw [hD]; exact hl
        obtain ⟨x, hx⟩ := Option.ne_none_iff_exists'.1 (hti.has hat)
        have hn := hti.num y.2 (hti.has hat)
        have h1 := hti.not1 (by simp) hat
        have hm : (y.2.toNat, x) ∈ IN.lst S 12 := IN.mem_lst.2 ⟨by simp; omega, by simp; omega, by simp only; rw [show ((y.2.toNat : Nat) : Int) = y.2 by omega]; exact hx⟩
        rw [hL] at hm
        rcases List.mem_cons.1 hm with h2 | h2
        · simp only [Prod.mk.injEq] at h2; omega
        · exact List.mem_map.2 ⟨_, h2, by simp; omega⟩) 12 1
      rw [List.map_map] at htot
      have htot2 : sumT D (fun _ => 1) 12 1 = (T.map fun y => cnt D (y.1 : Int) 12).sum := by
        rw [htot]
        congr 1
        exact List.map_congr_left fun y hy => (hown y hy).1
      have hfew := sum_few hti (fun _ => 1) (fun _ => Nat.le_refl _) (f := 12) (n := 1) (a := 0) rfl
      have hd1' := W_hid hd1
      have cC := W_hid (fun (x : Int) (W : World) (hb : Below w2.heap.size w2 W) => show Calls Tryz.prog 24 #[.pointer (some ⟨tg, 0, none⟩), .string ⟨#[47]⟩, .int .i64 x, .int .i64 0] W fun e w' => e = .returned (.tuple #[.int .i64 (sumT D (fun _ => 1) 12 1 : Int), .int .i64 (sumT D (NT.one x) 12 1 : Int), .bool true]) ∧ Below W.heap.size W w' from NT.count_any hti (by decide) hSh x 12 0 1 [] d1 rfl rfl hd1 rfl (fun k hk => by cases hk) rfl W (hP2.out.keep hb))
      rw [htot2] at hfew
      simp only [htot2] at cC
      obtain ⟨M, hM⟩ : ∃ M, T.length = M := ⟨_, rfl⟩
      have hM12 : M ≤ 11 := by have := IN.lst_len S 12; rw [hL, List.length_cons] at this; omega
      obtain ⟨ALL, hALL⟩ : ∃ ALL, (T.map fun y => cnt D (y.1 : Int) 12).sum = ALL := ⟨_, rfl⟩
      rw [hALL] at hfew
      simp only [hALL] at cC
      replace hALL := W_hid hALL
      replace hown := W_hid hown
      replace hM := W_hid hM
      rw [hL] at cA
      clear hti hd1 hr1 hT hrise hTm hX htot htot2 hSh
      go_wp2_with fail
      refine cA.out.mono ?_
      rintro e w3 ⟨v3, rfl, ho3, bb3⟩
      obtain ⟨ao, cc, rfl, hcell⟩ := IN.own_at ho3
      rw [List.length_cons, hM.out]
      have hcell := W_hid hcell
      have B3 := W_hid (B2.out.trans (bb3.mono B2.out.size))
      have bb3 := W_hid bb3
      clear ho3 cA
      obtain ⟨blk0, rfl, hlt0, hc0⟩ := hcell.out 0 (by simp)
      have hc1 := W_hid (hc0 0 _ rfl)
      clear hc0
      go_wp2_with fail
      go_loopw [9, 10, 11, 12, 13] (fun v9 v10 v11 v12 v13 wr => ∃ (j s : Nat), j ≤ M ∧ v10 = .int .i64 ((j : Int) + 1) ∧ v9 = .int .i64 (s : Int) ∧ Hid (((T.take j).map fun y => cnt D (y.1 : Int) 12).sum = s) ∧ Hid (Below w3.heap.size w3 wr)) (fun _ v10 _ _ _ _ => M + 1 - (intOf v10).toNat)
      case atStart => exact ⟨0, 0, Nat.zero_le _, by go_num, rfl, W_hid rfl, W_hid (Below.refl _ _)⟩
      case round =>
        obtain ⟨k, s, hk, rfl, rfl, hs, hb⟩ := hrel
        have hbW := W_hid (B3.out.trans (hb.out.mono B3.out.size))
        by_cases hkM : k < M
        · have hkT : k < T.length := by rw [hM.out]; exact hkM
          obtain ⟨blk, hblk, -, hcc⟩ := hcell.out (k + 1) (by rw [List.length_cons]; omega)
          simp only [Option.some.injEq, Addr.mk.injEq, and_true] at hblk
          subst hblk
          rw [List.getElem_cons_succ] at hcc
          obtain ⟨g1, g2, g3⟩ := hown.out _ (List.getElem_mem hkT)
          have hst := take_sum (fun y : Nat × IN.Nd => cnt D (y.1 : Int) 12) T k hkT
          have hst2 := take_le (fun y : Nat × IN.Nd => cnt D (y.1 : Int) 12) T (k + 1)
          rw [hs.out] at hst
          rw [hALL.out] at hst2
          obtain ⟨⟨y1, y2⟩, hy⟩ : ∃ y, T[k] = y := ⟨_, rfl⟩
          rw [hy] at hcc g1 g2 g3 hst
          simp only at hcc g1 g2 g3 hst
          have h0 := hcc 0 _ rfl
          have h1 := hcc 1 _ rfl
          have h2 := hcc 2 _ rfl
          clear hcc
          rw [Nat.add_zero] at h0
          have kk : ∀ {a : Nat} {u : Value}, w3.cell? ⟨blk0, a, none⟩ = some u → wr.cell? ⟨blk0, a, none⟩ = some u := fun {a u} hc => (hb.out.cell (cell_lt hc)).trans hc
          have i0 := kk h0
          have cX := cC.out (y1 : Int) wr (bb3.out.trans (hb.out.mono bb3.out.size))
          rw [g1] at cX
          generalize cnt D (y1 : Int) 12 = q at *
          obtain ⟨s2, hs2⟩ : ∃ s2, ((T.take (k + 1)).map fun y : Nat × IN.Nd => cnt D (y.1 : Int) 12).sum = s2 := ⟨_, rfl⟩
          rw [hs2] at hst hst2
          replace hs2 := W_hid hs2
          replace cX := W_hid cX
          have hq : ((q : Int) != y2.links) = false := by simp [g2]
          have hq2 : ¬ (q : Int) ≠ y2.links := fun e => e g2.symm
          have hk2 : y2.kind = 2 ∧ q = 1 ∨ ((y2.kind == 2) = false ∧ ¬ y2.kind = 2) := by
            by_cases e : y2.kind = 2
            · exact .inl ⟨e, g3 e⟩
            · exact .inr ⟨by simpa using e, e⟩
          generalize y2.links = yl at *
          generalize y2.kind = yk at *
          clear hy g1 g3 h0 kk
          subst g2
          go_wp2_with fail
          refine cX.out.mono ?_
          rintro e w4 ⟨rfl, b4⟩
          have B4 := W_hid (hb.out.trans (b4.mono hb.out.size))
          have j1 : w4.cell? ⟨blk0, (k + 1) * 6 + 1, none⟩ = _ := (B4.out.cell (cell_lt h1)).trans h1
          have j2 : w4.cell? ⟨blk0, (k + 1) * 6 + 2, none⟩ = _ := (B4.out.cell (cell_lt h2)).trans h2
          clear b4 cX i0 h1 h2
          rcases hk2 with ⟨rfl, rfl⟩ | ⟨k3, k4⟩
          all_goals
            go_wp2_with fail
            go_roundw
            case rel => exact ⟨k + 1, s2, by omega, by go_num, by rw [hst]; go_num, hs2, B4⟩
            case measure => simp [intOf]; omega
        · obtain rfl : k = M := by omega
          have hs1 := hs.out
          rw [List.take_of_length_le (by rw [hM.out]; exact Nat.le_refl _), hALL.out] at hs1
          subst hs1
          have cX := W_hid (cC.out 0 wr (bb3.out.trans (hb.out.mono bb3.out.size)))
          have hc2 : wr.cell? ⟨blk0, 0, none⟩ = _ := (hb.out.cell (cell_lt hc1.out)).trans hc1.out
          clear hs hALL cC hown hcell
          go_wp2_with fail
          refine cX.out.mono ?_
          rintro e w4 ⟨rfl, b4⟩
          have hc4 := (b4.cell (cell_lt hc2)).trans hc2
          have B4 := W_hid (hbW.out.trans (b4.mono hbW.out.size))
          generalize (sumT D (NT.one 0) 12 1 : Int) = qq
          have hqq : ((ALL : Int) == (ALL : Int)) = true := by simp
          clear b4 hc2 cX
          go_wp2_with fail
          go_ret
          exact ⟨rfl, B4.out⟩
set_option maxRecDepth 100000 in
theorem NamesCount_lifted (os : Os) (started : os.Started) (H : Type) (enc : TypeId × Value → H) :
    ReturnsInHanded {} Tryz.checked os 4 .any (Rows.namesCountSpec.pre6 enc Tryz.prog Tryz.f4 Rows.namesCountRow.domain false) (Rows.namesCountSpec.post enc Tryz.prog Tryz.f4 false true false false) := by
  refine returnsInHanded_of_change (C := Tryz.checked) (by kernel_rfl) started (by kernel_rfl) Tryz.func4
    (ChangeSpec.witness6 (enc := enc) (C := Tryz.checked) false ⟨#[], #[.slice none 0 0], []⟩ 8 (by kernel_rfl) (by kernel_rfl) (by kernel_rfl) (by kernel_rfl)) ?_
  intro W base args ds gs before hval0 hW hcnd _
  have hval : ∀ (j : Nat) t v, Tryz.f4.params[j]? = some t → args[j]? = some v → Value.okWide Tryz.prog W .any base t v := hval0
  have hW' := hW
  obtain ⟨p, q, hA0, hV, rfl, hfz, hnd⟩ := hW
  have hA : DataW.TrodAll enc Tryz.prog W 0 (fun _ => true) true Tryz.f4.params.toList args.toList ds p := hA0
  rw [Tryz.params4] at hA hval
  obtain ⟨v0, vs0, d0, ds0, p0, q0, hargs, rfl, rfl, h0, r0⟩ := trodAll_cons hA
  obtain ⟨rfl, rfl, rfl⟩ := trodAll_nil r0
  obtain rfl : args = #[v0] := by cases args; simp_all
  obtain ⟨rfl, rfl⟩ := trodVars_none hV
  have k0 := h0
  have lt0 : ∀ x ∈ p0, x.block < W.heap.size := by obtain ⟨m, hm⟩ := k0; exact DataW.trod_lt m _ _ _ hm
  obtain ⟨o0, n0, c0, l0, rfl, w0⟩ := open_ops12 (hval 0 22 v0 rfl rfl) h0
  clear hA0 hval0
  refine (NamesCount_walk o0 n0 c0 l0 W w0).mono fun e W' ⟨he, bel⟩ => ?_
  subst he
  exact ⟨_, rfl, _, _, _, [], _, [], hW', trodAll_mk1 (shut_bool Tryz.underlying4 _), (trodAll_cons_mk (Below.trod laidOut (by kernel_rfl) (of_decide_eq_true (by kernel_rfl)) k0 bel lt0) trodAll_mk0), rfl, bel.frame _, fun h => by cases h⟩
theorem NamesCount_holds : Rows.NamesCountSaid :=
  OpenClaim.holds_of_wide 4 Tryz.f4 rfl rfl rfl rfl rfl rfl rfl ⟨rfl, rfl, rfl, rfl, rfl⟩ rfl rfl rfl rfl rfl (by kernel_rfl) Tryz.func4 (by kernel_rfl)
    (of_decide_eq_true (by kernel_rfl)) (by unfold Func.isWrapper; first | (rw [if_pos (by decide +kernel)]; kernel_rfl) | (rw [if_neg (by decide +kernel)]; exact ⟨rfl, rfl⟩))
    (fun os started H enc _ => NamesCount_lifted os started H enc)
end Go.Proofs.YtmnmheocmcmpmaaGreat

/- The law NamesDoes of layer 12 (package haywardlaw12): for every input it returns true, and its arguments read as before. No further condition. -/
import Derived.Test.YtmnmheocmcmpmaaGreatZX01
import Derived.Test.YtmnmheocmcmpmaaGreatZB10

namespace Go.Proofs.YtmnmheocmcmpmaaGreat
open Go.ChangeShapes Go.WideShapes Go.ChangeAt Go.RowKit Go.Maps
open Go.ChangeMaps (open_string shut_string)
set_option linter.unusedVariables false
set_option linter.unusedSimpArgs false
open RN
open NT (TW TP TI)
set_option maxRecDepth 100000 in
set_option maxHeartbeats 32000000 in
theorem NamesDoes_walk (a0 a1 : Int) (o2 : Option Addr) (n2 c2 : Nat) (l2 : List OpT12) (w : World) (w0 : (Lit.int .i64 a0).wf = true) (w1 : (Lit.int .i64 a1).wf = true) (w2 : OS12 w o2 n2 c2 l2) :
    Calls Tryz.prog 3 #[.int .i64 a0, .int .i64 a1, .slice o2 n2 c2] w fun e w' => e = .returned (.bool true) ∧ Below w.heap.size w w' := by
  obtain ⟨hlen, hll, hops⟩ := w2
  have hlen2 : (n2 : Int) ≤ 9223372036854775807 := by unfold maxLen at hlen; omega
  have cS := W_hid (NT.shown12 w)
  replace hops := W_hid hops
  replace hll := W_hid hll
  clear hlen w0 w1
  go_enter Tryz.func3, Tryz.ntmps3
  go_wp2_with fail
  refine cS.out.mono ?_
  rintro e w1 ⟨rfl, b1⟩
  have hC1 : Hid (Blk (w1.alloc (.cells #[.int .i64 a0, .int .i64 10, .int .i64 a1, .int .i64 0, .int .i64 0, .int .i64 0, .int .i64 0] 25)) w1.heap.size 25 [.int .i64 a0, .int .i64 10, .int .i64 a1, .int .i64 0, .int .i64 0, .int .i64 0, .int .i64 0]) := W_hid (Blk.new _ _ _ rfl)
  have B1 := W_hid (b1.alloc b1.size (.cells #[.int .i64 a0, .int .i64 10, .int .i64 a1, .int .i64 0, .int .i64 0, .int .i64 0, .int .i64 0] 25))
  clear cS b1
  by_cases hR : IN.Right a0 10 a1
  · have cM := W_hid (fun w => IN.rRight_yes a0 10 a1 0 0 0 0 w hR)
    have cO := W_hid (fun w => NT.opened12 a0 10 a1 w hR)
    have cQ := W_hid (fun w => IN.rNew_yes a0 10 a1 0 0 0 0 w hR)
    obtain ⟨r1, r2, r3, r4, r5, r6⟩ := hR
    obtain ⟨I, rfl⟩ : ∃ I : Nat, a0 = I := ⟨a0.toNat, by omega⟩
    obtain ⟨L, rfl⟩ : ∃ L : Nat, a1 = L := ⟨a1.toNat, by omega⟩
    have e10 : (10 : Int).toNat = 10 := rfl
    simp only [Int.toNat_natCast, e10] at cO
    unfold IN.cap7 at cM cO cQ
    have hI1 : 1 ≤ I := by omega
    have hI4 : I ≤ 4096 := by omega
    have hL1 : 1 ≤ L := by omega
    go_wp2_with fail
    refine (cM.out _).mono ?_
    rintro e w2 ⟨rfl, b2⟩
    have hC2 := hC1.out.keep b2
    have q0 := hC2.cell (j := 0) rfl
    have q1 := hC2.cell (j := 1) rfl
    have q2 := hC2.cell (j := 2) rfl
    have q3 := hC2.cell (j := 3) rfl
    have q4 := hC2.cell (j := 4) rfl
    have q5 := hC2.cell (j := 5) rfl
    have q6 := hC2.cell (j := 6) rfl
    have B2 := W_hid (B1.out.trans (b2.mono B1.out.size))
    replace hC2 := W_hid hC2
    clear b2 cM
    go_wp2_with fail
    refine (cO.out _).mono ?_
    rintro e w3 ⟨b1', sg, mb, tg, A, rfl, hb1, hP, hT, b3⟩
    have hC3 := hC2.out.keep b3
    have p0 := hC3.cell (j := 0) rfl
    have p1 := hC3.cell (j := 1) rfl
    have p2 := hC3.cell (j := 2) rfl
    have p3 := hC3.cell (j := 3) rfl
    have p4 := hC3.cell (j := 4) rfl
    have p5 := hC3.cell (j := 5) rfl
    have p6 := hC3.cell (j := 6) rfl
    have hB1 : w.heap.size ≤ b1' := Nat.le_trans B2.out.size hb1
    have hTW : Hid (∃ A, TW b1' tg sg mb I L 10 0 0 A NT.Sn NT.D0 w3) := W_hid ⟨A, hT, hP, TI.new hI1⟩
    have B3 := W_hid (B2.out.trans (b3.mono B2.out.size))
    clear hP hT hC3 b3 cO hb1 q0 q1 q2 q3 q4 q5 q6
    go_wp2_with fail
    refine (cQ.out _).mono ?_
    rintro e w4 ⟨rg, rfl, hRS, b4⟩
    have hTW := W_hid (show ∃ A, TW b1' tg sg mb I L 10 0 0 A NT.Sn NT.D0 w4 from by obtain ⟨A, h⟩ := hTW.out; exact ⟨A, h.keep b4⟩)
    have hB2 : w.heap.size ≤ w3.heap.size := B3.out.size
    rw [show ([] : List (Nat × IN.Nd)) = IN.lst (fun _ => none) I from (List.eq_nil_iff_forall_not_mem.2 fun x hx => by have := (IN.mem_lst.1 hx).2.2; cases this).symm] at hRS
    have cT := W_hid (rNewT w4 hRS hI1 hI4)
    have B4 := W_hid (B3.out.trans (b4.mono B3.out.size))
    clear hRS b4 cQ p0 p1 p2 p3 p4 p5 p6
    go_wp2_with fail
    refine cT.out.mono ?_
    rintro e w5 ⟨rt, rfl, hRW, hK⟩
    have hTW := W_hid (show ∃ A, TW b1' tg sg mb I L 10 0 0 A NT.Sn NT.D0 w5 from by obtain ⟨A, h⟩ := hTW.out; exact ⟨A, TW_other h hK⟩)
    have B5 := W_hid (B4.out.trans ((RN.below_keeps hK).mono hB2))
    obtain ⟨b2', hb2'⟩ : ∃ x, w3.heap.size = x := ⟨_, rfl⟩
    rw [hb2'] at hRW hB2
    replace hb2' := W_hid hb2'
    replace hRW := W_hid hRW
    clear cT hK B4 B3 B2 B1 hC2 hC1
    go_wp2_with fail
    go_loopw [17, 18] (fun v u wr => ∃ (j : Nat) (S : Int → Option IN.Nd) (D : NT.Ds), j ≤ n2 ∧ j ≤ 200 ∧ v = .int .i64 (j : Int) ∧ Hid (∃ A, TW b1' tg sg mb I L 10 0 j A S D wr) ∧ Hid (RW b2' rt rg I 10 L (2 * j) S D (kap D) wr) ∧ Hid (Below w.heap.size w wr)) (fun v _ _ => n2 - (intOf v).toNat)
    case atStart => exact ⟨0, _, _, by omega, by omega, rfl, hTW, hRW, B5⟩
    case round =>
      clear hTW B5 hRW
      obtain ⟨j, S, D, hj, hj2, rfl, hTW, hRW, hb⟩ := hrel
      by_cases hlt : j < n2 ∧ j < 200
      · obtain ⟨hl1, hl2⟩ := hlt
        obtain ⟨blk, off, rfl, hblk, hc0, hc1, hc2, hc3, z1, z2, z3, z4, z5, z6⟩ := hops.out j (by rw [hll.out]; exact hl1)
        obtain ⟨⟨kd, s, t, n⟩, hx⟩ : ∃ x, l2[j]'(by rw [hll.out]; exact hl1) = x := ⟨_, rfl⟩
        rw [hx] at hc0 hc1 hc2 hc3 z1 z2 z3 z4 z5 z6
        simp only at hc0 hc1 hc2 hc3 z1 z2 z3 z4 z5 z6
        have kk : ∀ {a : Nat} {u : Value}, w.cell? ⟨blk, a, none⟩ = some u → wr.cell? ⟨blk, a, none⟩ = some u := fun {a u} hc => by rw [hb.out.cell (p := ⟨blk, a, none⟩) hblk]; exact hc
        have k0 := kk hc0
        have k1 := kk hc1
        have k2 := kk hc2
        have k3 := kk hc3
        obtain ⟨A1, hT1⟩ := hTW.out
        have cD := W_hid (does12 (B0 := w.heap.size) kd n s t wr hT1 hRW.out (by assumption) (by assumption) hL1 (by omega) (by omega) (by omega) hB1 hB2 hb.out.size)
        clear kk hc0 hc1 hc2 hc3 hx hT1
        go_wp2_with fail
        refine cD.out.mono ?_
        rintro e w6 ⟨rfl, S', D', ⟨A6, hT6⟩, hR6, b6⟩
        obtain ⟨M6, hP6⟩ := hT6.ps
        have hfine := hP6.fn
        have hls := IN.lst_len S' I
        have cA := W_hid (IN.All_any w6 hP6)
        have cB := W_hid (fun W (hb' : Below w6.heap.size w6 W) => IN.rAll_any W hfine hI4 (hR6.rs.keep hb'))
        have hT6 := W_hid hT6
        have hR6 := W_hid hR6
        have B6 := W_hid (hb.out.trans b6)
        clear cD k0 k1 k2 k3 hP6 hfine b6
        go_wp2_with fail
        refine cA.out.mono ?_
        rintro e w7 ⟨v7, rfl, ho7, b7⟩
        have cB7 := W_hid (cB.out w7 b7)
        obtain ⟨a7, c7, rfl⟩ := Own.form ho7
        replace ho7 := W_hid ho7
        replace b7 := W_hid b7
        go_wp2_with fail
        refine cB7.out.mono ?_
        rintro e w8 ⟨v8, rfl, ho8, b8⟩
        have cE := W_hid (IN.Same_yes _ v8 _ _ (IN.lst S' I) w8 (by omega) (Own.below ho7.out b8) ho8)
        obtain ⟨a8, c8, rfl⟩ := Own.form ho8
        have b8 := W_hid (b7.out.trans (b8.mono b7.out.size))
        clear ho8 ho7
        go_wp2_with fail
        refine cE.out.mono ?_
        rintro e w9 ⟨rfl, b9⟩
        have b9 := W_hid (b8.out.trans (b9.mono b8.out.size))
        have hT9 : Hid (∃ A, TW b1' tg sg mb I L 10 0 (j + 1) A S' D' w9) := W_hid ⟨A6, hT6.out.keep b9.out⟩
        have hR9 : Hid (RW b2' rt rg I 10 L (2 * (j + 1)) S' D' (kap D') w9) := W_hid (hR6.out.keep b9.out)
        have B9 := W_hid (B6.out.trans (b9.out.mono B6.out.size))
        go_wp2_with fail
        go_roundw
        case rel => exact ⟨j + 1, S', D', by omega, by omega, by go_num, hT9, hR9, B9⟩
        case measure => simp [intOf]; omega
      · have hex : (¬ j < n2) ∨ (j < n2 ∧ ¬ j < 200) := by omega
        clear hTW hRW
        rcases hex with h1 | ⟨h1, h2⟩ <;>
        · go_wp2_with fail
          go_ret
          exact ⟨rfl, hb.out⟩
  · have cM := W_hid (fun w => IN.rRight_no a0 10 a1 0 0 0 0 w hR)
    unfold IN.cap7 at cM
    replace hR := W_hid hR
    go_wp2_with fail
    refine (cM.out _).mono ?_
    rintro e w2 ⟨rfl, b2⟩
    have B2 := W_hid (B1.out.trans (b2.mono B1.out.size))
    clear b2 cM
    go_wp2_with fail
    go_ret
    exact ⟨rfl, B2.out⟩
set_option maxRecDepth 100000 in
theorem NamesDoes_lifted (os : Os) (started : os.Started) (H : Type) (enc : TypeId × Value → H) :
    ReturnsInHanded {} Tryz.checked os 3 .any (Rows.namesDoesSpec.pre6 enc Tryz.prog Tryz.f3 Rows.namesDoesRow.domain false) (Rows.namesDoesSpec.post enc Tryz.prog Tryz.f3 false true false false) := by
  refine returnsInHanded_of_change (C := Tryz.checked) (by kernel_rfl) started (by kernel_rfl) Tryz.func3
    (ChangeSpec.witness6 (enc := enc) (C := Tryz.checked) false ⟨#[], #[.int .i64 0, .int .i64 0, .slice none 0 0], []⟩ 8 (by kernel_rfl) (by kernel_rfl) (by kernel_rfl) (by kernel_rfl)) ?_
  intro W base args ds gs before hval0 hW hcnd _
  have hval : ∀ (j : Nat) t v, Tryz.f3.params[j]? = some t → args[j]? = some v → Value.okWide Tryz.prog W .any base t v := hval0
  have hW' := hW
  obtain ⟨p, q, hA0, hV, rfl, hfz, hnd⟩ := hW
  have hA : DataW.TrodAll enc Tryz.prog W 0 (fun _ => true) true Tryz.f3.params.toList args.toList ds p := hA0
  rw [Tryz.params3] at hA hval
  obtain ⟨v0, vs0, d0, ds0, p0, q0, hargs, rfl, rfl, h0, r0⟩ := trodAll_cons hA
  obtain ⟨v1, vs1, d1, ds1, p1, q1, rfl, rfl, rfl, h1, r1⟩ := trodAll_cons r0
  obtain ⟨v2, vs2, d2, ds2, p2, q2, rfl, rfl, rfl, h2, r2⟩ := trodAll_cons r1
  obtain ⟨rfl, rfl, rfl⟩ := trodAll_nil r2
  obtain rfl : args = #[v0, v1, v2] := by cases args; simp_all
  obtain ⟨rfl, rfl⟩ := trodVars_none hV
  obtain ⟨a0, rfl, rfl, rfl, w0⟩ := open_int Tryz.underlying3 (hval 0 3 v0 rfl rfl) h0
  obtain ⟨a1, rfl, rfl, rfl, w1⟩ := open_int Tryz.underlying3 (hval 1 3 v1 rfl rfl) h1
  have k2 := h2
  have lt2 : ∀ x ∈ p2, x.block < W.heap.size := by obtain ⟨m, hm⟩ := k2; exact DataW.trod_lt m _ _ _ hm
  obtain ⟨o2, n2, c2, l2, rfl, w2⟩ := open_ops12 (hval 2 22 v2 rfl rfl) h2
  clear hA0 hval0
  refine (NamesDoes_walk a0 a1 o2 n2 c2 l2 W w0 w1 w2).mono fun e W' ⟨he, bel⟩ => ?_
  subst he
  exact ⟨_, rfl, _, _, _, [], _, [], hW', trodAll_mk1 (shut_bool Tryz.underlying4 _), (trodAll_cons_mk (shut_int Tryz.underlying3 w0) (trodAll_cons_mk (shut_int Tryz.underlying3 w1) (trodAll_cons_mk (Below.trod laidOut (by kernel_rfl) (of_decide_eq_true (by kernel_rfl)) k2 bel lt2) trodAll_mk0))), rfl, bel.frame _, fun h => by cases h⟩
theorem NamesDoes_holds : Rows.NamesDoesSaid :=
  OpenClaim.holds_of_wide 3 Tryz.f3 rfl rfl rfl rfl rfl rfl rfl ⟨rfl, rfl, rfl, rfl, rfl⟩ rfl rfl rfl rfl rfl (by kernel_rfl) Tryz.func3 (by kernel_rfl)
    (of_decide_eq_true (by kernel_rfl)) (by unfold Func.isWrapper; first | (rw [if_pos (by decide +kernel)]; kernel_rfl) | (rw [if_neg (by decide +kernel)]; exact ⟨rfl, rfl⟩))
    (fun os started H enc _ => NamesDoes_lifted os started H enc)
end Go.Proofs.YtmnmheocmcmpmaaGreat

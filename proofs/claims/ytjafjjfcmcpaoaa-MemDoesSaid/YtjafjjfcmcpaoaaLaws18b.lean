/- The law MemDoes of layer 18 (package haywardlaw18): for every input it returns true, and its arguments read as before. No further condition. -/
import Derived.Test.YtjafjjfcmcpaoaaMmBoth
namespace Go.Proofs.Ytjafjjfcmcpaoaa
open Go.ChangeShapes Go.WideShapes Go.ChangeAt Go.RowKit
set_option linter.unusedVariables false
set_option linter.unusedSimpArgs false
set_option maxRecDepth 100000
open MC

set_option maxRecDepth 100000 in
set_option maxHeartbeats 8000000 in
theorem MemDoes_walk (a0 : Int) (o1 : Option Addr) (n1 c1 : Nat) (l1 : List (Value × List In)) (a2 : Option Addr) (len2 cap2 : Nat) (z2 : List Int) (w : World) (w0 : (Lit.int .i64 a0).wf = true) (w1 : PA w o1 n1 l1) (w2 : IsRow .i64 w a2 len2 cap2 z2) (s2 : cap2 * 8 ≤ 140737488351232) :
    Calls Try.prog 3 #[.int .i64 a0, .slice o1 n1 c1, .slice a2 len2 cap2] w fun e w' => e = .returned (.bool true) ∧ Below w.heap.size w w' := by
  have hi0 : I64 a0 := bounds_i64 w0
  obtain ⟨hU, hU2, hU3⟩ := nu_row w2
  have hn63 := w1.1.2.1
  clear w0 w2
  by_cases hbig : 1000 < a0 ∧ a0 ≤ 65536
  · have h1 : 1000 < a0 := hbig.1
    have h2 : a0 ≤ 65536 := hbig.2
    clear hbig
    go_enter Try.func3, Try.ntmps3
    go_wp2_with (go_at_call 9; refine (shown_any _).mono ?_; rintro e w1 ⟨rfl, b1⟩; replace b1 := W_hid b1)
    go_ret
    exact ⟨rfl, b1.out⟩
  by_cases hok : newOK a0 n1
  · obtain ⟨C, rfl⟩ : ∃ C : Nat, a0 = C := ⟨a0.toNat, by have := hok.1; omega⟩
    have hC : (C : Int) ≤ 1000 := by have := hok.2.1; have := hok.1; omega
    have hn64 : n1 ≤ 64 := hok.2.2
    have hnl : n1 = l1.length := w1.1.1
    have hlf : ∀ x ∈ l1, (∀ y ∈ x.2, InFit y) ∧ x.2.length ≤ 3518437208880 := fun x hx => by
      obtain ⟨j, hj, rfl⟩ := List.getElem_of_mem hx
      obtain ⟨g, o, -, -, -, -, h5, h6⟩ := w1.1.2.2 j _ (List.getElem?_eq_getElem hj)
      exact ⟨h5, h6⟩
    have hF : Fit C (new C (l1.map Prod.snd)) := new_fit (fun p hp => by
      obtain ⟨x, hx, rfl⟩ := List.mem_map.1 hp
      exact hlf x hx) (by simp; omega)
    obtain ⟨S0, hS0⟩ : ∃ S, new C (l1.map Prod.snd) = S := ⟨_, rfl⟩
    have hp := W_hid (fun (W : World) (hb : Below w.heap.size w W) => New_yes (lo := w.heap.size) (cap := c1) (w1.1.below hb) hok hb.size)
    have hd := W_hid (fun (W : World) (hb : Below w.heap.size w W) => rNew_yes (cap := c1) (lo := w.heap.size) (w1.1.below hb) hok hb.size w1.2)
    rw [hS0] at hF hp hd
    replace hU := W_hid hU
    replace hok := W_hid hok
    replace hF := W_hid hF
    replace hS0 := W_hid hS0
    replace hnl := W_hid hnl
    have hbig2 : ¬ (1000 : Int) < (C : Int) := by omega
    clear w1 hbig hlf
    go_enter Try.func3, Try.ntmps3
    go_wp2_with (first
      | (go_at_call 9; refine (shown_any _).mono ?_; rintro e w1 ⟨rfl, b1⟩; replace b1 := W_hid b1)
      | (go_at_call 10; refine (hp.out _ b1.out).mono ?_; rintro e w2 ⟨gp, rfl, hP, b2⟩; have b2' := W_hid (b1.out.trans (b2.mono b1.out.size)); replace b2 := W_hid b2; replace hP := W_hid hP)
      | (go_at_call 11; refine (hd.out _ b2'.out).mono ?_; rintro e w3 ⟨gd, rfl, hD, b3⟩; have hJ : J w w3 gp gd C S0 S0 := ⟨⟨w1.heap.size, w2.heap.size, w2.heap.size, w3.heap.size, b1.out.size, Nat.le_refl _, hP.out.keep b3, hD⟩, b2'.out.trans (b3.mono b2'.out.size), hF.out, hF.out⟩; replace hJ := W_hid hJ; clear hD b3))
    clear hp hd hP b2 b2'
    replace b1 := W_hid b1
    go_loopw [12] (fun i wr => ∃ (k : Nat) (S : Ma), i = .int .i64 (k : Int) ∧ k ≤ len2 ∧ k ≤ 1000 ∧ Hid (J w wr gp gd C S S)) (fun i _ => 1000 - (intOf i).toNat)
    case atStart => exact ⟨0, S0, rfl, Nat.zero_le _, Nat.zero_le _, hJ⟩
    case round =>
      clear hJ
      obtain ⟨k, S, rfl, hk1, hk2, hJ⟩ := hrel
      by_cases hlt : k < len2 ∧ k < 1000
      · obtain ⟨hlt1, hlt2⟩ := hlt
        have hkl : k < (z2.take len2).length := by have := hU.out.1; omega
        obtain ⟨hi64, g, o, rfl, hgl, hc⟩ := hU.out.2.2 k _ (List.getElem?_eq_getElem hkl)
        have hcw : wr.cell? ⟨g, o + k, none⟩ = some (.int .i64 (z2.take len2)[k]) := by
          rw [World.cell?_of_block (w := w) (hJ.out.bel.block g hgl)]; exact hc
        obtain ⟨q, hq⟩ : ∃ q, (z2.take len2)[k] = q := ⟨_, rfl⟩
        rw [hq] at hcw hi64
        have hkp : IntKind.i64.wrap ((k : Int) + 1) = ((k + 1 : Nat) : Int) := by rw [IntWalk.i64_in _ (by omega)]; omega
        have hi1 : (k : Int) < (len2 : Int) := by omega
        have hi2 : (k : Int) < 1000 := by omega
        obtain ⟨T, A, hTA⟩ : ∃ T A, one S q = (T, A) := ⟨_, _, rfl⟩
        have hst := W_hid (hJ.out.pStep hi64)
        have hst2 := W_hid (fun W (h : J w W gp gd C (one S q).1 S) => h.dStep hi64)
        have hcw2 := W_hid (fun W (h : J w W gp gd C (one S q).1 S) => (by rw [World.cell?_of_block (w := w) (h.bel.block g hgl), hc, hq] : W.cell? ⟨g, o + k, none⟩ = some (.int .i64 q)))
        rw [hTA] at hst hst2 hcw2
        have hA := W_hid (fun W (h : J w W gp gd C T T) => h.pAt A)
        have hA2 := W_hid (fun W (h : J w W gp gd C T T) => h.dAt A)
        have hL := W_hid (fun W (h : J w W gp gd C T T) => h.pLive)
        have hL2 := W_hid (fun W (h : J w W gp gd C T T) => h.dLive)
        have hln : (live T.t).length ≤ 60000 := by
          have h1 := one_fit hJ.out.fp q
          rw [hTA] at h1
          have h2 : T.t.length ≤ 64 := h1.n
          have := live_len T.t
          omega
        obtain ⟨ln, hlnn⟩ : ∃ ln, (live T.t).length = ln := ⟨_, rfl⟩
        obtain ⟨X, hX⟩ : ∃ X, atM T A = X := ⟨_, rfl⟩
        rw [hlnn] at hL hL2 hln
        rw [hX] at hA hA2
        replace hlnn := W_hid hlnn
        replace hX := W_hid hX
        replace hTA := W_hid hTA
        replace hq := W_hid hq
        replace hc := W_hid hc
        replace hkp := W_hid hkp
        have hkp2 := hkp.out
        clear hi64
        go_wp2_with (first
          | (go_at_call 12; refine hst.out.mono ?_; rintro e v1 ⟨rfl, j1⟩; have k1 := hcw2.out _ j1; replace j1 := W_hid j1)
          | (go_at_call 13; refine (hst2.out _ j1.out).mono ?_; rintro e v2 ⟨rfl, j2⟩; replace j2 := W_hid j2)
          | (go_at_call 14; refine (hA.out _ j2.out).mono ?_; rintro e v3 ⟨rfl, j3⟩; replace j3 := W_hid j3)
          | (go_at_call 15; refine (hA2.out _ j3.out).mono ?_; rintro e v4 ⟨rfl, rfl⟩)
          | (go_at_call 17; refine (hL.out _ j3.out).mono ?_; rintro e v5 ⟨a5, c5, rfl, n5, j5, -⟩; replace n5 := W_hid n5; replace j5 := W_hid j5)
          | (go_at_call 18; refine (hL2.out _ j5.out).mono ?_; rintro e v6 ⟨a6, c6, rfl, n6, j6, b6⟩; have hsm := W_hid (Same_yes (c1 := c5) (c2 := c6) (n5.out.below b6) n6 hln); replace j6 := W_hid j6; clear n6 b6)
          | (go_at_call 16; refine hsm.out.mono ?_; rintro e v7 ⟨rfl, b7⟩; have j7 := W_hid (j6.out.keep b7)))
        exact ⟨⟨k + 1, T, by simp [hkp2], by omega, by omega, j7⟩, by simp [intOf]; omega⟩
      · have hex : (len2 : Int) ≤ (k : Int) ∨ ((k : Int) < (len2 : Int) ∧ (1000 : Int) ≤ (k : Int)) := by omega
        have hS := W_hid (fun W i (h : J w W gp gd C S S) => h.pCell i)
        have hS2 := W_hid (fun W i (h : J w W gp gd C S S) => h.dCell i)
        have hR := W_hid (fun W t i (h : J w W gp gd C S S) => h.pReg t i)
        have hR2 := W_hid (fun W t i (h : J w W gp gd C S S) => h.dReg t i)
        have hA := W_hid (fun W t (h : J w W gp gd C S S) => h.pAt t)
        have hA2 := W_hid (fun W t (h : J w W gp gd C S S) => h.dAt t)
        rcases hex with hex | ⟨hex1, hex2⟩ <;> (
          go_wp2_with fail
          obtain ⟨wa, rfl⟩ : ∃ wa, wa = wr := ⟨wr, rfl⟩
          go_loopw [15] (fun i wr => ∃ (I : Int), i = .int .i64 I ∧ -1 ≤ I ∧ I ≤ (C : Int) + 1 ∧ Hid (J w wr gp gd C S S)) (fun i _ => (C + 1 - intOf i).toNat)
          case atStart => exact ⟨-1, rfl, by omega, by omega, hJ⟩
          case round =>
            obtain ⟨I, rfl, hI1, hI2, hJ2⟩ := hrel
            by_cases hle : I ≤ (C : Int)
            · have hkp : IntKind.i64.wrap (I + 1) = I + 1 := IntWalk.i64_in _ (by omega)
              obtain ⟨X, hX⟩ : ∃ X, cellM S I = X := ⟨_, rfl⟩
              have c1' := W_hid (hS.out wr I hJ2.out)
              have c2' := W_hid (hS2.out wr I hJ2.out)
              rw [hX] at c1' c2'
              replace hX := W_hid hX
              go_wp2_with (first
                | (go_at_call 19; refine c1'.out.mono ?_; rintro e v1 ⟨rfl, rfl⟩)
                | (go_at_call 20; refine c2'.out.mono ?_; rintro e v1 ⟨rfl, rfl⟩))
              exact ⟨⟨I + 1, rfl, by omega, by omega, hJ2⟩, by simp [intOf]; omega⟩
            · go_wp2_with fail
              obtain ⟨wb, rfl⟩ : ∃ wb, wb = wr := ⟨wr, rfl⟩
              go_loopw [16] (fun i wr => ∃ (I : Int), i = .int .i64 I ∧ -1 ≤ I ∧ I ≤ (n1 : Int) + 1 ∧ Hid (J w wr gp gd C S S)) (fun i _ => (n1 + 1 - intOf i).toNat)
              case atStart => exact ⟨-1, rfl, by omega, by omega, hJ2⟩
              case round =>
                obtain ⟨I2, rfl, hI3, hI4, hJ3⟩ := hrel
                by_cases hle2 : I2 ≤ (n1 : Int)
                · have hkp : IntKind.i64.wrap (I2 + 1) = I2 + 1 := IntWalk.i64_in _ (by omega)
                  go_wp2_with fail
                  obtain ⟨wd, rfl⟩ : ∃ wd, wd = wr := ⟨wr, rfl⟩
                  go_loopw [17] (fun i wr => ∃ (I : Int), i = .int .i64 I ∧ -1 ≤ I ∧ I ≤ 9 ∧ Hid (J w wr gp gd C S S)) (fun i _ => (9 - intOf i).toNat)
                  case atStart => exact ⟨-1, rfl, by omega, by omega, hJ3⟩
                  case round =>
                    obtain ⟨I3, rfl, hI5, hI6, hJ4⟩ := hrel
                    by_cases hle3 : I3 ≤ 8
                    · have hkp3 : IntKind.i64.wrap (I3 + 1) = I3 + 1 := IntWalk.i64_in _ (by omega)
                      obtain ⟨X, hX⟩ : ∃ X, regM S I2 I3 = X := ⟨_, rfl⟩
                      obtain ⟨Y, hY⟩ : ∃ Y, atM S I2 = Y := ⟨_, rfl⟩
                      have d1 := W_hid (hR.out wr I2 I3 hJ4.out)
                      have d2 := W_hid (fun W h => hR2.out W I2 I3 h)
                      have d3 := W_hid (fun W h => hA.out W I2 h)
                      have d4 := W_hid (fun W h => hA2.out W I2 h)
                      rw [hX] at d1 d2
                      rw [hY] at d3 d4
                      replace hX := W_hid hX
                      replace hY := W_hid hY
                      go_wp2_with (first
                        | (go_at_call 21; refine d1.out.mono ?_; rintro e v1 ⟨rfl, j1⟩; replace j1 := W_hid j1)
                        | (go_at_call 22; refine (d2.out _ j1.out).mono ?_; rintro e v2 ⟨rfl, rfl⟩)
                        | (go_at_call 14; refine (d3.out _ j1.out).mono ?_; rintro e v3 ⟨rfl, j3⟩; replace j3 := W_hid j3)
                        | (go_at_call 15; refine (d4.out _ j3.out).mono ?_; rintro e v4 ⟨rfl, rfl⟩))
                      exact ⟨⟨I3 + 1, rfl, by omega, by omega, j3⟩, by simp [intOf]; omega⟩
                    · go_wp2_with fail
                      exact ⟨⟨I2 + 1, rfl, by omega, by omega, hJ4⟩, by simp [intOf]; omega⟩
                · go_wp2_with fail
                  go_ret
                  exact ⟨rfl, hJ3.out.bel⟩)
  · have hp := W_hid (fun W => New_no (w := W) (ao := o1) (cap := c1) hi0 hok hn63)
    have hd := W_hid (fun W => rNew_no (w := W) (ao := o1) (cap := c1) hi0 hok hn63)
    have hb3 : (1000 : Int) < a0 → ¬ a0 ≤ 65536 := fun h1 h2 => hbig ⟨h1, h2⟩
    clear hok hbig hU w1
    by_cases h1 : 1000 < a0
    · have h2 : ¬ a0 ≤ 65536 := hb3 h1
      clear hb3
      go_enter Try.func3, Try.ntmps3
      go_wp2_with (first
        | (go_at_call 9; refine (shown_any _).mono ?_; rintro e w1 ⟨rfl, b1⟩; replace b1 := W_hid b1)
        | (go_at_call 10; refine (hp.out _).mono ?_; rintro e w2 ⟨rfl, rfl⟩)
        | (go_at_call 11; refine (hd.out _).mono ?_; rintro e w2 ⟨rfl, rfl⟩))
      go_ret
      exact ⟨rfl, b1.out⟩
    · clear hb3
      go_enter Try.func3, Try.ntmps3
      go_wp2_with (first
        | (go_at_call 9; refine (shown_any _).mono ?_; rintro e w1 ⟨rfl, b1⟩; replace b1 := W_hid b1)
        | (go_at_call 10; refine (hp.out _).mono ?_; rintro e w2 ⟨rfl, rfl⟩)
        | (go_at_call 11; refine (hd.out _).mono ?_; rintro e w2 ⟨rfl, rfl⟩))
      go_ret
      exact ⟨rfl, b1.out⟩
set_option maxRecDepth 100000 in
theorem MemDoes_lifted (os : Os) (started : os.Started) (H : Type) (enc : TypeId × Value → H) :
    ReturnsInHanded {} Try.checked os 3 .any (Rows.memDoesSpec.pre6 enc Try.prog Try.f3 Rows.memDoesRow.domain false) (Rows.memDoesSpec.post enc Try.prog Try.f3 false true false false) := by
  refine returnsInHanded_of_change_sized (C := Try.checked) (by kernel_rfl) started (by kernel_rfl) Try.func3
    (ChangeSpec.witness6 (enc := enc) (C := Try.checked) false ⟨#[], #[.int .i64 0, .slice none 0 0, .slice none 0 0], []⟩ 8 (by kernel_rfl) (by kernel_rfl) (by kernel_rfl) (by kernel_rfl)) ?_
  intro W base args ds gs before hval0 hW hcnd hsz0 _
  have hsz : (DataW.weightsEach Try.prog (Try.f3.params.toList ++ Rows.memDoesSpec.plain.varTypes Try.prog) (ds ++ gs)).all (· ≤ reachBytes) = true := hsz0
  clear hsz0
  have hval : ∀ (j : Nat) t v, Try.f3.params[j]? = some t → args[j]? = some v → Value.okWide Try.prog W .any base t v := hval0
  have hW' := hW
  obtain ⟨p, q, hA0, hV, rfl, hfz, hnd⟩ := hW
  have hA : DataW.TrodAll enc Try.prog W 0 (fun _ => true) true Try.f3.params.toList args.toList ds p := hA0
  rw [Try.params3] at hA hval hsz
  obtain ⟨v0, vs0, d0, ds0, p0, q0, hargs, rfl, rfl, h0, r0⟩ := trodAll_cons hA
  obtain ⟨v1, vs1, d1, ds1, p1, q1, rfl, rfl, rfl, h1, r1⟩ := trodAll_cons r0
  obtain ⟨v2, vs2, d2, ds2, p2, q2, rfl, rfl, rfl, h2, r2⟩ := trodAll_cons r1
  obtain ⟨rfl, rfl, rfl⟩ := trodAll_nil r2
  obtain rfl : args = #[v0, v1, v2] := by cases args; simp_all
  obtain ⟨rfl, rfl⟩ := trodVars_none hV
  obtain ⟨a0, rfl, rfl, rfl, w0⟩ := open_int Try.underlying3 (hval 0 3 v0 rfl rfl) h0
  have k1 := h1
  have lt1 : ∀ x ∈ p1, x.block < W.heap.size := by obtain ⟨m, hm⟩ := k1; exact DataW.trod_lt m _ _ _ hm
  obtain ⟨o1, n1, c1, l1, rfl, w1⟩ := open_progs (hval 1 22 v1 rfl rfl) h1 fun q hq => of_decide_eq_true (List.all_eq_true.1 hsz _ (DataW.weights_mem_each (j := 1) (t := 22) rfl rfl q hq))
  obtain ⟨a2, len2, cap2, rfl⟩ := okWide_slice Try.underlying23 (hval 2 23 v2 rfl rfl)
  have k2 := h2
  have lt2 : ∀ x ∈ p2, x.block < W.heap.size := by obtain ⟨m, hm⟩ := k2; exact DataW.trod_lt m _ _ _ hm
  obtain ⟨z2, w2, s2⟩ : ∃ zs, IsRow .i64 W a2 len2 cap2 zs ∧ cap2 * 8 ≤ 140737488351232 := by
    obtain ⟨fuel, hf⟩ := h2
    rcases open_ints Try.underlying23 Try.underlying3 (by kernel_rfl) hf with ⟨hcs, _⟩ | ⟨x, l, c, zs, hcs, _, hl, hm, hz, hx, hcell, hwz⟩
    · simp [Value.cells] at hcs
      obtain ⟨rfl, rfl, rfl⟩ := hcs
      exact ⟨[], .inl ⟨rfl, rfl, rfl, rfl⟩, by simp⟩
    · simp [Value.cells] at hcs
      obtain ⟨rfl, rfl, rfl⟩ := hcs
      have hs := sized_slice hsz (j := 2) (t := 23) (e := 3) rfl (congrArg some (Prod.mk.inj hx).1) Try.underlying23
      rw [show Try.prog.bytesOf 3 = 8 from by kernel_rfl] at hs
      have hz2 : zs.length = cap2 := by simpa using hz
      simp only [lits, List.length_map, List.length_take, List.length_drop, reachBytes] at hs
      exact ⟨zs, .inr ⟨_, rfl, hl, hm, hz2, hcell, hwz⟩, by omega⟩
  clear hA0 hval0
  refine (MemDoes_walk a0 o1 n1 c1 l1 a2 len2 cap2 z2 W w0 w1 w2 s2).mono fun e W' ⟨he, bel⟩ => ?_
  subst he
  exact ⟨_, rfl, _, _, _, [], _, [], hW', trodAll_mk1 (shut_bool Try.underlying4 _), (trodAll_cons_mk (shut_int Try.underlying3 w0) (trodAll_cons_mk (Below.trod laidOut (by kernel_rfl) (of_decide_eq_true (by kernel_rfl)) k1 bel lt1) (trodAll_cons_mk (Below.trod laidOut (by kernel_rfl) (of_decide_eq_true (by kernel_rfl)) k2 bel lt2) trodAll_mk0))), rfl, bel.frame _, fun h => by cases h⟩

/-- The given statement of MemDoes. -/
theorem MemDoes_holds : Rows.MemDoesSaid :=
  OpenClaim.holds_of_wide 3 Try.f3 rfl rfl rfl rfl rfl rfl rfl ⟨rfl, rfl, rfl, rfl, rfl⟩ rfl rfl rfl rfl rfl (by kernel_rfl) Try.func3 (by kernel_rfl)
    (of_decide_eq_true (by kernel_rfl)) (by unfold Func.isWrapper; first | (rw [if_pos (by decide +kernel)]; kernel_rfl) | (rw [if_neg (by decide +kernel)]; exact ⟨rfl, rfl⟩))
    (fun os started H enc _ => MemDoes_lifted os started H enc)

end Go.Proofs.Ytjafjjfcmcpaoaa

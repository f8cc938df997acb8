/- The law SchedTurns of layer 15 (package haywardlaw15): for every input it returns true, and its arguments read as before. No further condition. -/
import Derived.Test.YtondgjgfmngadaaSchTurn
import Derived.BigQuiet
import Derived.Deep.OwnRows
import Derived.ChangeOld
import Derived.ShutString
namespace Go.Proofs.Ytondgjgfmngadaa
open Go.ChangeShapes Go.WideShapes Go.ChangeAt Go.RowKit
set_option linter.unusedVariables false
set_option linter.unusedSimpArgs false
set_option maxRecDepth 100000
open SD
open IN (Keeps lt_of_some)
namespace SD
theorem make_ints (m : Nat) (hm : m ≤ 65536) : ∃ X : Obj, (∀ w : World, (Instr.makeSlice 28 (.int .i64 (m : Int)) (.int .i64 (m : Int))).run Try.prog w = .ok (.slice (some ⟨w.heap.size, 0, none⟩) m m) (w.alloc X)) ∧
    ∀ w : World, Blk (w.alloc X) w.heap.size TI (icl (List.replicate m 0)) := by
  refine ⟨_, fun w => run_make_row' (P := Try.prog) 28 TI (.int .i64 0) 8 Try.underlying28 (by kernel_rfl) rfl .i64 .i64 m (by omega) (by omega) w, fun w => ?_⟩
  rw [made_list, show icl (List.replicate m 0) = List.replicate m (.int .i64 0) by simp [icl]]
  exact Blk.new w _ _ rfl
theorem J.store {b : Nat} {w0 w : World} {qb rb c : Nat} {S1 S2 : Qs} {Z : Nat → Prop} (h : J b w0 qb rb c S1 S2 Z w) {p : Addr} (hp : Z p.block) (hb : b ≤ p.block) (hbb : b = w0.heap.size) (u : Value) : J b w0 qb rb c S1 S2 Z (w.setCell p u) := by
  obtain ⟨X, Y, h1, h2, h3, h4, h5, h6, h7⟩ := h
  have hlt := (h4 _ hp).2.2
  have hK : Keeps b (fun k _ => k = p.block) w (w.setCell p u) := (Keeps.refl b _ w).setCell (p := p) (Array.getElem?_eq_getElem hlt) rfl hb u
  refine ⟨X, Y, h1.keeps hK fun k hk e => (h4 _ hp).1 (e ▸ hk), h2.keeps hK fun k hk e => (h4 _ hp).2.1 (e ▸ hk), h3, fun k hk => ⟨(h4 k hk).1, (h4 k hk).2.1, Nat.lt_of_lt_of_le (h4 k hk).2.2 hK.size⟩, h5, h6, h7.trans (hK.below (Nat.le_refl _))⟩
theorem J.docL {b : Nat} {w0 w : World} {qb rb c : Nat} {S1 S2 : Qs} {Z : Nat → Prop} (h : J b w0 qb rb c S1 S2 Z w) : ∃ al cl, w.cell? ⟨rb, 1, none⟩ = some (.slice al S2.L.length cl) := by
  obtain ⟨X, Y, -, ⟨vp, vl, hD, -⟩, -⟩ := h
  obtain ⟨al, cl, e⟩ := Own.form hD.lst
  exact ⟨al, cl, by rw [← e]; exact hD.box.cell (j := 1) rfl⟩
theorem tot_le (n q i k : Nat) : tot n q i k ≤ q * n + i := by
  unfold tot
  have := Nat.mul_le_mul_left q (Nat.min_le_right k n)
  have := Nat.min_le_right (min k n) i
  omega
theorem icl_set' (l : List Int) (i : Nat) (x : Int) : (icl l).set i (.int .i64 x) = icl (l.set i x) := icl_set l i x
end SD

set_option maxRecDepth 100000 in
set_option maxHeartbeats 16000000 in
theorem SchedTurns_walk (o0 : Option Addr) (n0 c0 : Nat) (l0 : List OpT15) (a1 : Int) (w : World) (w0 : OS15 w o0 n0 c0 l0) (w1 : (Lit.int .i64 a1).wf = true) :
    Calls Try.prog 4 #[.slice o0 n0 c0, .int .i64 a1] w fun e w' => e = .returned (.bool true) ∧ Below w.heap.size w w' := by
  have cS := W_hid (shown15 w)
  clear w1
  go_enter Try.func4, Try.ntmps4
  go_wp2_with fail
  refine cS.out.mono ?_
  rintro e w1 ⟨rfl, b1⟩
  have cR := W_hid (ran15 o0 n0 c0 l0 w1 (os_keep w0 b1))
  have hb1 := W_hid b1
  clear cS w0 b1
  go_wp2_with fail
  refine cR.out.mono ?_
  rintro e w2 ⟨qb, rb, rfl, S, hJ2⟩
  have hG := W_hid hJ2.good
  have cA := W_hid (hJ2.rdy (by omega))
  obtain ⟨m, hm⟩ : ∃ m : Int, (if (1000 : Int) < a1 then 1000 else a1) = m := ⟨_, rfl⟩
  obtain ⟨T, hT⟩ : ∃ T : Nat, (if 0 < m then m else 0) = (T : Int) := by
    by_cases h0 : 0 < m
    · exact ⟨m.toNat, by rw [if_pos h0]; omega⟩
    · exact ⟨0, by rw [if_neg h0]; rfl⟩
  have hT1 : T ≤ 1000 := by
    have h1 : m ≤ 1000 := by rw [← hm]; split <;> omega
    split at hT <;> omega
  clear cR hJ2
  go_wp2_with fail
  refine cA.out.mono ?_
  rintro e w3 ⟨v, rfl, ho3, -, hJ3, -⟩
  obtain ⟨av, cv, rfl⟩ := Own.form ho3
  obtain ⟨N, hN⟩ : ∃ N, (ready S).length = N := ⟨_, rfl⟩
  have hN1 : N ≤ 100 := by rw [← hN, ready_len hG.out]; exact hG.out.llen
  have hSL : Hid (S.L.length = N) := W_hid (by rw [← hN, ready_len hG.out])
  obtain ⟨X, hmk, hmB⟩ := make_ints N (by omega)
  obtain ⟨mb, hmb⟩ : ∃ mb, w3.heap.size = mb := ⟨_, rfl⟩
  have hblk : ∀ j, (Value.slice av (ready S).length cv).ownBlock = some j → j < mb := fun j hj => by
    obtain ⟨cur, hc⟩ := own_obj ho3 hj
    rw [← hmb]; exact lt_of_some hc
  have hbX : Below w3.heap.size w3 (w3.alloc X) := (Below.refl _ _).alloc (Nat.le_refl _) X
  have hJ4 : J w1.heap.size w1 qb rb 100 S S (fun k => (False ∨ (Value.slice av (ready S).length cv).ownBlock = some k) ∨ k = mb) (w3.alloc X) := hJ3.more hbX fun k hk => by
    subst hk
    rw [hmb]
    exact ⟨Nat.le_refl _, by simp [hmb]⟩
  have hM4 : Blk (w3.alloc X) mb TI (icl (List.replicate N 0)) := by rw [← hmb]; exact hmB w3
  have hk4 : Hid (∀ j, (Value.slice av (ready S).length cv).ownBlock = some j → (w3.alloc X).heap[j]? = w3.heap[j]?) := W_hid fun j hj => hbX.block j (by rw [hmb]; exact hblk j hj)
  have hmbw : Hid (w1.heap.size ≤ mb) := W_hid (by rw [← hmb]; exact hJ3.ble)
  have hblk := W_hid hblk
  have ho3 := W_hid ho3
  have hJ4 := W_hid hJ4
  have hM4 := W_hid hM4
  obtain ⟨W4, hW4⟩ : ∃ W4, w3.alloc X = W4 := ⟨_, rfl⟩
  rw [hW4] at hJ4 hM4 hk4
  have hmk3 := hmk w3
  rw [hmb, hW4] at hmk3
  have hN := W_hid hN
  replace hmb := W_hid hmb
  replace hW4 := W_hid hW4
  rw [hN.out]
  clear cA hJ3 hmk hmB hbX
  cases hr : ready S with
  | nil =>
    have hNz : Hid ((ready S).length = 0) := W_hid (by rw [hr]; rfl)
    have cN := W_hid (J.callP (f := 16) (args := #[ptr qb]) (r := .returned (.tuple #[.int .i64 0, .int .i64 25])) (S' := S) (c' := 100) (Nat.le_refl _) (fun h => h) (fun X hT hG => by have := Next_any hT hG (by omega); rw [show nextR S = ((0, 25), S) by unfold nextR; rw [hr]] at this; exact this) hJ4.out)
    clear hr
    go_wp2_with fail
    go_loopw [10, 11, 12, 13] (fun x _ _ _ wr => x = .int .i64 0 ∧ W4 = wr) (fun x _ _ _ _ => T - (intOf x).toNat)
    case atStart => exact ⟨rfl, rfl⟩
    case round =>
      obtain ⟨rfl, hwr⟩ := hrel
      subst hwr
      by_cases h0 : 0 < T
      · have h0' : (0 : Int) < (T : Int) := by omega
        have hNb : ((N : Int) == 0) = true := by rw [← hN.out, hNz.out]; rfl
        go_wp2_with fail
        refine cN.out.mono ?_
        rintro e w5 ⟨rfl, hJ5, -⟩
        have hJ5 := W_hid hJ5
        go_wp2_with fail
        go_ret
        exact ⟨rfl, hb1.out.trans (bel_mono hJ5.out.bel hb1.out.size)⟩
      · have h0' : ¬ (0 : Int) < (T : Int) := by omega
        obtain ⟨n, hn0⟩ : ∃ n : Nat, n = 0 := ⟨_, rfl⟩
        obtain ⟨q, hq0⟩ : ∃ q : Nat, q = 0 := ⟨_, rfl⟩
        obtain ⟨i, hi0⟩ : ∃ i : Nat, i = 0 := ⟨_, rfl⟩
        have hin : i ≤ n := by omega
        have hnN : n ≤ N := by omega
        have hqT : Hid (T = q * n + i) := W_hid (by subst hn0 hq0 hi0; omega)
        have hM : Hid (Blk W4 mb TI (icl (cnts n N q i))) := W_hid (by subst hn0 hq0 hi0; rw [cnts_zero]; exact hM4.out)
        have hJ := hJ4
        clear hn0 hq0 hi0 h0
        obtain ⟨V, hV⟩ : ∃ V, V = W4 := ⟨_, rfl⟩
        subst hV
        obtain ⟨al, cl, yl⟩ := hJ.out.docL
        rw [hSL.out] at yl
        have hfl := fst_le (q := q) hin
        obtain ⟨F, hF⟩ : ∃ F, fst n q i = F := ⟨_, rfl⟩
        rw [hF] at hfl
        have hpos : Hid (∀ j, j < F → 0 < cnt n q i j) := W_hid fun j hj => fst_pos hin (by rw [hF]; exact hj)
        have hzero : Hid (∀ j, F ≤ j → cnt n q i j = 0) := W_hid fun j hj => fst_zero hin (by rw [hF]; exact hj)
        have hget : Hid (∀ j, j < N → ∀ s, (V.drewN s).cell? ⟨mb, j, none⟩ = some (.int .i64 ((cnt n q i j : Nat) : Int))) := W_hid fun j hj s => (show V.cell? _ = _ from hM.out.cell (j := j) (by rw [icl_get, List.getElem?_eq_getElem (by rw [cnts_len]; exact hj), cnts_get _ _ _ _ hj]; rfl))
        have hend : Hid (∀ s, Below w.heap.size w (V.drewN s)) := W_hid fun s => bdrew (hb1.out.trans (bel_mono hJ.out.bel hb1.out.size)) s
        clear hF
        go_wp2_with fail
        go_loopw [14] (fun x w9 => ∃ f : Nat, f ≤ F ∧ x = .int .i64 (f : Int) ∧ V = w9) (fun x _ => N - (intOf x).toNat)
        case atStart => exact ⟨0, Nat.zero_le _, rfl, rfl⟩
        case round =>
          obtain ⟨f, hf, rfl, hw9⟩ := hrel
          subst hw9
          by_cases hfF : f < F
          · have e0 := hget.out f (by omega) 0
            have hp := hpos.out f hfF
            obtain ⟨v, hv⟩ : ∃ v, cnt n q i f = v := ⟨_, rfl⟩
            rw [hv] at e0 hp
            have e0 : V.cell? ⟨mb, f, none⟩ = some (.int .i64 (v : Int)) := e0
            have hfN : (f : Int) < (N : Int) := by omega
            have hp' : (0 : Int) < (v : Int) := by omega
            clear hv
            go_wp2_with fail
            go_roundw
            case rel => exact ⟨f + 1, by omega, by go_num, by first | trivial | rfl⟩
            case measure => simp [intOf]; omega
          · obtain rfl : f = F := by omega
            clear hfF
            have hx : ((N : Int) ≤ (f : Int)) ∨ ((f : Int) < (N : Int) ∧ V.cell? ⟨mb, f, none⟩ = some (.int .i64 0)) := by
              rcases Nat.lt_or_ge f N with h1 | h1
              · right
                have e0 := hget.out f h1 0
                rw [hzero.out f (Nat.le_refl _)] at e0
                exact ⟨by omega, e0⟩
              · left; omega
            rcases hx with hx | ⟨hx, e0⟩
            all_goals
              go_wp2_with fail
              go_loopw [15, 16] (fun y x w9 => ∃ k t : Nat, k ≤ N ∧ y = .int .i64 ((tot n q i k : Nat) : Int) ∧ x = .int .i64 (k : Int) ∧ w9 = V.drewN t) (fun _ x _ => N - (intOf x).toNat)
              case atStart => exact ⟨0, 0, Nat.zero_le _, by simp [tot], rfl, rfl⟩
              case round =>
                obtain ⟨k, t, hk, rfl, rfl, rfl⟩ := hrel
                by_cases hkN : k < N
                · have g0 := hget.out k hkN
                  have hts := tot_step n q i k hin
                  have htl := tot_le n q i (k + 1)
                  have hqn : q * n + i ≤ 1000 := by rw [← hqT.out]; exact hT1
                  have hz : f ≤ k → cnt n q i k = 0 := fun h => hzero.out k h
                  have hc3 : (k = 0) ∨ (∃ k', k = k' + 1 ∧ (f ≤ k ∨ (k < f ∧ (cnt n q i k' = cnt n q i k ∨ cnt n q i k' = cnt n q i k + 1)) )) := by
                    cases k with
                    | zero => exact .inl rfl
                    | succ k' =>
                      refine .inr ⟨k', rfl, ?_⟩
                      rcases Nat.lt_or_ge (k' + 1) f with h1 | h1
                      · exact .inr ⟨h1, cnt_near (by omega)⟩
                      · exact .inl h1
                  obtain ⟨t0, ht0⟩ : ∃ t0, tot n q i k = t0 := ⟨_, rfl⟩
                  obtain ⟨t1, ht1⟩ : ∃ t1, tot n q i (k + 1) = t1 := ⟨_, rfl⟩
                  rw [ht0, ht1] at hts
                  rw [ht1] at htl
                  have hwt : IntKind.i64.wrap ((t0 : Int) + ((cnt n q i k : Nat) : Int)) = (t1 : Int) := by rw [IntWalk.i64_in _ (by omega)]; omega
                  simp only [ht0]
                  rcases hc3 with rfl | ⟨k', hkk, hc3⟩
                  · rcases Nat.eq_zero_or_pos f with hf0 | hf0
                    · have hz0 := hz (by omega)
                      rw [hz0] at g0 hts
                      obtain rfl : t1 = t0 := by omega
                      have hwz : IntKind.i64.wrap (t1 : Int) = (t1 : Int) := by rw [IntWalk.i64_in _ (by omega)]
                      clear hwt
                      have hge : (f : Int) ≤ 0 := by omega
                      have ht1' := W_hid ht1
                      clear hts htl hz hz0 ht0 ht1
                      go_wp2_with fail
                      go_quiet (fail)
                      go_wp2_with fail
                      go_roundw
                      case rel => exact ⟨0 + 1, t + nq, by omega, by rw [ht1'.out], by go_num, by first | rfl | simp [World.drewN, Nat.add_assoc]⟩
                      case measure => simp [intOf]; omega
                    · have hge : ¬ (f : Int) ≤ 0 := by omega
                      obtain ⟨c, hc⟩ : ∃ c, cnt n q i 0 = c := ⟨_, rfl⟩
                      rw [hc] at g0 hwt
                      have ht1' := W_hid ht1
                      clear hts htl hz ht0 ht1 hc
                      go_wp2_with fail
                      go_quiet (fail)
                      go_wp2_with fail
                      go_roundw
                      case rel => exact ⟨0 + 1, t + nq, by omega, by rw [ht1'.out], by go_num, by first | rfl | simp [World.drewN, Nat.add_assoc]⟩
                      case measure => simp [intOf]; omega
                  · have g1 := hget.out k' (by omega)
                    have hwk : IntKind.i64.wrap ((k : Int) - 1) = (k' : Int) := by rw [IntWalk.i64_in _ (by omega)]; omega
                    have hk0 : (0 : Int) < (k : Int) := by omega
                    have hk0n : 0 < k := by omega
                    have hk0d : decide ((0 : Int) < (k : Int)) = true := by rw [decide_eq_true_eq]; exact hk0
                    have hkn1 : (k' : Int) < (N : Int) := by omega
                    have hkn2 : (k : Int) < (N : Int) := by omega
                    replace hkk := W_hid hkk
                    obtain ⟨c, hc⟩ : ∃ c, cnt n q i k = c := ⟨_, rfl⟩
                    obtain ⟨c', hc'⟩ : ∃ c, cnt n q i k' = c := ⟨_, rfl⟩
                    rw [hc] at g0 hwt hc3 hts
                    rw [hc'] at g1 hc3
                    have hcb : c ≤ 1000 := by omega
                    have hneb : (((c : Int) + 1) != (c : Int)) = true := by simp; omega
                    have hwc : IntKind.i64.wrap ((c : Int) + 1) = (c : Int) + 1 := by rw [IntWalk.i64_in _ (by omega)]
                    have ht1' := W_hid ht1
                    rcases hc3 with hc3 | ⟨hc3, rfl | rfl⟩
                    · have hz0 : c = 0 := by rw [← hc]; exact hz hc3
                      subst hz0
                      obtain rfl : t1 = t0 := by omega
                      have hwz : IntKind.i64.wrap (t1 : Int) = (t1 : Int) := by rw [IntWalk.i64_in _ (by omega)]
                      clear hwt
                      have hge : ¬ (k : Int) < (f : Int) := by omega
                      have hgen : ¬ k < f := by omega
                      have hgen2 : f ≤ k := by omega
                      have hged : decide ((k : Int) < (f : Int)) = false := by rw [decide_eq_false_iff_not]; exact hge
                      have hge2 : (f : Int) ≤ (k : Int) := by omega
                      clear hts htl hz ht0 ht1 hc hc'
                      go_wp2_with fail
                      go_quiet (fail)
                      go_wp2_with fail
                      go_roundw
                      case rel => exact ⟨k + 1, t + nq, by omega, by rw [ht1'.out], by go_num, by first | rfl | simp [World.drewN, Nat.add_assoc]⟩
                      case measure => simp [intOf]; omega
                    · have hge : (k : Int) < (f : Int) := by omega
                      have hgen : k < f := by omega
                      have hgen2 : ¬ f ≤ k := by omega
                      have hged : decide ((k : Int) < (f : Int)) = true := by rw [decide_eq_true_eq]; exact hge
                      have hge2 : ¬ (f : Int) ≤ (k : Int) := by omega
                      clear hts htl hz ht0 ht1 hc hc'
                      go_wp2_with fail
                      go_quiet (fail)
                      go_wp2_with fail
                      go_roundw
                      case rel => exact ⟨k + 1, t + nq, by omega, by rw [ht1'.out], by go_num, by first | rfl | simp [World.drewN, Nat.add_assoc]⟩
                      case measure => simp [intOf]; omega
                    · have hge : (k : Int) < (f : Int) := by omega
                      have hgen : k < f := by omega
                      have hgen2 : ¬ f ≤ k := by omega
                      have hged : decide ((k : Int) < (f : Int)) = true := by rw [decide_eq_true_eq]; exact hge
                      have hge2 : ¬ (f : Int) ≤ (k : Int) := by omega
                      have hc1 : ((c + 1 : Nat) : Int) = (c : Int) + 1 := by omega
                      rw [hc1] at g1
                      clear hts htl hz ht0 ht1 hc hc'
                      go_wp2_with fail
                      go_quiet (fail)
                      go_wp2_with fail
                      go_roundw
                      case rel => exact ⟨k + 1, t + nq, by omega, by rw [ht1'.out], by go_num, by first | rfl | simp [World.drewN, Nat.add_assoc]⟩
                      case measure => simp [intOf]; omega
                · obtain rfl : k = N := by omega
                  have hfin := tot_all (q := q) hin hnN
                  rw [← hqT.out] at hfin
                  simp only [hfin]
                  clear hkN hfin
                  go_wp2_with fail
                  go_ret
                  exact ⟨rfl, hend.out t⟩
  | cons p0 t0 =>
    obtain ⟨k0, A, B, hLv, hA⟩ := Lv.find hG.out (by rw [hr]; simp)
    obtain ⟨n, hn⟩ : ∃ n, A.length = n := ⟨_, rfl⟩
    have hn0 : 0 < n := by rw [← hn]; exact List.length_pos_iff.2 hA
    have hAB := hLv.ready
    have hnN : n ≤ N := by rw [← hN.out, hAB, List.length_append]; omega
    have hnd := W_hid (ready_nd hG.out)
    have hri : Hid (∀ i (hi : i < A.length), ∃ h : i < (ready S).length, (ready S)[i] = A[i]) := W_hid fun i hi => ⟨by rw [hAB, List.length_append]; omega, by simp only [hAB]; rw [List.getElem_append_left hi]⟩
    have hL0 : Hid (Lv 100 S k0 (rot A 0) B) := W_hid (by simpa [rot] using hLv)
    have hM0 : Hid (Blk W4 mb TI (icl (cnts n N 0 0))) := W_hid (by rw [cnts_zero]; exact hM4.out)
    have hn := W_hid hn
    clear hr hLv hA hAB hM4
    go_wp2_with fail
    go_loopw [10, 11, 12, 13] (fun x _ _ _ wr => ∃ (τ q i : Nat) (S' : Qs), i < n ∧ τ ≤ T ∧ x = .int .i64 (τ : Int) ∧ Hid (τ = q * n + i) ∧ Hid (Lv 100 S' k0 (rot A i) B) ∧ Hid (J w1.heap.size w1 qb rb 100 S' S (fun k => (False ∨ (Value.slice av (ready S).length cv).ownBlock = some k) ∨ k = mb) wr) ∧ Hid (Blk wr mb TI (icl (cnts n N q i))) ∧ Hid (∀ j, (Value.slice av (ready S).length cv).ownBlock = some j → wr.heap[j]? = w3.heap[j]?)) (fun x _ _ _ _ => T - (intOf x).toNat)
    case atStart => exact ⟨0, 0, 0, S, hn0, Nat.zero_le _, rfl, W_hid (by simp), hL0, hJ4, hM0, hk4⟩
    case round =>
      clear hL0 hJ4 hM0 hk4
      obtain ⟨τ, q, i, S', hi, hτ, rfl, hτq, hL, hJ, hM, hk⟩ := hrel
      by_cases hlt : τ < T
      · have hiA : i < A.length := by rw [hn.out]; exact hi
        obtain ⟨hir, hie⟩ := hri.out i hiA
        have hL1 := hL.out
        rw [rot_head hiA] at hL1
        obtain ⟨S2, hnx, hL2⟩ := hL1.next
        rw [rot_next hiA] at hL2
        have hnp : Hid (∀ j (hj : j < (ready S).length), j ≠ i → (ready S)[j] ≠ A[i]) := W_hid fun j hj hne e => by
          rw [← hie] at e
          have hpw := List.pairwise_iff_getElem.1 hnd.out
          rcases Nat.lt_or_gt_of_ne hne with h1 | h1
          · exact hpw j i hj hir h1 e
          · exact hpw i j hir hj h1 e.symm
        obtain ⟨p, hp⟩ : ∃ p, A[i] = p := ⟨_, rfl⟩
        rw [hp] at hnx hie hnp
        have cN := W_hid (J.callP (f := 16) (args := #[ptr qb]) (r := .returned (.tuple #[.int .i64 p, .int .i64 0])) (S' := S2) (c' := 100) (Nat.le_refl _) (fun h => hL2.good) (fun X hT hG => by have := Next_any hT hG (by omega); rw [hnx] at this; exact this) hJ.out)
        have hL2 := W_hid hL2
        have hie2 : Hid (∃ h : i < (ready S).length, (ready S)[i] = p) := W_hid ⟨hir, hie⟩
        clear hL1 hnx hp hie hir hiA
        go_wp2_with fail
        refine cN.out.mono ?_
        rintro e w5 ⟨rfl, hJ5, hk5⟩
        have hM5 : Hid (Blk w5 mb TI (icl (cnts n N q i))) := W_hid ((hk5 mb (.inr rfl)).trans hM.out)
        have hk5 : Hid (∀ j, (Value.slice av (ready S).length cv).ownBlock = some j → w5.heap[j]? = w3.heap[j]?) := W_hid fun j hj => (hk5 j (.inl (.inr hj))).trans (hk.out j hj)
        have hJ5 := W_hid hJ5
        clear cN
        go_wp2_with fail
        go_loopw [13] (fun x wr => ∃ j : Nat, j ≤ N ∧ x = .int .i64 (j : Int) ∧ Hid (J w1.heap.size w1 qb rb 100 S2 S (fun k => (False ∨ (Value.slice av (ready S).length cv).ownBlock = some k) ∨ k = mb) wr) ∧ Hid (Blk wr mb TI (icl (if j ≤ i then cnts n N q i else cnts n N q (i + 1)))) ∧ Hid (∀ j, (Value.slice av (ready S).length cv).ownBlock = some j → wr.heap[j]? = w3.heap[j]?)) (fun x _ => N - (intOf x).toNat)
        case atStart => exact ⟨0, Nat.zero_le _, rfl, hJ5, W_hid (by rw [if_pos (Nat.zero_le _)]; exact hM5.out), hk5⟩
        case round =>
          clear hJ5 hM5 hk5
          obtain ⟨j, hj, rfl, hJ6, hM6, hk6⟩ := hrel
          by_cases hjN : j < N
          · have hjl : j < (ready S).length := by rw [hN.out]; exact hjN
            obtain ⟨av', cv', hv', -, hat⟩ := list_at (own_move ho3.out hk6.out)
            simp only [Value.slice.injEq, true_and] at hv'
            obtain ⟨rfl, rfl⟩ := hv'
            obtain ⟨g, rfl, e0, z1, z2, -⟩ := hat j hjl
            rw [hN.out] at z1
            clear hat
            by_cases hji : j = i
            · subst hji
              obtain ⟨hx1, hx2⟩ := hie2.out
              rw [hx2] at e0
              have hb6 := hM6.out
              rw [if_pos (Nat.le_refl _)] at hb6
              have e1 : wr.cell? ⟨mb, j, none⟩ = some (.int .i64 ((cnt n q j j : Nat) : Int)) := hb6.cell (j := j) (by rw [icl_get, List.getElem?_eq_getElem (by rw [cnts_len]; exact hjN), cnts_get _ _ _ _ hjN]; rfl)
              have hfz : ∀ o, wr.frozen? ⟨mb, o, none⟩ = false := hb6.fz
              have hcb : cnt n q j j ≤ 1000 := by
                have h1 := tot_step n q j j (by omega)
                have h2 := tot_le n q j (j + 1)
                have h3 := hτq.out
                have h4 : τ ≤ 1000 := by omega
                omega
              have hset : Hid (Blk (wr.setCell ⟨mb, j, none⟩ (.int .i64 (((cnt n q j j : Nat) : Int) + 1))) mb TI (icl (cnts n N q (j + 1)))) := W_hid (by
                have := hb6.set j (.int .i64 (((cnt n q j j : Nat) : Int) + 1))
                rw [icl_set', cnts_step hi hnN] at this
                exact this)
              have hJs : Hid (J w1.heap.size w1 qb rb 100 S2 S (fun k => (False ∨ (Value.slice (some ⟨g, 0, none⟩) (ready S).length cv).ownBlock = some k) ∨ k = mb) (wr.setCell ⟨mb, j, none⟩ (.int .i64 (((cnt n q j j : Nat) : Int) + 1)))) := W_hid (hJ6.out.store (p := ⟨mb, j, none⟩) (.inr rfl) hmbw.out rfl _)
              have hks : Hid (∀ i, (Value.slice (some ⟨g, 0, none⟩) (ready S).length cv).ownBlock = some i → (wr.setCell ⟨mb, j, none⟩ (.int .i64 (((cnt n q j j : Nat) : Int) + 1))).heap[i]? = w3.heap[i]?) := W_hid fun i hi => (Below.heap_setCell wr ⟨mb, j, none⟩ _ i (by have := hblk.out i hi; show i ≠ mb; omega)).trans (hk6.out i hi)
              obtain ⟨c, hc⟩ : ∃ c, cnt n q j j = c := ⟨_, rfl⟩
              rw [hc] at e1 hset hJs hks hcb
              have hwc : IntKind.i64.wrap ((c : Int) + 1) = (c : Int) + 1 := by rw [IntWalk.i64_in _ (by omega)]
              clear hb6 hc hx1 hx2 hjl
              go_wp2_with fail
              go_roundw
              case rel => exact ⟨j + 1, by omega, by go_num, hJs, W_hid (by rw [if_neg (by omega)]; exact hset.out), hks⟩
              case measure => simp [intOf]; omega
            · have hne := hnp.out j hjl hji
              obtain ⟨a, ha⟩ : ∃ a, (ready S)[j] = a := ⟨_, rfl⟩
              rw [ha] at e0 hne
              have hif : Hid ((if j + 1 ≤ i then cnts n N q i else cnts n N q (i + 1)) = (if j ≤ i then cnts n N q i else cnts n N q (i + 1))) := W_hid (by
                by_cases h1 : j ≤ i
                · rw [if_pos h1, if_pos (by omega)]
                · rw [if_neg h1, if_neg (by omega)])
              clear ha hjl
              go_wp2_with fail
              go_roundw
              case rel => exact ⟨j + 1, by omega, by go_num, hJ6, W_hid (by rw [hif.out]; exact hM6.out), hk6⟩
              case measure => simp [intOf]; omega
          · obtain rfl : j = N := by omega
            have hM7 := hM6.out
            rw [if_neg (by omega)] at hM7
            have hnxt : ∃ q' i', i' < n ∧ Hid (τ + 1 = q' * n + i') ∧ Hid (Lv 100 S2 k0 (rot A i') B) ∧ Hid (Blk wr mb TI (icl (cnts n j q' i'))) := by
              have h3 := hτq.out
              rcases Nat.lt_or_ge (i + 1) n with h1 | h1
              · exact ⟨q, i + 1, h1, W_hid (by omega), hL2, W_hid hM7⟩
              · have h4 : i + 1 = n := by omega
                refine ⟨q + 1, 0, hn0, W_hid (by rw [Nat.succ_mul]; omega), W_hid ?_, W_hid ?_⟩
                · rw [← rot_all, hn.out, ← h4]; exact hL2.out
                · rw [← cnts_round, ← h4]; rw [← h4] at hM7; exact hM7
            obtain ⟨q', i', r1, r2, r3, r4⟩ := hnxt
            clear hM7
            go_wp2_with fail
            go_roundw
            case rel => exact ⟨τ + 1, q', i', S2, r1, by omega, by go_num, r2, r3, hJ6, r4, hk6⟩
            case measure => simp [intOf]; omega
      · obtain rfl : τ = T := by omega
        have hin : i ≤ n := by omega
        have hqT := hτq
        obtain ⟨V, hV⟩ : ∃ V, V = wr := ⟨_, rfl⟩
        subst hV
        obtain ⟨al, cl, yl⟩ := hJ.out.docL
        rw [hSL.out] at yl
        have hfl := fst_le (q := q) hin
        obtain ⟨F, hF⟩ : ∃ F, fst n q i = F := ⟨_, rfl⟩
        rw [hF] at hfl
        have hpos : Hid (∀ j, j < F → 0 < cnt n q i j) := W_hid fun j hj => fst_pos hin (by rw [hF]; exact hj)
        have hzero : Hid (∀ j, F ≤ j → cnt n q i j = 0) := W_hid fun j hj => fst_zero hin (by rw [hF]; exact hj)
        have hget : Hid (∀ j, j < N → ∀ s, (V.drewN s).cell? ⟨mb, j, none⟩ = some (.int .i64 ((cnt n q i j : Nat) : Int))) := W_hid fun j hj s => (show V.cell? _ = _ from hM.out.cell (j := j) (by rw [icl_get, List.getElem?_eq_getElem (by rw [cnts_len]; exact hj), cnts_get _ _ _ _ hj]; rfl))
        have hend : Hid (∀ s, Below w.heap.size w (V.drewN s)) := W_hid fun s => bdrew (hb1.out.trans (bel_mono hJ.out.bel hb1.out.size)) s
        clear hF
        go_wp2_with fail
        go_loopw [14] (fun x w9 => ∃ f : Nat, f ≤ F ∧ x = .int .i64 (f : Int) ∧ V = w9) (fun x _ => N - (intOf x).toNat)
        case atStart => exact ⟨0, Nat.zero_le _, rfl, rfl⟩
        case round =>
          obtain ⟨f, hf, rfl, hw9⟩ := hrel
          subst hw9
          by_cases hfF : f < F
          · have e0 := hget.out f (by omega) 0
            have hp := hpos.out f hfF
            obtain ⟨v, hv⟩ : ∃ v, cnt n q i f = v := ⟨_, rfl⟩
            rw [hv] at e0 hp
            have e0 : V.cell? ⟨mb, f, none⟩ = some (.int .i64 (v : Int)) := e0
            have hfN : (f : Int) < (N : Int) := by omega
            have hp' : (0 : Int) < (v : Int) := by omega
            clear hv
            go_wp2_with fail
            go_roundw
            case rel => exact ⟨f + 1, by omega, by go_num, by first | trivial | rfl⟩
            case measure => simp [intOf]; omega
          · obtain rfl : f = F := by omega
            clear hfF
            have hx : ((N : Int) ≤ (f : Int)) ∨ ((f : Int) < (N : Int) ∧ V.cell? ⟨mb, f, none⟩ = some (.int .i64 0)) := by
              rcases Nat.lt_or_ge f N with h1 | h1
              · right
                have e0 := hget.out f h1 0
                rw [hzero.out f (Nat.le_refl _)] at e0
                exact ⟨by omega, e0⟩
              · left; omega
            rcases hx with hx | ⟨hx, e0⟩
            all_goals
              go_wp2_with fail
              go_loopw [15, 16] (fun y x w9 => ∃ k t : Nat, k ≤ N ∧ y = .int .i64 ((tot n q i k : Nat) : Int) ∧ x = .int .i64 (k : Int) ∧ w9 = V.drewN t) (fun _ x _ => N - (intOf x).toNat)
              case atStart => exact ⟨0, 0, Nat.zero_le _, by simp [tot], rfl, rfl⟩
              case round =>
                obtain ⟨k, t, hk, rfl, rfl, rfl⟩ := hrel
                by_cases hkN : k < N
                · have g0 := hget.out k hkN
                  have hts := tot_step n q i k hin
                  have htl := tot_le n q i (k + 1)
                  have hqn : q * n + i ≤ 1000 := by rw [← hqT.out]; exact hT1
                  have hz : f ≤ k → cnt n q i k = 0 := fun h => hzero.out k h
                  have hc3 : (k = 0) ∨ (∃ k', k = k' + 1 ∧ (f ≤ k ∨ (k < f ∧ (cnt n q i k' = cnt n q i k ∨ cnt n q i k' = cnt n q i k + 1)) )) := by
                    cases k with
                    | zero => exact .inl rfl
                    | succ k' =>
                      refine .inr ⟨k', rfl, ?_⟩
                      rcases Nat.lt_or_ge (k' + 1) f with h1 | h1
                      · exact .inr ⟨h1, cnt_near (by omega)⟩
                      · exact .inl h1
                  obtain ⟨t0, ht0⟩ : ∃ t0, tot n q i k = t0 := ⟨_, rfl⟩
                  obtain ⟨t1, ht1⟩ : ∃ t1, tot n q i (k + 1) = t1 := ⟨_, rfl⟩
                  rw [ht0, ht1] at hts
                  rw [ht1] at htl
                  have hwt : IntKind.i64.wrap ((t0 : Int) + ((cnt n q i k : Nat) : Int)) = (t1 : Int) := by rw [IntWalk.i64_in _ (by omega)]; omega
                  simp only [ht0]
                  rcases hc3 with rfl | ⟨k', hkk, hc3⟩
                  · rcases Nat.eq_zero_or_pos f with hf0 | hf0
                    · have hz0 := hz (by omega)
                      rw [hz0] at g0 hts
                      obtain rfl : t1 = t0 := by omega
                      have hwz : IntKind.i64.wrap (t1 : Int) = (t1 : Int) := by rw [IntWalk.i64_in _ (by omega)]
                      clear hwt
                      have hge : (f : Int) ≤ 0 := by omega
                      have ht1' := W_hid ht1
                      clear hts htl hz hz0 ht0 ht1
                      go_wp2_with fail
                      go_quiet (fail)
                      go_wp2_with fail
                      go_roundw
                      case rel => exact ⟨0 + 1, t + nq, by omega, by rw [ht1'.out], by go_num, by first | rfl | simp [World.drewN, Nat.add_assoc]⟩
                      case measure => simp [intOf]; omega
                    · have hge : ¬ (f : Int) ≤ 0 := by omega
                      obtain ⟨c, hc⟩ : ∃ c, cnt n q i 0 = c := ⟨_, rfl⟩
                      rw [hc] at g0 hwt
                      have ht1' := W_hid ht1
                      clear hts htl hz ht0 ht1 hc
                      go_wp2_with fail
                      go_quiet (fail)
                      go_wp2_with fail
                      go_roundw
                      case rel => exact ⟨0 + 1, t + nq, by omega, by rw [ht1'.out], by go_num, by first | rfl | simp [World.drewN, Nat.add_assoc]⟩
                      case measure => simp [intOf]; omega
                  · have g1 := hget.out k' (by omega)
                    have hwk : IntKind.i64.wrap ((k : Int) - 1) = (k' : Int) := by rw [IntWalk.i64_in _ (by omega)]; omega
                    have hk0 : (0 : Int) < (k : Int) := by omega
                    have hk0n : 0 < k := by omega
                    have hk0d : decide ((0 : Int) < (k : Int)) = true := by rw [decide_eq_true_eq]; exact hk0
                    have hkn1 : (k' : Int) < (N : Int) := by omega
                    have hkn2 : (k : Int) < (N : Int) := by omega
                    replace hkk := W_hid hkk
                    obtain ⟨c, hc⟩ : ∃ c, cnt n q i k = c := ⟨_, rfl⟩
                    obtain ⟨c', hc'⟩ : ∃ c, cnt n q i k' = c := ⟨_, rfl⟩
                    rw [hc] at g0 hwt hc3 hts
                    rw [hc'] at g1 hc3
                    have hcb : c ≤ 1000 := by omega
                    have hneb : (((c : Int) + 1) != (c : Int)) = true := by simp; omega
                    have hwc : IntKind.i64.wrap ((c : Int) + 1) = (c : Int) + 1 := by rw [IntWalk.i64_in _ (by omega)]
                    have ht1' := W_hid ht1
                    rcases hc3 with hc3 | ⟨hc3, rfl | rfl⟩
                    · have hz0 : c = 0 := by rw [← hc]; exact hz hc3
                      subst hz0
                      obtain rfl : t1 = t0 := by omega
                      have hwz : IntKind.i64.wrap (t1 : Int) = (t1 : Int) := by rw [IntWalk.i64_in _ (by omega)]
                      clear hwt
                      have hge : ¬ (k : Int) < (f : Int) := by omega
                      have hgen : ¬ k < f := by omega
                      have hgen2 : f ≤ k := by omega
                      have hged : decide ((k : Int) < (f : Int)) = false := by rw [decide_eq_false_iff_not]; exact hge
                      have hge2 : (f : Int) ≤ (k : Int) := by omega
                      clear hts htl hz ht0 ht1 hc hc'
                      go_wp2_with fail
                      go_quiet (fail)
                      go_wp2_with fail
                      go_roundw
                      case rel => exact ⟨k + 1, t + nq, by omega, by rw [ht1'.out], by go_num, by first | rfl | simp [World.drewN, Nat.add_assoc]⟩
                      case measure => simp [intOf]; omega
                    · have hge : (k : Int) < (f : Int) := by omega
                      have hgen : k < f := by omega
                      have hgen2 : ¬ f ≤ k := by omega
                      have hged : decide ((k : Int) < (f : Int)) = true := by rw [decide_eq_true_eq]; exact hge
                      have hge2 : ¬ (f : Int) ≤ (k : Int) := by omega
                      clear hts htl hz ht0 ht1 hc hc'
                      go_wp2_with fail
                      go_quiet (fail)
                      go_wp2_with fail
                      go_roundw
                      case rel => exact ⟨k + 1, t + nq, by omega, by rw [ht1'.out], by go_num, by first | rfl | simp [World.drewN, Nat.add_assoc]⟩
                      case measure => simp [intOf]; omega
                    · have hge : (k : Int) < (f : Int) := by omega
                      have hgen : k < f := by omega
                      have hgen2 : ¬ f ≤ k := by omega
                      have hged : decide ((k : Int) < (f : Int)) = true := by rw [decide_eq_true_eq]; exact hge
                      have hge2 : ¬ (f : Int) ≤ (k : Int) := by omega
                      have hc1 : ((c + 1 : Nat) : Int) = (c : Int) + 1 := by omega
                      rw [hc1] at g1
                      clear hts htl hz ht0 ht1 hc hc'
                      go_wp2_with fail
                      go_quiet (fail)
                      go_wp2_with fail
                      go_roundw
                      case rel => exact ⟨k + 1, t + nq, by omega, by rw [ht1'.out], by go_num, by first | rfl | simp [World.drewN, Nat.add_assoc]⟩
                      case measure => simp [intOf]; omega
                · obtain rfl : k = N := by omega
                  have hfin := tot_all (q := q) hin hnN
                  rw [← hqT.out] at hfin
                  simp only [hfin]
                  clear hkN hfin
                  go_wp2_with fail
                  go_ret
                  exact ⟨rfl, hend.out t⟩
set_option maxRecDepth 100000 in
theorem SchedTurns_lifted (os : Os) (started : os.Started) (H : Type) (enc : TypeId × Value → H) :
    ReturnsInHanded {} Try.checked os 4 .any (Rows.schedTurnsSpec.pre6 enc Try.prog Try.f4 Rows.schedTurnsRow.domain false) (Rows.schedTurnsSpec.post enc Try.prog Try.f4 false true false false) := by
  refine returnsInHanded_of_change (C := Try.checked) (by kernel_rfl) started (by kernel_rfl) Try.func4
    (ChangeSpec.witness6 (enc := enc) (C := Try.checked) false ⟨#[], #[.slice none 0 0, .int .i64 0], []⟩ 8 (by kernel_rfl) (by kernel_rfl) (by kernel_rfl) (by kernel_rfl)) ?_
  intro W base args ds gs before hval0 hW hcnd _
  have hval : ∀ (j : Nat) t v, Try.f4.params[j]? = some t → args[j]? = some v → Value.okWide Try.prog W .any base t v := hval0
  have hW' := hW
  obtain ⟨p, q, hA0, hV, rfl, hfz, hnd⟩ := hW
  have hA : DataW.TrodAll enc Try.prog W 0 (fun _ => true) true Try.f4.params.toList args.toList ds p := hA0
  rw [Try.params4] at hA hval
  obtain ⟨v0, vs0, d0, ds0, p0, q0, hargs, rfl, rfl, h0, r0⟩ := trodAll_cons hA
  obtain ⟨v1, vs1, d1, ds1, p1, q1, rfl, rfl, rfl, h1, r1⟩ := trodAll_cons r0
  obtain ⟨rfl, rfl, rfl⟩ := trodAll_nil r1
  obtain rfl : args = #[v0, v1] := by cases args; simp_all
  obtain ⟨rfl, rfl⟩ := trodVars_none hV
  have k0 := h0
  have lt0 : ∀ x ∈ p0, x.block < W.heap.size := by obtain ⟨m, hm⟩ := k0; exact DataW.trod_lt m _ _ _ hm
  obtain ⟨o0, n0, c0, l0, rfl, w0⟩ := open_ops15 (hval 0 22 v0 rfl rfl) h0
  obtain ⟨a1, rfl, rfl, rfl, w1⟩ := open_int Try.underlying3 (hval 1 3 v1 rfl rfl) h1
  clear hA0 hval0
  refine (SchedTurns_walk o0 n0 c0 l0 a1 W w0 w1).mono fun e W' ⟨he, bel⟩ => ?_
  subst he
  exact ⟨_, rfl, _, _, _, [], _, [], hW', trodAll_mk1 (shut_bool Try.underlying4 _), (trodAll_cons_mk (Below.trod laidOut (by kernel_rfl) (of_decide_eq_true (by kernel_rfl)) k0 bel lt0) (trodAll_cons_mk (shut_int Try.underlying3 w1) trodAll_mk0)), rfl, bel.frame _, fun h => by cases h⟩

/-- The given statement of SchedTurns. -/
theorem SchedTurns_holds : Rows.SchedTurnsSaid :=
  OpenClaim.holds_of_wide 4 Try.f4 rfl rfl rfl rfl rfl rfl rfl ⟨rfl, rfl, rfl, rfl, rfl⟩ rfl rfl rfl rfl rfl (by kernel_rfl) Try.func4 (by kernel_rfl)
    (of_decide_eq_true (by kernel_rfl)) (by unfold Func.isWrapper; first | (rw [if_pos (by decide +kernel)]; kernel_rfl) | (rw [if_neg (by decide +kernel)]; exact ⟨rfl, rfl⟩))
    (fun os started H enc _ => SchedTurns_lifted os started H enc)

end Go.Proofs.Ytondgjgfmngadaa

/- Contracts of the document's own cut and Cut. -/
import Derived.Test.YtlmkohmanfoejaaRefExt
namespace Go.Proofs.Ytlmkohmanfoejaa
open Go.ChangeShapes Go.WideShapes Go.ChangeAt Go.RowKit
set_option linter.unusedVariables false
set_option linter.unusedSimpArgs false

set_option maxHeartbeats 1000000 in
theorem rcut_any (a : Int) (d : ByteArray) (lo hi : Int) (w : World) (ha : 0 ≤ a) (had : a + d.size ≤ 1048576) (hlo : I64 lo) (hhi : I64 hi) :
    Calls Try.prog 27 #[.agg #[.int .i64 a, .string d], .int .i64 lo, .int .i64 hi] w fun e w' => ∃ ao n c, e = .returned (.slice ao n c) ∧ XS w' ao n c (EM.piece lo hi (a, d)).toList ∧ Below w.heap.size w w' := by
  obtain ⟨l1, l2⟩ := hlo
  obtain ⟨r1, r2⟩ := hhi
  obtain ⟨A, hA⟩ : ∃ A, (if a < lo then lo else a) = A := ⟨_, rfl⟩
  obtain ⟨B, hB⟩ : ∃ B, (if hi < a + d.size then hi else a + d.size) = B := ⟨_, rfl⟩
  have HA : Hid (A = max a lo) := by show _ = _; rw [← hA]; split <;> omega
  have HB : Hid (B = min (a + d.size) hi) := by show _ = _; rw [← hB]; split <;> omega
  have A1 : 0 ≤ A - a := by have := HA.out; omega
  have A2 : -9223372036854775808 ≤ A ∧ A ≤ 9223372036854775807 := by have := HA.out; omega
  have B2 : -9223372036854775808 ≤ B ∧ B ≤ 9223372036854775807 := by have := HB.out; omega
  have B1 : B - a ≤ d.size := by have := HB.out; omega
  have hpc : Hid (EM.piece lo hi (a, d) = if A < B then some (A, d.extract (A - a).toNat (B - a).toNat) else none) := by
    show _ = _
    rw [HA.out, HB.out]; rfl
  have bel := below_al (Below.refl w.heap.size w) (.cells #[.int .i64 a, .string d] 32)
  by_cases hAB : A < B
  · obtain ⟨p, hp⟩ : ∃ p, p = d.extract (A - a).toNat (B - a).toNat := ⟨_, rfl⟩
    have hsl : ∀ w, (Instr.slice 9 (.string d) (some (.int .i64 (A - a))) (some (.int .i64 (B - a))) none).run Try.prog w = .ok (.string p) w := fun w => by
      rw [run_slice_string w _ d _ _ _ _ Try.underlying9 (by omega) (by omega) (by omega), hp]
    have hnext : Hid ((EM.piece lo hi (a, d)).toList = [(A, p)]) := by
      show _ = _
      rw [hpc.out, if_pos hAB, hp]; rfl
    have hx : Hid (XS ((w.alloc (.cells #[.int .i64 a, .string d] 32)).alloc (.cells #[.int .i64 A, .string p] 32)) (some ⟨w.heap.size + 1, 0, none⟩) 1 1 [(A, p)]) := by
      obtain ⟨_, _, _, h1, h2⟩ := XV_new (w := w.alloc (.cells #[.int .i64 a, .string d] 32)) (g := w.heap.size + 1) (f := A) (d := p) (t := 32) (by simp)
      simp only [Value.slice.injEq] at h1
      obtain ⟨rfl, rfl, rfl⟩ := h1
      exact h2
    have hge : ¬ B ≤ A := by omega
    clear hp hpc
    go_enter Try.func27, Try.ntmps27
    go_wp2_with fail
    go_ret
    refine ⟨_, _, _, rfl, ?_, below_al bel _⟩
    rw [hnext.out]
    exact hx.out
  · have hnext : Hid ((EM.piece lo hi (a, d)).toList = []) := by
      show _ = _
      rw [hpc.out, if_neg hAB]; rfl
    have hge : B ≤ A := by omega
    clear hpc
    go_enter Try.func27, Try.ntmps27
    go_wp2_with fail
    go_ret
    refine ⟨_, _, _, rfl, ?_, bel⟩
    rw [hnext.out]
    exact XS.nil _

set_option maxHeartbeats 2000000 in
theorem rCut_any (ao : Option Addr) (n cap : Nat) (l : List (Int × ByteArray)) (s : Int) (w : World) (h : XS w ao n cap l) (hf : XFit l) (hs : I64 s) :
    Calls Try.prog 16 #[.slice ao n cap, .int .i64 s] w (Gave (ctL l s) (ctE l s) w) := by
  have hval := Right_any ao n cap l w h hf
  have H := W_hid h
  cases hv : EM.ok 0 l with
  | false =>
    have HE := W_hid (fun w' => @gave_no (ctL l s) (ctE l s) w w' 2 (by unfold ctL ctE; rw [hv]; exact ⟨if_neg (by simp), if_neg (by simp)⟩))
    rw [hv] at hval
    have hval := W_hid hval
    clear hv h
    go_enter Try.func16, Try.ntmps16
    go_wp2_with fail
    refine hval.out.mono ?_
    rintro e w1 ⟨rfl, bel1⟩
    go_wp2_with fail
    go_ret2
    exact HE.out _ bel1
  | true =>
    by_cases hs0 : s < 0
    · have HE := W_hid (fun w' => @gave_no (ctL l s) (ctE l s) w w' 2 (by unfold ctL ctE; rw [hv]; exact ⟨if_neg (by omega), if_neg (by omega)⟩))
      rw [hv] at hval
      have hval := W_hid hval
      clear hv h
      go_enter Try.func16, Try.ntmps16
      go_wp2_with fail
      refine hval.out.mono ?_
      rintro e w1 ⟨rfl, bel1⟩
      go_wp2_with fail
      go_ret2
      exact HE.out _ bel1
    · have e1 : Hid (ctL l s = EM.part 0 s l ∧ ctE l s = 0) := by unfold ctL ctE; rw [hv]; exact ⟨if_pos ⟨rfl, by omega⟩, if_pos ⟨rfl, by omega⟩⟩
      have hn : n ≤ 1048576 := by have := (ok_nums hv).1; have := h.1; omega
      have hok := W_hid (fun k hk => ok_each hv k hk)
      have htk := W_hid (fun k hk => EM.part_take 0 s l k hk)
      have hlen := W_hid (fun k => EM.part_length 0 s (l.take k))
      have L := W_hid h.1
      have hss := W_hid hs
      rw [hv] at hval
      have hval := W_hid hval
      clear hv h
      go_enter Try.func16, Try.ntmps16
      go_wp2_with fail
      refine hval.out.mono ?_
      rintro e w1 ⟨rfl, bel1⟩
      go_wp2_with fail
      go_loopw [7, 8] (fun v i wr => ∃ (k m : Nat) (q : List (Int × ByteArray)), k ≤ n ∧ m ≤ k ∧ i = .int .i64 k ∧ Hid (EM.part 0 s (l.take k) = q ∧ q.length = m) ∧ wr.ownsRow w.heap.size 32 2 v m (ecl q) ∧ Below w.heap.size w wr) (fun _ i _ => n - (intOf i).toNat)
      case atStart => exact ⟨0, 0, [], Nat.zero_le _, Nat.le_refl _, rfl, W_hid ⟨rfl, rfl⟩, World.ownsRow_nil _ _ _ _, bel1⟩
      case round =>
        clear bel1
        obtain ⟨k, m, q, hk, hmk, rfl, hq, hown, bel⟩ := hrel
        obtain ⟨ox, cx, rfl⟩ := Own.form hown
        by_cases hlt : k < n
        · obtain ⟨b1, o1, rfl, g1⟩ := (H.out.below bel (Nat.le_refl _)).at_ (by omega)
          have k1 : k < l.length := by rw [L.out]; exact hlt
          obtain ⟨e2, e3⟩ := g1 k hlt
          have hft := hok.out k k1
          have hnx := W_hid (htk.out k k1)
          obtain ⟨⟨a, d⟩, hx⟩ : ∃ x, l[k] = x := ⟨_, rfl⟩
          simp only [hx] at e2 e3 hft hnx
          obtain ⟨hd, ha, had⟩ := hft
          have hc := W_hid (fun w => rcut_any a d 0 s w ha had (by unfold I64; omega) hss.out)
          have hnext : Hid (EM.part 0 s (l.take (k + 1)) = q ++ (EM.piece 0 s (a, d)).toList) := by
            show _ = _
            rw [hnx.out, hq.out.1]
          have hm : Hid (m = q.length) := hq.out.2.symm
          have hlk : Hid ((EM.part 0 s (l.take (k + 1))).length ≤ k + 1) := by
            have := hlen.out (k + 1)
            rw [List.length_take] at this
            exact Nat.le_trans this (Nat.min_le_left _ _)
          clear hx g1 k1 hnx hq
          go_wp2_with fail
          refine (hc.out _).mono ?_
          rintro e w2 ⟨ao, nn, c, rfl, hxs, bel2⟩
          have hown2 := Own.below hown bel2
          have bel3 := below_tr bel bel2
          have hmn : m + nn ≤ k + 1 := by
            have h1 := hlk.out
            rw [hnext.out, List.length_append, hxs.1, ← hm.out] at h1
            exact h1
          have hxs := W_hid hxs
          clear hown bel bel2 hc
          go_wp2_with (at_builtin; apply Hid.out)
          refine W_hid ?_
          refine wpList_append_ext rfl (.tmp 23) (.tmp 29) rfl w.heap.size _ m _ rfl hown2 ao nn c _ rfl hxs.out (by omega) bel3.size ?_
          intro v2 w3 hown3 hgrow
          obtain ⟨o2, c2, rfl⟩ := Own.form hown3
          have bel4 := bel3.grown hgrow bel3.size (fun k h => Own.ge hown2 k h)
          have hfin : Hid (EM.part 0 s (l.take (k + 1)) = q ++ (EM.piece 0 s (a, d)).toList ∧ (q ++ (EM.piece 0 s (a, d)).toList).length = m + nn) := ⟨hnext.out, by rw [List.length_append, hxs.out.1, ← hm.out]⟩
          rw [← ecl_append] at hown3
          clear hown2 bel3 hgrow hxs hnext hm
          go_wp2_with fail
          go_roundw
          case rel => exact ⟨k + 1, m + nn, _, by omega, hmn, by go_num, hfin, hown3, bel4⟩
          case measure => simp [intOf]; omega
        · obtain rfl : k = n := by omega
          have hh : Hid (EM.part 0 s l = q) := by
            have := hq.out.1
            rwa [List.take_of_length_le (by rw [L.out]; exact Nat.le_refl _)] at this
          have hm := W_hid hq.out.2
          clear hq
          go_wp2_with fail
          go_ret2
          refine ⟨_, by rw [e1.out.2]; rfl, ?_, bel⟩
          rw [e1.out.1, hh.out, hm.out]
          exact hown

end Go.Proofs.Ytlmkohmanfoejaa

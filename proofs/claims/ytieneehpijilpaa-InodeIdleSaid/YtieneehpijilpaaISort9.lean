/- pdqsortOrdered, slices.Sort: rows of any length below 65536, where no number stands twice. -/
import Derived.Test.YtieneehpijilpaaISort5
import Derived.Test.YtieneehpijilpaaISort6
import Derived.Test.YtieneehpijilpaaISort8
namespace Go.Proofs.Ytieneehpijilpaa
open Go.ChangeShapes Go.WideShapes Go.ChangeAt Go.RowKit
set_option linter.unusedVariables false
set_option linter.unusedSimpArgs false
namespace IS

/-- What the sort does to a range of so many. -/
def PdqAt (g N cap : Nat) (rest : List Value) (L : Nat) : Prop := ∀ (a b k : Nat) (X : Nat → Nat) (w : World), b - a = L → a ≤ b → b ≤ N → k ≤ 1000 → RW w g N X rest → SO.Bel X a b → SO.Inj X N → (∀ i, i < N → X i < 9223372036854775808) →
  Calls Try.prog 74 #[.slice (some ⟨g, 0, none⟩) N cap, .int .i64 (a : Int), .int .i64 (b : Int), .int .i64 (k : Int)] w fun e w' => e = .returned (.tuple #[]) ∧ Two g g w w' ∧ ∃ Y, RW w' g N Y rest ∧ SO.Sw a b X Y ∧ SO.Up Y a b

set_option maxRecDepth 100000 in
set_option maxHeartbeats 16000000 in
theorem pdq_step (g N cap : Nat) (rest : List Value) (hN : N < 65536) (hcap : N ≤ cap) (L : Nat) (IH : ∀ L', L' < L → PdqAt g N cap rest L') : PdqAt g N cap rest L := by
  intro a b k X w hL hab hb hk h hBel hInj hX
  have hN' : N ≤ 65536 := by omega
  have h := W_hid h
  have hBel := W_hid hBel
  have hInj := W_hid hInj
  have hX := W_hid hX
  have hIH := W_hid IH
  have hLf0 : Hid (SO.Left X a b a b) := SO.left_begin X a b
  have hXs : Hid (∀ Z : Nat → Nat, SO.Sw a b X Z → ∀ i, i < N → Z i < 9223372036854775808) := fun Z s i hi => (s.wide (Nat.zero_le a) hb).all (P := fun v => v < 9223372036854775808) (fun p _ hp => hX.out p hp) i (Nat.zero_le _) hi
  clear IH hX
  replace hL := W_hid hL
  go_enter Try.func74, Try.ntmps74
  go_wp2_with fail
  go_loopw [1, 2, 3, 8, 9] (fun u v l x y wr => ∃ (a1 b1 k1 : Nat) (t1 t2 : Bool) (Y : Nat → Nat), u = .int .i64 (a1 : Int) ∧ v = .int .i64 (b1 : Int) ∧ l = .int .i64 (k1 : Int) ∧ x = .bool t1 ∧ y = .bool t2 ∧ a ≤ a1 ∧ a1 ≤ b1 ∧ b1 ≤ b ∧ k1 ≤ 1000 ∧ Hid (RW wr g N Y rest) ∧ Hid (SO.Sw a b X Y) ∧ Hid (SO.Bel Y a1 b1) ∧ Hid (SO.Left Y a b a1 b1) ∧ Hid (Two g g w wr)) (fun u v _ _ _ _ => (intOf v - intOf u).toNat)
  case atStart => exact ⟨a, b, k, true, true, X, rfl, rfl, rfl, rfl, rfl, Nat.le_refl _, hab, Nat.le_refl _, hk, h, W_hid .refl, hBel, hLf0, W_hid (Two.refl _ _ _)⟩
  case round =>
    clear h hBel hLf0
    obtain ⟨a1, b1, k1, t1, t2, Y, rfl, rfl, rfl, rfl, rfl, q1, q2, q3, qk, hR, hS, hB, hLf, hT⟩ := hrel
    obtain ⟨n, hn⟩ : ∃ n, b1 - a1 = n := ⟨_, rfl⟩
    have hni : (b1 : Int) - (a1 : Int) = (n : Int) := by omega
    have hnb : n ≤ 65536 := by omega
    have hb1N : b1 ≤ N := by omega
    by_cases h12 : n ≤ 12
    · have c := W_hid (insert_any g N cap rest a1 b1 Y wr hR.out q2 hb1N hN' hcap (hXs.out Y hS.out))
      replace hn := W_hid hn
      go_wp2_with fail
      refine c.out.mono ?_
      rintro e w5 ⟨rfl, hT5, Z, hR5, hS5, hU5⟩
      have hfin : Hid (Two g g w w5 ∧ ∃ Y, RW w5 g N Y rest ∧ SO.Sw a b X Y ∧ SO.Up Y a b) := ⟨hT.out.trans hT5, Z, hR5, hS.out.trans (hS5.wide q1 q3), SO.left_done (SO.left_sw hLf.out hS5 q1 q3) hU5⟩
      clear c hT5 hR5 hS5 hU5
      go_wp2_with fail
      refine bodyPost_ret (results_none rfl _ _ _) rfl ?_
      exact ⟨rfl, hfin.out⟩
    · have hlt : a1 + 12 < b1 := by omega
      by_cases hk0 : k1 = 0
      · have c := W_hid (heap_any g N cap rest a1 b1 Y wr hR.out (by omega) hb1N hN' hcap)
        subst hk0
        replace hn := W_hid hn
        go_wp2_with fail
        refine c.out.mono ?_
        rintro e w5 ⟨rfl, hT5, Z, hR5, hS5, hU5⟩
        have hfin : Hid (Two g g w w5 ∧ ∃ Y, RW w5 g N Y rest ∧ SO.Sw a b X Y ∧ SO.Up Y a b) := ⟨hT.out.trans hT5, Z, hR5, hS.out.trans (hS5.wide q1 q3), SO.left_done (SO.left_sw hLf.out hS5 q1 q3) hU5⟩
        clear c hT5 hR5 hS5 hU5
        go_wp2_with fail
        refine bodyPost_ret (results_none rfl _ _ _) rfl ?_
        exact ⟨rfl, hfin.out⟩
      · have hkz : ((k1 : Int) == 0) = false := by simp; omega
        obtain ⟨kk, hkk⟩ : ∃ kk, k1 - 1 = kk := ⟨_, rfl⟩
        have hkki : (k1 : Int) - 1 = (kk : Int) := by omega
        have hkb : kk ≤ 1000 := by omega
        have cB := W_hid (break_any g N cap rest a1 b1 Y wr hR.out (by omega) hb1N hN hcap)
        replace hn := W_hid hn
        replace hkk := W_hid hkk
        -- the patterns
        go_upto_if 35 with fail
        go_cut [3] from 19 to 133 (fun l wx => ∃ (k2 : Nat) (Z : Nat → Nat), l = .int .i64 (k2 : Int) ∧ k2 ≤ 1000 ∧ Hid (RW wx g N Z rest) ∧ Hid (SO.Sw a1 b1 Y Z) ∧ Hid (Two g g w wx))
        case first =>
          cases t1 with
          | true =>
            go_wp2_with fail
            go_meet
            exact ⟨k1, Y, rfl, qk, hR, W_hid .refl, hT⟩
          | false =>
            go_wp2_with fail
            refine cB.out.mono ?_
            rintro e w5 ⟨rfl, hT5, Z, hR5, hS5⟩
            replace hT5 := W_hid (hT.out.trans hT5)
            replace hR5 := W_hid hR5
            replace hS5 := W_hid hS5
            go_wp2_with fail
            go_meet
            exact ⟨kk, Z, rfl, hkb, hR5, hS5, hT5⟩
        case rest =>
        clear hR hT cB
        obtain ⟨k2, Z, rfl, qk2, hR, hS2, hT⟩ := hcut
        have cV := W_hid (pivot_any g N cap rest a1 b1 Z wc hR.out (by omega) hb1N hN hcap)
        go_wp2_with fail
        refine cV.out.mono ?_
        rintro e w5 ⟨p, c, rfl, hp1, hp2, hc, hT5, hR5⟩
        replace hT := W_hid (hT.out.trans hT5)
        replace hR := W_hid hR5
        have cR := W_hid (reverse_any g N cap rest a1 b1 Z w5 hR5 (by omega) hb1N hN' hcap)
        obtain ⟨p2, hp2e⟩ : ∃ p2, b1 - 1 - (p - a1) = p2 := ⟨_, rfl⟩
        obtain ⟨b2, hb2e⟩ : ∃ b2, b1 - 1 = b2 := ⟨_, rfl⟩
        obtain ⟨p3, hp3e⟩ : ∃ p3, p - a1 = p3 := ⟨_, rfl⟩
        have e1 : (b1 : Int) - 1 = (b2 : Int) := by omega
        have e2 : (p : Int) - (a1 : Int) = (p3 : Int) := by omega
        have e3 : (b2 : Int) - (p3 : Int) = (p2 : Int) := by omega
        have hpb : Hid (a1 ≤ p2 ∧ p2 < b1) := by show _ ∧ _; omega
        have hpsm : p2 ≤ 65536 ∧ b2 ≤ 65536 ∧ p3 ≤ 65536 := by omega
        replace hp2e := W_hid hp2e
        replace hb2e := W_hid hb2e
        replace hp3e := W_hid hp3e
        clear cV hT5 hR5
        go_upto_if 50 with fail
        go_cut [11, 12] from 19 to 133 (fun u v wx => ∃ (p c : Nat) (Z2 : Nat → Nat), u = .int .i64 (p : Int) ∧ v = .int .i64 (c : Int) ∧ a1 ≤ p ∧ p < b1 ∧ Hid (RW wx g N Z2 rest) ∧ Hid (SO.Sw a1 b1 Z Z2) ∧ Hid (Two g g w wx))
        case first =>
          by_cases hc2 : c = 2
          · subst hc2
            go_wp2_with fail
            refine cR.out.mono ?_
            rintro e w6 ⟨rfl, hT6, Z2, hR6, hS6⟩
            replace hT6 := W_hid (hT.out.trans hT6)
            replace hR6 := W_hid hR6
            replace hS6 := W_hid hS6
            go_wp2_with fail
            go_meet
            exact ⟨p2, 1, Z2, rfl, rfl, hpb.out.1, hpb.out.2, hR6, hS6, hT6⟩
          · have hcz : ((c : Int) == 2) = false := by simp; omega
            go_wp2_with fail
            go_meet
            exact ⟨p, c, Z, rfl, rfl, hp1, hp2, hR, W_hid .refl, hT⟩
        case rest =>
        clear hR hT cR hp1 hp2 hc hpb hpsm e1 e2 e3 hp2e hb2e hp3e
        obtain ⟨p, c, Z2, rfl, rfl, hp1, hp2, hR, hS3, hT⟩ := hcut
        obtain ⟨W2, hW2⟩ : ∃ W, W = wc := ⟨wc, rfl⟩
        go_upto_region 15 with fail
        go_cut [68] from 19 to 133 (fun v wx => (∃ t : Bool, v = .bool t) ∧ wx = W2)
        case first =>
          have hce : c = 1 ∨ ¬ c = 1 := by omega
          rcases hce with rfl | hc1
          case' inr => have hcz : ((c : Int) == 1) = false := by simp; omega
          all_goals
            cases t1 <;> cases t2
          all_goals
            go_wp2_with fail
            go_meet
            exact ⟨⟨_, rfl⟩, hW2.symm⟩
        case rest =>
        obtain ⟨⟨t, rfl⟩, hwc⟩ := hcut
        rw [hwc]
        rw [← hW2] at hR hT
        clear hW2 hwc
        have hS23 := W_hid (hS2.out.trans hS3.out)
        have cI := W_hid (partins_any g N cap rest a1 b1 Z2 W2 hR.out (by omega) hb1N hN' hcap (SO.bel_sw (SO.bel_sw hB.out hS2.out) hS3.out))
        go_upto_if 68 with fail
        go_cut [] from 19 to 133 (fun wx => ∃ (Z4 : Nat → Nat), Hid (RW wx g N Z4 rest) ∧ Hid (SO.Sw a1 b1 Y Z4) ∧ Hid (Two g g w wx))
        case first =>
          cases t with
          | true =>
            go_wp2_with fail
            refine cI.out.mono ?_
            rintro e w6 ⟨tt, rfl, hT6, Z4, hR6, hS6, hU6⟩
            replace hT6 := W_hid (hT.out.trans hT6)
            replace hR6 := W_hid hR6
            replace hS6 := W_hid (hS23.out.trans hS6)
            cases tt with
            | true =>
              have hfin : Hid (Two g g w w6 ∧ ∃ Y, RW w6 g N Y rest ∧ SO.Sw a b X Y ∧ SO.Up Y a b) := ⟨hT6.out, Z4, hR6.out, hS.out.trans (hS6.out.wide q1 q3), SO.left_done (SO.left_sw hLf.out hS6.out q1 q3) (hU6 rfl)⟩
              clear hU6
              go_wp2_with fail
              refine bodyPost_ret (results_none rfl _ _ _) rfl ?_
              exact ⟨rfl, hfin.out⟩
            | false =>
              clear hU6
              go_wp2_with fail
              go_meet
              exact ⟨Z4, hR6, hS6, hT6⟩
          | false =>
            go_wp2_with fail
            go_meet
            exact ⟨Z2, hR, hS23, hT⟩
        case rest =>
        clear hR hT hS2 hS3 hS23 cI
        obtain ⟨Z4, hR, hS4, hT⟩ := hcut
        have hB4 := W_hid (SO.bel_sw hB.out hS4.out)
        have hS5 := W_hid (hS.out.trans (hS4.out.wide q1 q3))
        have hI5 := W_hid (hS5.out.inj hb hInj.out)
        have hLf5 := W_hid (SO.left_sw hLf.out hS4.out q1 q3)
        clear hLf hB hS hS4
        go_upto_region 17 with fail
        go_cut [87] from 19 to 133 (fun v wx => v = .bool false ∧ Hid (RW wx g N Z4 rest) ∧ Hid (Two g g w wx))
        case first =>
          rename_i J1 K1 hJ1 hK1
          by_cases ha0 : a1 = 0
          · subst ha0
            go_quiet (fail)
            refine hK1 _ _ (Met.intro (hJ1 _ _ ?_))
            repeat apply Exists.intro
            exact ⟨⟨rfl, W_hid (hR.out.drewN nq), W_hid (hT.out.drew nq)⟩, rfl⟩
          · obtain ⟨a0, ha⟩ : ∃ a0, a1 = a0 + 1 := ⟨a1 - 1, by omega⟩
            have ea : (a1 : Int) - 1 = (a0 : Int) := by omega
            have hpos : 0 < a1 := by omega
            have hb0 : a0 < N ∧ p < N := by omega
            have da := hR.out.cell a0 hb0.1
            have dp := hR.out.cell p hb0.2
            obtain ⟨va, hva⟩ : ∃ v, Z4 a0 = v := ⟨_, rfl⟩
            obtain ⟨vp, hvp⟩ : ∃ v, Z4 p = v := ⟨_, rfl⟩
            have hless : va < vp := by
              rcases hB4.out with h0 | h0
              · omega
              · have h1 := h0 p hp1 hp2
                rw [show a1 - 1 = a0 by omega, hva, hvp] at h1
                rcases Nat.lt_or_ge va vp with hh | hh
                · exact hh
                · have h2 := hI5.out a0 p hb0.1 hb0.2 (by rw [hva, hvp]; omega)
                  omega
            rw [hva] at da
            rw [hvp] at dp
            have hL := W_hid (fun t => Calls.quiet_of_same (Less_any va vp (wc.drewN t)))
            rw [show decide (va < vp) = true by simp [hless]] at hL
            replace ha := W_hid ha
            replace hva := W_hid hva
            replace hvp := W_hid hvp
            replace hless := W_hid hless
            go_quiet ((go_at_call 84; exact hL.out _))
            refine hK1 _ _ (Met.intro (hJ1 _ _ ?_))
            repeat apply Exists.intro
            exact ⟨⟨rfl, W_hid (hR.out.drewN nq), W_hid (hT.out.drew nq)⟩, rfl⟩
        case rest =>
        clear hR hT
        obtain ⟨rfl, hR, hT⟩ := hcut
        have cP := W_hid (partition_any g N cap rest a1 b1 p Z4 wc hR.out hp1 hp2 hb1N hN' hcap)
        go_wp2_with fail
        refine cP.out.mono ?_
        rintro e w7 ⟨m, t3, rfl, hm1, hm2, hT7, Z5, hR7, hS7, hP7⟩
        replace hT7 := W_hid (hT.out.trans hT7)
        have hB7 := W_hid (SO.bel_sw hB4.out hS7)
        have hS8 := W_hid (hS5.out.trans (hS7.wide q1 q3))
        have hI8 := W_hid (hS8.out.inj hb hInj.out)
        have hLf8 := W_hid (SO.left_sw hLf5.out hS7 q1 q3)
        replace hR7 := W_hid hR7
        replace hP7 := W_hid hP7
        obtain ⟨l1, hl1⟩ : ∃ l, m - a1 = l := ⟨_, rfl⟩
        obtain ⟨l2, hl2⟩ : ∃ l, b1 - m = l := ⟨_, rfl⟩
        obtain ⟨th, hth⟩ : ∃ t, n / 8 = t := ⟨_, rfl⟩
        have f1 : (m : Int) - (a1 : Int) = (l1 : Int) := by omega
        have f2 : (b1 : Int) - (m : Int) = (l2 : Int) := by omega
        have f3 : (n : Int).tdiv 8 = (th : Int) := by rw [← hth]; rfl
        have hlb : l1 ≤ 65536 ∧ l2 ≤ 65536 ∧ th ≤ 65536 := by omega
        obtain ⟨m1, hm1e⟩ : ∃ x, m + 1 = x := ⟨_, rfl⟩
        have f4 : (m : Int) + 1 = (m1 : Int) := by omega
        have hLL : Hid (l1 < L ∧ b1 - m1 < L ∧ m1 ≤ b1) := by
          have := hL.out
          show _ ∧ _ ∧ _
          omega
        have cL := W_hid (hIH.out l1 hLL.out.1 a1 m k2 Z5 w7 hl1 hm1 (by omega) qk2 hR7.out (SO.bel_left hB7.out (by omega)) hI8.out (hXs.out Z5 hS8.out))
        have cU := W_hid (hIH.out (b1 - m1) hLL.out.2.1 m1 b1 k2 Z5 w7 rfl hLL.out.2.2 hb1N qk2 hR7.out (by rw [← hm1e]; exact SO.bel_right hP7.out) hI8.out (hXs.out Z5 hS8.out))
        replace hl1 := W_hid hl1
        replace hl2 := W_hid hl2
        replace hth := W_hid hth
        clear cP hR hT hS7 hB4 hI5 hLf5 hS5
        by_cases hll : l1 < l2
        · clear cU
          go_wp2_with fail
          refine cL.out.mono ?_
          rintro e w8 ⟨rfl, hT8, Z6, hR8, hS9, hU9⟩
          have hP9 := SO.parted_left hP7.out hS9 hm2
          have hS9w := hS9.wide (a' := a1) (b' := b1) (Nat.le_refl _) (by omega)
          have hfin : Hid (RW w8 g N Z6 rest ∧ SO.Sw a b X Z6 ∧ SO.Bel Z6 m1 b1 ∧ SO.Left Z6 a b m1 b1 ∧ Two g g w w8) := by
            rw [← hm1e]
            exact ⟨hR8, hS8.out.trans (hS9.wide q1 (by omega)), SO.bel_right hP9, SO.left_lower (SO.left_sw hLf8.out hS9w q1 q3) hP9 hm1 hm2 hU9, hT7.out.trans hT8⟩
          have hmb : Hid (a ≤ m1 ∧ m1 ≤ b1 ∧ b1 - m1 < b1 - a1) := by show _ ∧ _ ∧ _; omega
          replace hm1e := W_hid hm1e
          clear hT8 hR8 hS9 hU9 hP9 hS9w cL
          go_wp2_with fail
          go_roundw
          case rel => exact ⟨m1, b1, k2, _, t3, Z6, rfl, rfl, rfl, rfl, rfl, hmb.out.1, hmb.out.2.1, q3, qk2, W_hid hfin.out.1, W_hid hfin.out.2.1, W_hid hfin.out.2.2.1, W_hid hfin.out.2.2.2.1, W_hid hfin.out.2.2.2.2⟩
          case measure => (have := hmb.out.2.2); first | (simp [intOf]; omega) | simp [intOf]
        · clear cL
          go_wp2_with fail
          refine cU.out.mono ?_
          rintro e w8 ⟨rfl, hT8, Z6, hR8, hS9, hU9⟩
          have hfin : Hid (RW w8 g N Z6 rest ∧ SO.Sw a b X Z6 ∧ SO.Bel Z6 a1 m ∧ SO.Left Z6 a b a1 m ∧ Two g g w w8) := by
            rw [← hm1e] at hS9 hU9
            have hP9 := SO.parted_right hP7.out hS9
            have hS9w := hS9.wide (a' := a1) (b' := b1) (by omega) (Nat.le_refl _)
            exact ⟨hR8, hS8.out.trans (hS9.wide (by omega) q3), SO.bel_left (SO.bel_sw hB7.out hS9w) (by omega), SO.left_upper (SO.left_sw hLf8.out hS9w q1 q3) hP9 hm1 hm2 hU9, hT7.out.trans hT8⟩
          have hmb : Hid (m ≤ b ∧ m - a1 < b1 - a1) := by show _ ∧ _; omega
          replace hm1e := W_hid hm1e
          clear hT8 hR8 hS9 hU9 cU
          go_wp2_with fail
          go_roundw
          case rel => exact ⟨a1, m, k2, _, t3, Z6, rfl, rfl, rfl, rfl, rfl, q1, hm1, hmb.out.1, qk2, W_hid hfin.out.1, W_hid hfin.out.2.1, W_hid hfin.out.2.2.1, W_hid hfin.out.2.2.2.1, W_hid hfin.out.2.2.2.2⟩
          case measure => (have := hmb.out.2); first | (simp [intOf]; omega) | simp [intOf]

theorem pdq_all (g N cap : Nat) (rest : List Value) (hN : N < 65536) (hcap : N ≤ cap) (L : Nat) : PdqAt g N cap rest L := by
  induction L using Nat.strongRecOn with
  | ind L ih => exact pdq_step g N cap rest hN hcap L ih

set_option maxRecDepth 100000 in
set_option maxHeartbeats 4000000 in
/-- slices.Sort of a row in which no number stands twice. -/
theorem Sort_all (g N cap : Nat) (rest : List Value) (X : Nat → Nat) (w : World) (h : RW w g N X rest) (hN : N < 65536) (hcap : N ≤ cap) (hX : ∀ i, i < N → X i < 9223372036854775808) (hI : SO.Inj X N) :
    Calls Try.prog 61 #[.slice (some ⟨g, 0, none⟩) N cap] w fun e w' => e = .returned (.tuple #[]) ∧ Two g g w w' ∧ ∃ Y, RW w' g N Y rest ∧ SO.Sw 0 N X Y ∧ SO.Up Y 0 N := by
  have cL := Len_any (N : Int) w (by omega) (by omega)
  have cP := W_hid (fun (k : Nat) hk => pdq_all g N cap rest hN hcap N 0 N k X w (by omega) (Nat.zero_le _) (Nat.le_refl _) hk h (.inl rfl) hI hX)
  clear h
  go_enter Try.func61, Try.ntmps61
  go_wp2_with (first
    | (go_at_call 75; refine cL.mono ?_; rintro e w' ⟨⟨k, rfl, hk⟩, rfl⟩)
    | (go_at_call 74; refine (cP.out _ (by omega)).mono ?_; rintro e w' ⟨rfl, hT, Y, hR, hS, hU⟩))
  go_end0
  exact ⟨rfl, hT, Y, hR, hS, hU⟩
end IS
end Go.Proofs.Ytieneehpijilpaa

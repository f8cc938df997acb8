/- The laws of layer 16, continued: CallBack: for every input it returns true, and its arguments read as before. No further condition. -/
import Derived.Test.YtmhikoblaejhhaaLaws16b
namespace Go.Proofs.Ytmhikoblaejhhaa
open Go.ChangeShapes Go.WideShapes Go.ChangeAt Go.RowKit Go.Maps
open Go.ChangeMaps (open_string shut_string)
set_option linter.unusedVariables false
set_option linter.unusedSimpArgs false
set_option maxRecDepth 100000
open CA

/-- The state of CallBack: the call's block, the reply's block. -/
structure CB (w0 w : World) (v u : List Value) : Prop where
  below : Below w0.heap.size w0 w
  call : Blk w w0.heap.size 25 v
  rep : Blk w (w0.heap.size + 1) 37 u
theorem CB.keep {w0 w w' : World} {v u : List Value} (h : CB w0 w v u) (hb : Below w.heap.size w w') : CB w0 w' v u := ⟨h.below.trans (hb.mono h.below.size), h.call.keep hb, h.rep.keep hb⟩
theorem CB.alloc {w0 w : World} {v u : List Value} (h : CB w0 w v u) (o : Obj) : CB w0 (w.alloc o) v u := h.keep ((Below.refl _ _).alloc (Nat.le_refl _) o)
theorem decQ_cases (s : ByteArray) : (∃ (k : Nat) (n0 n1 n2 : Int) (s0 s1 : ByteArray), s.size ≤ maxLen → k ≤ 25 ∧ s0.size ≤ maxLen ∧ s1.size ≤ maxLen ∧ decQ s = (0, cl k n0 n1 n2 s0 s1) ∧ encE k [n0, n1, n2] [s0, s1] = 0 ∧ encS k [n0, n1, n2] [s0, s1] = s) ∨ (∃ E : Int, ¬ E = 0 ∧ decQ s = (E, zc)) := by
  by_cases h : (decQ s).1 = 0
  · by_cases hm : s.size ≤ maxLen
    · obtain ⟨k, n0, n1, n2, s0, s1, hh⟩ := dec_enc hm h
      exact .inl ⟨k, n0, n1, n2, s0, s1, fun _ => hh⟩
    · exact .inl ⟨0, 0, 0, 0, s, s, fun hh => absurd hh hm⟩
  · rcases decQ_form s with h0 | h2 | h10
    · exact absurd h0 h
    · exact .inr ⟨2, by decide, h2⟩
    · exact .inr ⟨10, by decide, h10⟩

set_option maxRecDepth 100000 in
set_option maxHeartbeats 16000000 in
theorem CallBack_walk (a b c d : Int) (s t : ByteArray) (a1 b1 : Int) (t1 : ByteArray) (p : ByteArray) (w : World) (hf : CFit a b c d s t) (hr : RFit16 a1 b1 t1) (hp : p.size ≤ maxLen) :
    Calls Try.prog 6 #[.agg (cl a b c d s t).toArray, .agg (rv a1 b1 t1).toArray, .string p] w fun e w' => e = .returned (.bool true) ∧ Below w.heap.size w w' := by
  obtain ⟨⟨i0, i1⟩, j1, j2, j3, m0, m1⟩ := hf
  obtain ⟨⟨q0, q1⟩, q2, q3⟩ := hr
  have hE := fun W => Enc_any a b c d s t i0 i1 m0 m1 W
  -- the call's frame
  have hAq : encE a [b, c, d] [s, t] = 0 → decQ (encS a [b, c, d] [s, t]) = (0, cl a b c d s t) := enc_dec j1 j2 j3
  have hAs : encE a [b, c, d] [s, t] = 0 → (encS a [b, c, d] [s, t]).size ≤ maxLen := fun h0 => by
    obtain ⟨x, hx, hs, hl, hb, he⟩ := enc_yes h0
    rw [he, strOf_size, List.length_append, le_length]; unfold maxLen; omega
  generalize encS a [b, c, d] [s, t] = FA at hE hAq hAs
  generalize encE a [b, c, d] [s, t] = EA at hE hAq hAs
  -- the bytes as a call
  obtain ⟨ED, za, zb, zc', zd, zs, zt, hz, hz64, hzs, hzt, hdc0⟩ : ∃ (ED za zb zc' zd : Int) (zs zt : ByteArray), decQ p = (ED, cl za zb zc' zd zs zt) ∧ J64 za ∧ zs.size ≤ maxLen ∧ zt.size ≤ maxLen ∧ ((ED = 0 ∧ encE za [zb, zc', zd] [zs, zt] = 0 ∧ encS za [zb, zc', zd] [zs, zt] = p) ∨ ¬ ED = 0) := by
    rcases decQ_cases p with ⟨k, n0, n1, n2, s0, s1, hh⟩ | ⟨E, hE, hh⟩
    · obtain ⟨hk, h3, h4, h5, h6, h7⟩ := hh hp
      exact ⟨0, k, n0, n1, n2, s0, s1, h5, ⟨by omega, by omega⟩, h3, h4, .inl ⟨rfl, h6, h7⟩⟩
    · exact ⟨E, 0, 0, 0, 0, ByteArray.empty, ByteArray.empty, hh, ⟨by decide, by decide⟩, by decide, by decide, .inr hE⟩
  have hD2 := fun W => Dec_any p hp W
  rw [hz] at hD2
  have hEnc2 := fun W => Enc_any za zb zc' zd zs zt hz64.1 hz64.2 hzs hzt W
  -- the reply's frame
  have hER := fun W => ERep_any a1 b1 t1 q3 W
  have hRq : repE a1 t1 = 0 → a1 < 2147483648 → drQ (repS a1 b1 t1) = (0, rv a1 b1 t1) := rep_dec q2
  have hRs : (repS a1 b1 t1).size ≤ maxLen := by
    unfold repS rfit
    split
    · rename_i h
      have h := of_decide_eq_true h
      rw [strOf_size]
      unfold rbody
      simp only [List.length_append, le_length, size_list]; unfold maxLen; omega
    · decide
  have hRd := fun W => DRep_any (repS a1 b1 t1) hRs W
  generalize repS a1 b1 t1 = FR at hER hRq hRs hRd
  generalize repE a1 t1 = ER at hER hRq
  obtain ⟨EX, xa, xb, xt, hx, hrc⟩ : ∃ (EX xa xb : Int) (xt : ByteArray), drQ FR = (EX, rv xa xb xt) ∧ ((0 = ER ∧ 0 = EX ∧ a1 < 2147483648 ∧ a1 = xa ∧ b1 = xb ∧ t1 = xt) ∨ (0 = ER ∧ ¬ a1 < 2147483648) ∨ ¬ ER = 0) := by
    by_cases h0 : ER = 0
    · by_cases hlt : a1 < 2147483648
      · exact ⟨0, a1, b1, t1, hRq h0 hlt, .inl ⟨h0.symm, rfl, hlt, rfl, rfl, rfl⟩⟩
      · obtain ⟨E, xa, xb, xt, hx⟩ := drQ_rv FR
        exact ⟨E, xa, xb, xt, hx, .inr (.inl ⟨h0.symm, hlt⟩)⟩
    · obtain ⟨E, xa, xb, xt, hx⟩ := drQ_rv FR
      exact ⟨E, xa, xb, xt, hx, .inr (.inr h0)⟩
  rw [hx] at hRd
  -- the bytes as a reply
  obtain ⟨EY, ya, yb, yt, hy, hys, hyc⟩ : ∃ (EY ya yb : Int) (yt : ByteArray), drQ p = (EY, rv ya yb yt) ∧ yt.size ≤ maxLen ∧ ((0 = EY ∧ repE ya yt = 0 ∧ repS ya yb yt = p) ∨ ¬ EY = 0) := by
    by_cases h0 : (drQ p).1 = 0
    · obtain ⟨c, n, t, h1, h2, h3, h4⟩ := dec_rep hp h0
      exact ⟨0, c, n, t, h2, h1, .inl ⟨rfl, h3, h4⟩⟩
    · rcases drQ_form p with h | h
      · exact absurd h h0
      · exact ⟨2, 0, 0, ByteArray.empty, h, by decide, .inr (by decide)⟩
  have hDs := fun W => DRep_any p hp W
  rw [hy] at hDs
  have hEs := fun W => ERep_any ya yb yt hys W
  obtain ⟨SY, hSY⟩ : ∃ SY, repS ya yb yt = SY := ⟨_, rfl⟩
  obtain ⟨GY, hGY⟩ : ∃ GY, repE ya yt = GY := ⟨_, rfl⟩
  rw [hSY, hGY] at hEs
  have hfin : (0 = EY ∧ 0 = GY ∧ p = SY) ∨ ¬ EY = 0 := by
    rcases hyc with ⟨h1, h2, h3⟩ | h1
    · exact .inl ⟨h1, by rw [← hGY, h2], by rw [← hSY, h3]⟩
    · exact .inr h1
  have hADF : EA = 0 → ∀ W, Calls Try.prog 13 #[.string FA] W fun e w' => e = .returned (.tuple #[.agg (cl a b c d s t).toArray, .int .i64 0]) ∧ Below W.heap.size W w' := fun h0 W => by
    have := Dec_any FA (hAs h0) W
    rwa [hAq h0] at this
  have hcn := call_neq_same a b c d s t
  have K0 : CB w ((w.alloc (.cells (cl a b c d s t).toArray 25)).alloc (.cells (rv a1 b1 t1).toArray 37)) (cl a b c d s t) (rv a1 b1 t1) := by
    refine ⟨((Below.refl _ _).alloc (Nat.le_refl _) _).alloc (by simp) _, (Blk.new w 25 (cl a b c d s t) rfl).alloc _, Blk.new (w.alloc (.cells (cl a b c d s t).toArray 25)) 37 (rv a1 b1 t1) (by simp)⟩
  unfold cl rv at *
  replace hE := W_hid hE
  have hDR := W_hid hRd
  replace hD2 := W_hid hD2
  replace hEnc2 := W_hid hEnc2
  replace hER := W_hid hER
  replace hDs := W_hid hDs
  replace hEs := W_hid hEs
  replace hADF := W_hid hADF
  replace hfin := W_hid hfin
  replace hrc := W_hid hrc
  replace hdc0 := W_hid hdc0
  have K := W_hid K0
  clear K0 hRd hAq hAs hRq hRs hz hx hy hyc hSY hGY hz64 hzs hzt i0 i1 j1 j2 j3 m0 m1 q0 q1 q2 q3 hys
  go_enter Try.func6, Try.ntmps6
  go_wp2_with fail
  refine (shown16 _).mono ?_
  rintro e w1 ⟨rfl, bel1⟩
  replace K := W_hid (K.out.keep bel1)
  clear bel1
  have c0 := (K.out).call.cell (j := 0) rfl
  have c1 := (K.out).call.cell (j := 1) rfl
  have c2 := (K.out).call.cell (j := 2) rfl
  have c3 := (K.out).call.cell (j := 3) rfl
  have c4 := (K.out).call.cell (j := 4) rfl
  have c5 := (K.out).call.cell (j := 5) rfl
  go_wp2_with fail
  refine (hE.out _).mono ?_
  rintro e w2 ⟨rfl, bel2⟩
  replace K := W_hid (K.out.keep bel2)
  clear bel2
  clear c0 c1 c2 c3 c4 c5
  by_cases hEA : EA = 0
  · subst hEA
    have hAD2 := hADF.out rfl
    replace hAD2 := W_hid hAD2
    go_wp2_with fail
    refine (hAD2.out _).mono ?_
    rintro e w3 ⟨rfl, bel3⟩
    replace K := W_hid ((K.out.keep bel3).alloc (.cells #[.int .i64 a, .int .i64 b, .int .i64 c, .int .i64 d, .string s, .string t] 25))
    clear bel3
    have c0 := (K.out).call.cell (j := 0) rfl
    have c1 := (K.out).call.cell (j := 1) rfl
    have c2 := (K.out).call.cell (j := 2) rfl
    have c3 := (K.out).call.cell (j := 3) rfl
    have c4 := (K.out).call.cell (j := 4) rfl
    have c5 := (K.out).call.cell (j := 5) rfl
    go_wp2_with fail
    refine (hD2.out _).mono ?_
    rintro e wb1 ⟨rfl, bb1⟩
    rcases hdc0.out with ⟨rfl, hEE, hSS⟩ | hE0
    · replace K := W_hid ((K.out.keep bb1).alloc (.cells #[.int .i64 za, .int .i64 zb, .int .i64 zc', .int .i64 zd, .string zs, .string zt] 25))
      clear bb1
      go_wp2_with fail
      refine (hEnc2.out _).mono ?_
      rintro e wb2 ⟨rfl, bb2⟩
      rw [hEE, hSS]
      replace K := W_hid (K.out.keep bb2)
      clear bb2
      have r0 := (K.out).rep.cell (j := 0) rfl
      have r1 := (K.out).rep.cell (j := 1) rfl
      have r2 := (K.out).rep.cell (j := 2) rfl
      go_wp2_with fail
      refine (hER.out _).mono ?_
      rintro e wc1 ⟨rfl, bc1⟩
      clear r0 r1 r2
      replace K := W_hid (K.out.keep bc1)
      clear bc1
      go_wp2_with fail
      refine (hDR.out _).mono ?_
      rintro e wc2 ⟨rfl, bc2⟩
      replace K := W_hid ((K.out.keep bc2).alloc (.cells #[.int .i64 xa, .int .i64 xb, .string xt] 37))
      clear bc2
      have r0 := (K.out).rep.cell (j := 0) rfl
      have r1 := (K.out).rep.cell (j := 1) rfl
      have r2 := (K.out).rep.cell (j := 2) rfl
      rcases hrc.out with ⟨g0, hx0, hlt, rfl, rfl, rfl⟩ | ⟨g0, hge⟩ | g0
      · subst g0; subst hx0
        have hdc : Hid (decide (a1 < 2147483648) = true) := W_hid (decide_eq_true (by omega))
        have hnq := rep_neq_same a1 b1 t1
        clear hlt
        dsimp only
        iterate 60 (first | ((fail_if_success (rw [hdc.out])); (first | go_guarded | go_step | go_skip | (go_values) | go_upon | go_back | (simp only [Int.not_lt, Int.not_le] at *; go_simp) | (go_values <;> (try go_simp)))) | skip)
        rw [hdc.out]
        go_wp2_with fail
        clear r0 r1 r2
        refine (hDs.out _).mono ?_
        rintro e wd1 ⟨rfl, bd1⟩
        replace K := W_hid ((K.out.keep bd1).alloc (.cells #[.int .i64 ya, .int .i64 yb, .string yt] 37))
        clear bd1
        go_wp2_with fail
        refine (hEs.out _).mono ?_
        rintro e wd2 ⟨rfl, bd2⟩
        replace K := W_hid (K.out.keep bd2)
        clear bd2
        rcases hfin.out with ⟨hz0, hz1, hz2⟩ | hz
        · subst hz0; subst hz1; subst hz2
          go_wp2_with fail
          go_ret
          exact ⟨rfl, K.out.below⟩
        · go_wp2_with fail
          go_ret
          exact ⟨rfl, K.out.below⟩
      · subst g0
        have hdc : Hid (decide (a1 < 2147483648) = false) := W_hid (decide_eq_false (by omega))
        clear hge
        dsimp only
        iterate 60 (first | ((fail_if_success (rw [hdc.out])); (first | go_guarded | go_step | go_skip | (go_values) | go_upon | go_back | (simp only [Int.not_lt, Int.not_le] at *; go_simp) | (go_values <;> (try go_simp)))) | skip)
        rw [hdc.out]
        go_wp2_with fail
        clear r0 r1 r2
        refine (hDs.out _).mono ?_
        rintro e wd1 ⟨rfl, bd1⟩
        replace K := W_hid ((K.out.keep bd1).alloc (.cells #[.int .i64 ya, .int .i64 yb, .string yt] 37))
        clear bd1
        go_wp2_with fail
        refine (hEs.out _).mono ?_
        rintro e wd2 ⟨rfl, bd2⟩
        replace K := W_hid (K.out.keep bd2)
        clear bd2
        rcases hfin.out with ⟨hz0, hz1, hz2⟩ | hz
        · subst hz0; subst hz1; subst hz2
          go_wp2_with fail
          go_ret
          exact ⟨rfl, K.out.below⟩
        · go_wp2_with fail
          go_ret
          exact ⟨rfl, K.out.below⟩
      · clear hrc
        go_wp2_with fail
        clear r0 r1 r2
        refine (hDs.out _).mono ?_
        rintro e wd1 ⟨rfl, bd1⟩
        replace K := W_hid ((K.out.keep bd1).alloc (.cells #[.int .i64 ya, .int .i64 yb, .string yt] 37))
        clear bd1
        go_wp2_with fail
        refine (hEs.out _).mono ?_
        rintro e wd2 ⟨rfl, bd2⟩
        replace K := W_hid (K.out.keep bd2)
        clear bd2
        rcases hfin.out with ⟨hz0, hz1, hz2⟩ | hz
        · subst hz0; subst hz1; subst hz2
          go_wp2_with fail
          go_ret
          exact ⟨rfl, K.out.below⟩
        · go_wp2_with fail
          go_ret
          exact ⟨rfl, K.out.below⟩
    · replace K := W_hid ((K.out.keep bb1).alloc (.cells #[.int .i64 za, .int .i64 zb, .int .i64 zc', .int .i64 zd, .string zs, .string zt] 25))
      clear bb1
      have r0 := (K.out).rep.cell (j := 0) rfl
      have r1 := (K.out).rep.cell (j := 1) rfl
      have r2 := (K.out).rep.cell (j := 2) rfl
      go_wp2_with fail
      refine (hER.out _).mono ?_
      rintro e wc1 ⟨rfl, bc1⟩
      clear r0 r1 r2
      replace K := W_hid (K.out.keep bc1)
      clear bc1
      go_wp2_with fail
      refine (hDR.out _).mono ?_
      rintro e wc2 ⟨rfl, bc2⟩
      replace K := W_hid ((K.out.keep bc2).alloc (.cells #[.int .i64 xa, .int .i64 xb, .string xt] 37))
      clear bc2
      have r0 := (K.out).rep.cell (j := 0) rfl
      have r1 := (K.out).rep.cell (j := 1) rfl
      have r2 := (K.out).rep.cell (j := 2) rfl
      rcases hrc.out with ⟨g0, hx0, hlt, rfl, rfl, rfl⟩ | ⟨g0, hge⟩ | g0
      · subst g0; subst hx0
        have hdc : Hid (decide (a1 < 2147483648) = true) := W_hid (decide_eq_true (by omega))
        have hnq := rep_neq_same a1 b1 t1
        clear hlt
        dsimp only
        iterate 60 (first | ((fail_if_success (rw [hdc.out])); (first | go_guarded | go_step | go_skip | (go_values) | go_upon | go_back | (simp only [Int.not_lt, Int.not_le] at *; go_simp) | (go_values <;> (try go_simp)))) | skip)
        rw [hdc.out]
        go_wp2_with fail
        clear r0 r1 r2
        refine (hDs.out _).mono ?_
        rintro e wd1 ⟨rfl, bd1⟩
        replace K := W_hid ((K.out.keep bd1).alloc (.cells #[.int .i64 ya, .int .i64 yb, .string yt] 37))
        clear bd1
        go_wp2_with fail
        refine (hEs.out _).mono ?_
        rintro e wd2 ⟨rfl, bd2⟩
        replace K := W_hid (K.out.keep bd2)
        clear bd2
        rcases hfin.out with ⟨hz0, hz1, hz2⟩ | hz
        · subst hz0; subst hz1; subst hz2
          go_wp2_with fail
          go_ret
          exact ⟨rfl, K.out.below⟩
        · go_wp2_with fail
          go_ret
          exact ⟨rfl, K.out.below⟩
      · subst g0
        have hdc : Hid (decide (a1 < 2147483648) = false) := W_hid (decide_eq_false (by omega))
        clear hge
        dsimp only
        iterate 60 (first | ((fail_if_success (rw [hdc.out])); (first | go_guarded | go_step | go_skip | (go_values) | go_upon | go_back | (simp only [Int.not_lt, Int.not_le] at *; go_simp) | (go_values <;> (try go_simp)))) | skip)
        rw [hdc.out]
        go_wp2_with fail
        clear r0 r1 r2
        refine (hDs.out _).mono ?_
        rintro e wd1 ⟨rfl, bd1⟩
        replace K := W_hid ((K.out.keep bd1).alloc (.cells #[.int .i64 ya, .int .i64 yb, .string yt] 37))
        clear bd1
        go_wp2_with fail
        refine (hEs.out _).mono ?_
        rintro e wd2 ⟨rfl, bd2⟩
        replace K := W_hid (K.out.keep bd2)
        clear bd2
        rcases hfin.out with ⟨hz0, hz1, hz2⟩ | hz
        · subst hz0; subst hz1; subst hz2
          go_wp2_with fail
          go_ret
          exact ⟨rfl, K.out.below⟩
        · go_wp2_with fail
          go_ret
          exact ⟨rfl, K.out.below⟩
      · clear hrc
        go_wp2_with fail
        clear r0 r1 r2
        refine (hDs.out _).mono ?_
        rintro e wd1 ⟨rfl, bd1⟩
        replace K := W_hid ((K.out.keep bd1).alloc (.cells #[.int .i64 ya, .int .i64 yb, .string yt] 37))
        clear bd1
        go_wp2_with fail
        refine (hEs.out _).mono ?_
        rintro e wd2 ⟨rfl, bd2⟩
        replace K := W_hid (K.out.keep bd2)
        clear bd2
        rcases hfin.out with ⟨hz0, hz1, hz2⟩ | hz
        · subst hz0; subst hz1; subst hz2
          go_wp2_with fail
          go_ret
          exact ⟨rfl, K.out.below⟩
        · go_wp2_with fail
          go_ret
          exact ⟨rfl, K.out.below⟩
  · clear hADF
    go_wp2_with fail
    refine (hD2.out _).mono ?_
    rintro e wb1 ⟨rfl, bb1⟩
    rcases hdc0.out with ⟨rfl, hEE, hSS⟩ | hE0
    · replace K := W_hid ((K.out.keep bb1).alloc (.cells #[.int .i64 za, .int .i64 zb, .int .i64 zc', .int .i64 zd, .string zs, .string zt] 25))
      clear bb1
      go_wp2_with fail
      refine (hEnc2.out _).mono ?_
      rintro e wb2 ⟨rfl, bb2⟩
      rw [hEE, hSS]
      replace K := W_hid (K.out.keep bb2)
      clear bb2
      have r0 := (K.out).rep.cell (j := 0) rfl
      have r1 := (K.out).rep.cell (j := 1) rfl
      have r2 := (K.out).rep.cell (j := 2) rfl
      go_wp2_with fail
      refine (hER.out _).mono ?_
      rintro e wc1 ⟨rfl, bc1⟩
      clear r0 r1 r2
      replace K := W_hid (K.out.keep bc1)
      clear bc1
      go_wp2_with fail
      refine (hDR.out _).mono ?_
      rintro e wc2 ⟨rfl, bc2⟩
      replace K := W_hid ((K.out.keep bc2).alloc (.cells #[.int .i64 xa, .int .i64 xb, .string xt] 37))
      clear bc2
      have r0 := (K.out).rep.cell (j := 0) rfl
      have r1 := (K.out).rep.cell (j := 1) rfl
      have r2 := (K.out).rep.cell (j := 2) rfl
      rcases hrc.out with ⟨g0, hx0, hlt, rfl, rfl, rfl⟩ | ⟨g0, hge⟩ | g0
      · subst g0; subst hx0
        have hdc : Hid (decide (a1 < 2147483648) = true) := W_hid (decide_eq_true (by omega))
        have hnq := rep_neq_same a1 b1 t1
        clear hlt
        dsimp only
        iterate 60 (first | ((fail_if_success (rw [hdc.out])); (first | go_guarded | go_step | go_skip | (go_values) | go_upon | go_back | (simp only [Int.not_lt, Int.not_le] at *; go_simp) | (go_values <;> (try go_simp)))) | skip)
        rw [hdc.out]
        go_wp2_with fail
        clear r0 r1 r2
        refine (hDs.out _).mono ?_
        rintro e wd1 ⟨rfl, bd1⟩
        replace K := W_hid ((K.out.keep bd1).alloc (.cells #[.int .i64 ya, .int .i64 yb, .string yt] 37))
        clear bd1
        go_wp2_with fail
        refine (hEs.out _).mono ?_
        rintro e wd2 ⟨rfl, bd2⟩
        replace K := W_hid (K.out.keep bd2)
        clear bd2
        rcases hfin.out with ⟨hz0, hz1, hz2⟩ | hz
        · subst hz0; subst hz1; subst hz2
          go_wp2_with fail
          go_ret
          exact ⟨rfl, K.out.below⟩
        · go_wp2_with fail
          go_ret
          exact ⟨rfl, K.out.below⟩
      · subst g0
        have hdc : Hid (decide (a1 < 2147483648) = false) := W_hid (decide_eq_false (by omega))
        clear hge
        dsimp only
        iterate 60 (first | ((fail_if_success (rw [hdc.out])); (first | go_guarded | go_step | go_skip | (go_values) | go_upon | go_back | (simp only [Int.not_lt, Int.not_le] at *; go_simp) | (go_values <;> (try go_simp)))) | skip)
        rw [hdc.out]
        go_wp2_with fail
        clear r0 r1 r2
        refine (hDs.out _).mono ?_
        rintro e wd1 ⟨rfl, bd1⟩
        replace K := W_hid ((K.out.keep bd1).alloc (.cells #[.int .i64 ya, .int .i64 yb, .string yt] 37))
        clear bd1
        go_wp2_with fail
        refine (hEs.out _).mono ?_
        rintro e wd2 ⟨rfl, bd2⟩
        replace K := W_hid (K.out.keep bd2)
        clear bd2
        rcases hfin.out with ⟨hz0, hz1, hz2⟩ | hz
        · subst hz0; subst hz1; subst hz2
          go_wp2_with fail
          go_ret
          exact ⟨rfl, K.out.below⟩
        · go_wp2_with fail
          go_ret
          exact ⟨rfl, K.out.below⟩
      · clear hrc
        go_wp2_with fail
        clear r0 r1 r2
        refine (hDs.out _).mono ?_
        rintro e wd1 ⟨rfl, bd1⟩
        replace K := W_hid ((K.out.keep bd1).alloc (.cells #[.int .i64 ya, .int .i64 yb, .string yt] 37))
        clear bd1
        go_wp2_with fail
        refine (hEs.out _).mono ?_
        rintro e wd2 ⟨rfl, bd2⟩
        replace K := W_hid (K.out.keep bd2)
        clear bd2
        rcases hfin.out with ⟨hz0, hz1, hz2⟩ | hz
        · subst hz0; subst hz1; subst hz2
          go_wp2_with fail
          go_ret
          exact ⟨rfl, K.out.below⟩
        · go_wp2_with fail
          go_ret
          exact ⟨rfl, K.out.below⟩
    · replace K := W_hid ((K.out.keep bb1).alloc (.cells #[.int .i64 za, .int .i64 zb, .int .i64 zc', .int .i64 zd, .string zs, .string zt] 25))
      clear bb1
      have r0 := (K.out).rep.cell (j := 0) rfl
      have r1 := (K.out).rep.cell (j := 1) rfl
      have r2 := (K.out).rep.cell (j := 2) rfl
      go_wp2_with fail
      refine (hER.out _).mono ?_
      rintro e wc1 ⟨rfl, bc1⟩
      clear r0 r1 r2
      replace K := W_hid (K.out.keep bc1)
      clear bc1
      go_wp2_with fail
      refine (hDR.out _).mono ?_
      rintro e wc2 ⟨rfl, bc2⟩
      replace K := W_hid ((K.out.keep bc2).alloc (.cells #[.int .i64 xa, .int .i64 xb, .string xt] 37))
      clear bc2
      have r0 := (K.out).rep.cell (j := 0) rfl
      have r1 := (K.out).rep.cell (j := 1) rfl
      have r2 := (K.out).rep.cell (j := 2) rfl
      rcases hrc.out with ⟨g0, hx0, hlt, rfl, rfl, rfl⟩ | ⟨g0, hge⟩ | g0
      · subst g0; subst hx0
        have hdc : Hid (decide (a1 < 2147483648) = true) := W_hid (decide_eq_true (by omega))
        have hnq := rep_neq_same a1 b1 t1
        clear hlt
        dsimp only
        iterate 60 (first | ((fail_if_success (rw [hdc.out])); (first | go_guarded | go_step | go_skip | (go_values) | go_upon | go_back | (simp only [Int.not_lt, Int.not_le] at *; go_simp) | (go_values <;> (try go_simp)))) | skip)
        rw [hdc.out]
        go_wp2_with fail
        clear r0 r1 r2
        refine (hDs.out _).mono ?_
        rintro e wd1 ⟨rfl, bd1⟩
        replace K := W_hid ((K.out.keep bd1).alloc (.cells #[.int .i64 ya, .int .i64 yb, .string yt] 37))
        clear bd1
        go_wp2_with fail
        refine (hEs.out _).mono ?_
        rintro e wd2 ⟨rfl, bd2⟩
        replace K := W_hid (K.out.keep bd2)
        clear bd2
        rcases hfin.out with ⟨hz0, hz1, hz2⟩ | hz
        · subst hz0; subst hz1; subst hz2
          go_wp2_with fail
          go_ret
          exact ⟨rfl, K.out.below⟩
        · go_wp2_with fail
          go_ret
          exact ⟨rfl, K.out.below⟩
      · subst g0
        have hdc : Hid (decide (a1 < 2147483648) = false) := W_hid (decide_eq_false (by omega))
        clear hge
        dsimp only
        iterate 60 (first | ((fail_if_success (rw [hdc.out])); (first | go_guarded | go_step | go_skip | (go_values) | go_upon | go_back | (simp only [Int.not_lt, Int.not_le] at *; go_simp) | (go_values <;> (try go_simp)))) | skip)
        rw [hdc.out]
        go_wp2_with fail
        clear r0 r1 r2
        refine (hDs.out _).mono ?_
        rintro e wd1 ⟨rfl, bd1⟩
        replace K := W_hid ((K.out.keep bd1).alloc (.cells #[.int .i64 ya, .int .i64 yb, .string yt] 37))
        clear bd1
        go_wp2_with fail
        refine (hEs.out _).mono ?_
        rintro e wd2 ⟨rfl, bd2⟩
        replace K := W_hid (K.out.keep bd2)
        clear bd2
        rcases hfin.out with ⟨hz0, hz1, hz2⟩ | hz
        · subst hz0; subst hz1; subst hz2
          go_wp2_with fail
          go_ret
          exact ⟨rfl, K.out.below⟩
        · go_wp2_with fail
          go_ret
          exact ⟨rfl, K.out.below⟩
      · clear hrc
        go_wp2_with fail
        clear r0 r1 r2
        refine (hDs.out _).mono ?_
        rintro e wd1 ⟨rfl, bd1⟩
        replace K := W_hid ((K.out.keep bd1).alloc (.cells #[.int .i64 ya, .int .i64 yb, .string yt] 37))
        clear bd1
        go_wp2_with fail
        refine (hEs.out _).mono ?_
        rintro e wd2 ⟨rfl, bd2⟩
        replace K := W_hid (K.out.keep bd2)
        clear bd2
        rcases hfin.out with ⟨hz0, hz1, hz2⟩ | hz
        · subst hz0; subst hz1; subst hz2
          go_wp2_with fail
          go_ret
          exact ⟨rfl, K.out.below⟩
        · go_wp2_with fail
          go_ret
          exact ⟨rfl, K.out.below⟩

set_option maxRecDepth 100000 in
theorem CallBack_lifted (os : Os) (started : os.Started) (H : Type) (enc : TypeId × Value → H) :
    ReturnsInHanded {} Try.checked os 6 .any (Rows.callBackSpec.pre6 enc Try.prog Try.f6 Rows.callBackRow.domain false) (Rows.callBackSpec.post enc Try.prog Try.f6 false true false false) := by
  refine returnsInHanded_of_change (C := Try.checked) (by kernel_rfl) started (by kernel_rfl) Try.func6
    (ChangeSpec.witness6 (enc := enc) (C := Try.checked) false ⟨#[], #[.agg #[.int .i64 0, .int .i64 0, .int .i64 0, .int .i64 0, .string ByteArray.empty, .string ByteArray.empty], .agg #[.int .i64 0, .int .i64 0, .string ByteArray.empty], .string ByteArray.empty], []⟩ 8 (by kernel_rfl) (by kernel_rfl) (by kernel_rfl) (by kernel_rfl)) ?_
  intro W base args ds gs before hval0 hW hcnd _
  have hval : ∀ (j : Nat) t v, Try.f6.params[j]? = some t → args[j]? = some v → Value.okWide Try.prog W .any base t v := hval0
  have hW' := hW
  obtain ⟨p, q, hA0, hV, rfl, hfz, hnd⟩ := hW
  have hA : DataW.TrodAll enc Try.prog W 0 (fun _ => true) true Try.f6.params.toList args.toList ds p := hA0
  rw [Try.params6] at hA hval
  obtain ⟨v0, vs0, d0, ds0, p0, q0, hargs, rfl, rfl, h0, r0⟩ := trodAll_cons hA
  obtain ⟨v1, vs1, d1, ds1, p1, q1, rfl, rfl, rfl, h1, r1⟩ := trodAll_cons r0
  obtain ⟨v2, vs2, d2, ds2, p2, q2, rfl, rfl, rfl, h2, r2⟩ := trodAll_cons r1
  obtain ⟨rfl, rfl, rfl⟩ := trodAll_nil r2
  obtain rfl : args = #[v0, v1, v2] := by cases args; simp_all
  obtain ⟨rfl, rfl⟩ := trodVars_none hV
  have k0 := h0
  have lt0 : ∀ x ∈ p0, x.block < W.heap.size := by obtain ⟨m, hm⟩ := k0; exact DataW.trod_lt m _ _ _ hm
  obtain ⟨a0, b0, c0, d0, s0, t0, rfl, w0⟩ := open_call (hval 0 25 v0 rfl rfl) h0
  have k1 := h1
  have lt1 : ∀ x ∈ p1, x.block < W.heap.size := by obtain ⟨m, hm⟩ := k1; exact DataW.trod_lt m _ _ _ hm
  obtain ⟨a1, b1, s1, rfl, w1⟩ := open_reply (hval 1 37 v1 rfl rfl) h1
  obtain ⟨a2, rfl, rfl, rfl, w2⟩ := open_string Try.underlying9 (hval 2 9 v2 rfl rfl) h2
  clear hA0 hval0
  refine (CallBack_walk a0 b0 c0 d0 s0 t0 a1 b1 s1 a2 W w0 w1 w2).mono fun e W' ⟨he, bel⟩ => ?_
  subst he
  exact ⟨_, rfl, _, _, _, [], _, [], hW', trodAll_mk1 (shut_bool Try.underlying4 _), (trodAll_cons_mk (Below.trod laidOut (by kernel_rfl) (of_decide_eq_true (by kernel_rfl)) k0 bel lt0) (trodAll_cons_mk (Below.trod laidOut (by kernel_rfl) (of_decide_eq_true (by kernel_rfl)) k1 bel lt1) (trodAll_cons_mk (shut_string Try.underlying9 w2) trodAll_mk0))), rfl, bel.frame _, fun h => by cases h⟩

/-- The given statement of CallBack. -/
theorem CallBack_holds : Rows.CallBackSaid :=
  OpenClaim.holds_of_wide 6 Try.f6 rfl rfl rfl rfl rfl rfl rfl ⟨rfl, rfl, rfl, rfl, rfl⟩ rfl rfl rfl rfl rfl (by kernel_rfl) Try.func6 (by kernel_rfl)
    (of_decide_eq_true (by kernel_rfl)) (by unfold Func.isWrapper; first | (rw [if_pos (by decide +kernel)]; kernel_rfl) | (rw [if_neg (by decide +kernel)]; exact ⟨rfl, rfl⟩))
    (fun os started H enc _ => CallBack_lifted os started H enc)

end Go.Proofs.Ytmhikoblaejhhaa

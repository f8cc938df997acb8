/- The law MemParts of layer 18 (package haywardlaw18): for every input it returns true, and its arguments read as before. No further condition. -/
import Derived.Test.YtjafjjfcmcpaoaaMmTwo
namespace Go.Proofs.Ytjafjjfcmcpaoaa
open Go.ChangeShapes Go.WideShapes Go.ChangeAt Go.RowKit
set_option linter.unusedVariables false
set_option linter.unusedSimpArgs false
set_option maxRecDepth 100000
open MC

theorem nu_src {w : World} {ao : Option Addr} {n cap : Nat} {l : List Int} (h : Nu w ao n l) (h0 : n = 0 → ao = none → cap = 0) : Own.Src w 1 (.slice ao n cap) n (icl l) := by
  have hn := h.1
  cases ao with
  | none =>
    rcases Nat.eq_zero_or_pos n with e | e
    · subst e
      obtain rfl := h0 rfl rfl
      rw [List.eq_nil_of_length_eq_zero hn.symm]
      exact .inl ⟨rfl, rfl, rfl⟩
    · obtain ⟨-, g, o, ha, -⟩ := h.2.2 0 _ (List.getElem?_eq_getElem (by omega))
      cases ha
  | some x =>
    refine .inr ⟨x, cap, rfl, by rw [icl_len, Nat.mul_one]; omega, fun j u hj => ?_⟩
    rw [icl_get] at hj
    rcases e : l[j]? with _ | y
    · rw [e] at hj; cases hj
    · rw [e] at hj
      cases hj
      obtain ⟨-, g, o, ha, -, hc⟩ := h.2.2 j y e
      cases ha
      rw [Addr.add_lit]
      exact hc
theorem own_nu {w : World} {base n : Nat} {v : Value} {l : List Int} (h : w.ownsRow base TI 1 v n (icl l)) (hl : ∀ x ∈ l, I64 x) (hn : n ≤ 60000) : ∃ ao cap, v = .slice ao n cap ∧ Nu w ao n l ∧ ∀ x, ao = some x → base ≤ x.block := by
  obtain ⟨ao, cap, rfl⟩ := Own.form h
  have hlen : l.length = n := by have := h.1; rw [icl_len, Nat.mul_one] at this; exact this
  refine ⟨ao, cap, rfl, ⟨hlen.symm, by omega, fun j x hj => ⟨hl x (List.mem_of_getElem? hj), ?_⟩⟩, ?_⟩
  · rcases h.2 with ⟨h1, h2⟩ | ⟨g, c2, cur, h1, hb, hg, -⟩
    · have := (List.getElem?_eq_some_iff.1 hj).1
      omega
    · simp only [Value.slice.injEq, true_and] at h1
      obtain ⟨rfl, rfl⟩ := h1
      refine ⟨g, 0, rfl, IN.lt_of_some hg, ?_⟩
      have := h.cells (g := g) rfl j (.int .i64 x) (by rw [icl_get, hj]; rfl)
      rwa [Addr.add_lit] at this
  · intro x hx
    rcases h.2 with ⟨h1, h2⟩ | ⟨g, c2, cur, h1, hb, hg, -⟩
    · simp only [Value.slice.injEq] at h1
      rw [hx] at h1
      cases h1.1
    · simp only [Value.slice.injEq, true_and] at h1
      rw [hx] at h1
      obtain ⟨h1, -⟩ := h1
      cases h1
      exact hb
set_option maxRecDepth 100000 in
set_option maxHeartbeats 8000000 in
theorem MemParts_walk (o0 : Option Addr) (n0 c0 : Nat) (l0 : List (Value × List In)) (a1 : Option Addr) (len1 cap1 : Nat) (z1 : List Int) (a2 : Option Addr) (len2 cap2 : Nat) (z2 : List Int) (w : World) (w0 : PA w o0 n0 l0) (w1 : IsRow .i64 w a1 len1 cap1 z1) (w2 : IsRow .i64 w a2 len2 cap2 z2) (s1 : cap1 * 8 ≤ 140737488351232) (s2 : cap2 * 8 ≤ 140737488351232) :
    Calls Try.prog 5 #[.slice o0 n0 c0, .slice a1 len1 cap1, .slice a2 len2 cap2] w fun e w' => e = .returned (.bool true) ∧ Below w.heap.size w w' := by
  obtain ⟨hU1, hU2, hU3⟩ := nu_row w1
  obtain ⟨hV1, hV2, hV3⟩ := nu_row w2
  have hc1 : a1 = none → cap1 = 0 := fun h => by rcases w1 with ⟨-, -, h2, -⟩ | ⟨x, h1, -⟩ <;> first | exact h2 | (rw [h1] at h; cases h)
  have hc2 : a2 = none → cap2 = 0 := fun h => by rcases w2 with ⟨-, -, h2, -⟩ | ⟨x, h1, -⟩ <;> first | exact h2 | (rw [h1] at h; cases h)
  have hn63 := w0.1.2.1
  clear w1 w2
  obtain ⟨m1, hm1, hm2, hm3⟩ : ∃ m : Nat, (if (500 : Int) < (len1 : Int) then (500 : Int) else (len1 : Int)) = (m : Int) ∧ m ≤ len1 ∧ m ≤ 500 := by
    by_cases h : (500 : Int) < (len1 : Int)
    · exact ⟨500, by rw [if_pos h]; rfl, by omega, by omega⟩
    · exact ⟨len1, by rw [if_neg h], Nat.le_refl _, by omega⟩
  obtain ⟨m2, hm4, hm5, hm6⟩ : ∃ m : Nat, (if (500 : Int) < (len2 : Int) then (500 : Int) else (len2 : Int)) = (m : Int) ∧ m ≤ len2 ∧ m ≤ 500 := by
    by_cases h : (500 : Int) < (len2 : Int)
    · exact ⟨500, by rw [if_pos h]; rfl, by omega, by omega⟩
    · exact ⟨len2, by rw [if_neg h], Nat.le_refl _, by omega⟩
  have cut1 := cut_ints a1 len1 cap1 m1 (by omega) hU2
  have cut2 := cut_ints a2 len2 cap2 m2 (by omega) hV2
  have N1 := W_hid (hU1.take (k := m1) (by omega))
  have N2 := W_hid (hV1.take (k := m2) (by omega))
  by_cases hok : newOK ((5 : Nat) : Int) n0
  · have hn64 : n0 ≤ 64 := hok.2.2
    have hnl : n0 = l0.length := w0.1.1
    have hF : Fit 5 (new 5 (l0.map Prod.snd)) := new_fit (fun p hp => by
      obtain ⟨x, hx, rfl⟩ := List.mem_map.1 hp
      obtain ⟨j, hj, rfl⟩ := List.getElem_of_mem hx
      obtain ⟨g, o, -, -, -, -, h5, h6⟩ := w0.1.2.2 j _ (List.getElem?_eq_getElem hj)
      exact ⟨h5, h6⟩) (by simp; omega)
    have hp := W_hid (fun (W : World) (hb : Below w.heap.size w W) => New_yes (lo := w.heap.size) (cap := c0) (w0.1.below hb) hok hb.size)
    obtain ⟨S0, hS0⟩ : ∃ S, new 5 (l0.map Prod.snd) = S := ⟨_, rfl⟩
    rw [hS0] at hF hp
    replace hF := W_hid hF
    replace hS0 := W_hid hS0
    replace hok := W_hid hok
    obtain ⟨L1, hL1⟩ : ∃ L, (z1.take len1).take m1 = L := ⟨_, rfl⟩
    obtain ⟨L2, hL2⟩ : ∃ L, (z2.take len2).take m2 = L := ⟨_, rfl⟩
    rw [hL1] at N1
    rw [hL2] at N2
    obtain ⟨T1, K1, h1⟩ : ∃ T K, go S0 L1 = (T, K) := ⟨_, _, rfl⟩
    obtain ⟨T, K2, h2⟩ : ∃ T K, go T1 L2 = (T, K) := ⟨_, _, rfl⟩
    have h3 : go S0 (L1 ++ L2) = (T, K1 + K2) := by
      have h4 := go_both S0 L1 L2
      rw [h1] at h4
      simp only [h2] at h4
      exact Prod.ext h4.1 h4.2
    have k1 : K1 ≤ 500 := by have := go_le S0 L1; rw [h1] at this; have := N1.out.1; simp only at *; omega
    have k2 : K2 ≤ 500 := by have := go_le T1 L2; rw [h2] at this; have := N2.out.1; simp only at *; omega
    have hR1 := W_hid (fun W ga gb (h : JJ w W ga gb 5 S0 S0) => h.aRun (cap := cap1) N1.out)
    have hR2 := W_hid (fun W ga gb (h : JJ w W ga gb 5 T1 S0) => h.aRun (cap := cap2) N2.out)
    have hR3 := W_hid (fun W ga gb (h : JJ w W ga gb 5 T S0) W2 (hb : Below W.heap.size W W2) ao cap (hl : Nu W2 ao (m1 + m2) (L1 ++ L2)) hlo => h.bRun2 (cap := cap) hb hl hlo)
    rw [h1] at hR1
    rw [h2] at hR2
    rw [h3] at hR3
    have hC1 := W_hid (fun W ga gb i (h : JJ w W ga gb 5 T T) => h.aCell i)
    have hC2 := W_hid (fun W ga gb i (h : JJ w W ga gb 5 T T) => h.bCell i)
    have hV1' := W_hid (fun W ga gb (h : JJ w W ga gb 5 T T) => h.aLive)
    have hV2' := W_hid (fun W ga gb (h : JJ w W ga gb 5 T T) => h.bLive)
    obtain ⟨mm, hmm⟩ : ∃ mm, m1 + m2 = mm := ⟨_, rfl⟩
    rw [hmm] at hR3
    have hw : IntKind.i64.wrap ((m1 : Int) + (m2 : Int)) = (mm : Int) := by rw [IntWalk.i64_in _ (by omega)]; omega
    have hmm2 : mm ≤ 1000 := by omega
    obtain ⟨Xo, hmk, hmo⟩ := Own.make_room (t := 23) und_ints info_int mm (mm : Int) rfl (by omega) (by omega)
    have I1 : ∀ x ∈ L1 ++ L2, I64 x := fun x hx => by
      rcases List.mem_append.1 hx with hx | hx
      · obtain ⟨j, hj, rfl⟩ := List.getElem_of_mem hx
        exact (N1.out.2.2 j _ (List.getElem?_eq_getElem hj)).1
      · obtain ⟨j, hj, rfl⟩ := List.getElem_of_mem hx
        exact (N2.out.2.2 j _ (List.getElem?_eq_getElem hj)).1
    have S1 := W_hid (fun W (hb : Below w.heap.size w W) => nu_src (cap := cap1) (N1.out.below hb) (fun _ h => hc1 h))
    have S2 := W_hid (fun W (hb : Below w.heap.size w W) => nu_src (cap := cap2) (N2.out.below hb) (fun _ h => hc2 h))
    have hks : IntKind.i64.wrap ((K1 : Int) + (K2 : Int)) = ((K1 + K2 : Nat) : Int) := by rw [IntWalk.i64_in _ (by omega)]; omega
    obtain ⟨K, hK⟩ : ∃ K, K1 + K2 = K := ⟨_, rfl⟩
    rw [hK] at hks hR3
    replace h1 := W_hid h1
    replace h2 := W_hid h2
    replace h3 := W_hid h3
    replace hmm := W_hid hmm
    replace hK := W_hid hK
    replace hmo := W_hid hmo
    replace I1 := W_hid I1
    replace hL1 := W_hid hL1
    replace hL2 := W_hid hL2
    replace hnl := W_hid hnl
    replace hc1 := W_hid hc1
    replace hc2 := W_hid hc2
    clear hU1 hV1 w0
    go_enter Try.func5, Try.ntmps5
    go_wp2_with fail
    refine (shown_any _).mono ?_
    rintro e w1 ⟨rfl, b1⟩
    go_wp2_with fail
    refine (hp.out _ b1).mono ?_
    rintro e w2 ⟨ga, rfl, hP, b2⟩
    have b3 : Below w.heap.size w w2 := b1.trans (b2.mono b1.size)
    replace b1 := W_hid b1
    go_wp2_with fail
    refine (hp.out _ b3).mono ?_
    rintro e w3 ⟨gb, rfl, hQ, b4⟩
    have hJ : JJ w w3 ga gb 5 S0 S0 := ⟨⟨_, _, _, _, b1.out.size, Nat.le_refl _, hP.keep b4, hQ⟩, b3.trans (b4.mono b3.size), hF.out, hF.out⟩
    replace hJ := W_hid hJ
    clear hp hP hQ b2 b3 b4
    go_wp2_with fail
    refine (hR1.out _ _ _ hJ.out).mono ?_
    rintro e v1 ⟨rfl, j1⟩
    replace j1 := W_hid j1
    go_wp2_with fail
    refine (hR2.out _ _ _ j1.out).mono ?_
    rintro e v2 ⟨rfl, j2⟩
    have hB2 : Below v2.heap.size v2 (v2.alloc Xo) := (Below.refl _ _).alloc (Nat.le_refl _) _
    have hrow0 := W_hid (hmo.out v2 v2.heap.size (Nat.le_refl _))
    have hs1 := W_hid (S1.out (v2.alloc Xo) (j2.keep hB2).bel)
    replace j2 := W_hid j2
    replace hB2 := W_hid hB2
    have hv2 : (v2.alloc Xo).heap.size = v2.heap.size + 1 := by simp
    replace hv2 := W_hid hv2
    go_wp2_with (first
      | (at_builtin; refine Own.wpList_app rfl (.tmp 61) (.tmp 62) 23 rfl und_ints info_int (.slice (some ⟨v2.heap.size, 0, none⟩) 0 mm) (.slice a1 m1 cap1) rfl rfl hrow0.out (by have := hv2.out; omega) hs1.out (icl_one _) (by unfold maxLen; omega) (by omega) ?_; intro x4 w4 ho4 hg4 hob4; have hB4 := W_hid (hB2.out.grown hg4 (by have := hv2.out; omega) (fun k hk => Own.ge hrow0.out k hk)); have hs2 := W_hid (S2.out w4 (j2.out.keep hB4.out).bel); rw [Nat.zero_add, List.nil_append] at ho4; obtain ⟨a4, c4, rfl⟩ := Own.form ho4; have ho4 := W_hid ho4; clear hg4 hob4)
      | (at_builtin; refine Own.wpList_app rfl (.tmp 63) (.tmp 64) 23 rfl und_ints info_int (.slice a4 m1 c4) (.slice a2 m2 cap2) rfl rfl ho4.out hB4.out.size hs2.out (icl_one _) (by unfold maxLen; omega) (by omega) ?_; intro x5 w5 ho5 hg5 hob5; have hB5 := W_hid (hB4.out.grown hg5 hB4.out.size (fun k hk => Own.ge ho4.out k hk)); rw [← icl_app, show m1 + m2 = mm from hmm.out] at ho5; obtain ⟨a5, c5, rfl, hN5, hlo5⟩ := own_nu ho5 I1.out (by omega); replace hN5 := W_hid hN5; replace hlo5 := W_hid hlo5; clear ho5 hg5 hob5))
    refine (hR3.out _ _ _ j2.out _ hB5.out _ _ hN5.out (fun _ x hx => hlo5.out x hx)).mono ?_
    rintro e v6 ⟨rfl, j6⟩
    replace j6 := W_hid j6
    clear hN5 hlo5 hB5 hB4 hs2 ho4 hs1 hB2 hrow0 j2 j1 hJ hR1 hR2 hR3 S1 S2
    go_wp2_with fail
    go_loopw [15] (fun i wr => ∃ (I : Int), i = .int .i64 I ∧ 0 ≤ I ∧ I ≤ 5 ∧ Hid (JJ w wr ga gb 5 T T)) (fun i _ => (5 - intOf i).toNat)
    case atStart => exact ⟨0, rfl, by omega, by omega, j6⟩
    case round =>
      obtain ⟨I, rfl, hI1, hI2, hJ2⟩ := hrel
      by_cases hle : I < 5
      · have hkp : IntKind.i64.wrap (I + 1) = I + 1 := IntWalk.i64_in _ (by omega)
        obtain ⟨Y, hY⟩ : ∃ Y, cellM T I = Y := ⟨_, rfl⟩
        have c1' := W_hid (hC1.out wr ga gb I hJ2.out)
        have c2' := W_hid (hC2.out wr ga gb I hJ2.out)
        rw [hY] at c1' c2'
        replace hY := W_hid hY
        go_wp2_with fail
        refine c1'.out.mono ?_
        rintro e v1 ⟨rfl, rfl⟩
        go_wp2_with fail
        refine c2'.out.mono ?_
        rintro e v1 ⟨rfl, rfl⟩
        go_wp2_with fail
        exact ⟨⟨I + 1, rfl, by omega, by omega, hJ2⟩, by simp [intOf]; omega⟩
      · have hln : (live T.t).length ≤ 60000 := by have := live_len T.t; have := hJ2.out.fa.n; omega
        obtain ⟨ln, hlnn⟩ : ∃ ln, (live T.t).length = ln := ⟨_, rfl⟩
        rw [hlnn] at hV1' hV2' hln
        replace hlnn := W_hid hlnn
        go_wp2_with fail
        refine (hV1'.out _ _ _ hJ2.out).mono ?_
        rintro e v5 ⟨a5, c5, rfl, n5, j5, -⟩
        go_wp2_with fail
        refine (hV2'.out _ _ _ j5).mono ?_
        rintro e v6 ⟨a6, c6, rfl, n6, j6', b6⟩
        have hsm := W_hid (Same_yes (c1 := c5) (c2 := c6) (nul_below n5 b6) n6 hln)
        replace n5 := W_hid n5
        replace n6 := W_hid n6
        replace j6' := W_hid j6'
        replace b6 := W_hid b6
        go_wp2_with fail
        refine hsm.out.mono ?_
        rintro e v7 ⟨rfl, b7⟩
        have j7 := W_hid (j6'.out.keep b7)
        go_wp2_with fail
        go_ret
        exact ⟨rfl, j7.out.bel⟩
  · have hp := W_hid (fun W => New_no (w := W) (ao := o0) (cap := c0) (show I64 5 from ⟨by decide, by decide⟩) hok hn63)
    clear hok w0
    go_enter Try.func5, Try.ntmps5
    go_wp2_with (first
      | (go_at_call 9; refine (shown_any _).mono ?_; rintro e w1 ⟨rfl, b1⟩; replace b1 := W_hid b1)
      | (go_at_call 10; refine (hp.out _).mono ?_; rintro e w2 ⟨rfl, rfl⟩))
    go_ret
    exact ⟨rfl, b1.out⟩
set_option maxRecDepth 100000 in
theorem MemParts_lifted (os : Os) (started : os.Started) (H : Type) (enc : TypeId × Value → H) :
    ReturnsInHanded {} Try.checked os 5 .any (Rows.memPartsSpec.pre6 enc Try.prog Try.f5 Rows.memPartsRow.domain false) (Rows.memPartsSpec.post enc Try.prog Try.f5 false true false false) := by
  refine returnsInHanded_of_change_sized (C := Try.checked) (by kernel_rfl) started (by kernel_rfl) Try.func5
    (ChangeSpec.witness6 (enc := enc) (C := Try.checked) false ⟨#[], #[.slice none 0 0, .slice none 0 0, .slice none 0 0], []⟩ 8 (by kernel_rfl) (by kernel_rfl) (by kernel_rfl) (by kernel_rfl)) ?_
  intro W base args ds gs before hval0 hW hcnd hsz0 _
  have hsz : (DataW.weightsEach Try.prog (Try.f5.params.toList ++ Rows.memPartsSpec.plain.varTypes Try.prog) (ds ++ gs)).all (· ≤ reachBytes) = true := hsz0
  clear hsz0
  have hval : ∀ (j : Nat) t v, Try.f5.params[j]? = some t → args[j]? = some v → Value.okWide Try.prog W .any base t v := hval0
  have hW' := hW
  obtain ⟨p, q, hA0, hV, rfl, hfz, hnd⟩ := hW
  have hA : DataW.TrodAll enc Try.prog W 0 (fun _ => true) true Try.f5.params.toList args.toList ds p := hA0
  rw [Try.params5] at hA hval hsz
  obtain ⟨v0, vs0, d0, ds0, p0, q0, hargs, rfl, rfl, h0, r0⟩ := trodAll_cons hA
  obtain ⟨v1, vs1, d1, ds1, p1, q1, rfl, rfl, rfl, h1, r1⟩ := trodAll_cons r0
  obtain ⟨v2, vs2, d2, ds2, p2, q2, rfl, rfl, rfl, h2, r2⟩ := trodAll_cons r1
  obtain ⟨rfl, rfl, rfl⟩ := trodAll_nil r2
  obtain rfl : args = #[v0, v1, v2] := by cases args; simp_all
  obtain ⟨rfl, rfl⟩ := trodVars_none hV
  have k0 := h0
  have lt0 : ∀ x ∈ p0, x.block < W.heap.size := by obtain ⟨m, hm⟩ := k0; exact DataW.trod_lt m _ _ _ hm
  obtain ⟨o0, n0, c0, l0, rfl, w0⟩ := open_progs (hval 0 22 v0 rfl rfl) h0 fun q hq => of_decide_eq_true (List.all_eq_true.1 hsz _ (DataW.weights_mem_each (j := 0) (t := 22) rfl rfl q hq))
  obtain ⟨a1, len1, cap1, rfl⟩ := okWide_slice Try.underlying23 (hval 1 23 v1 rfl rfl)
  have k1 := h1
  have lt1 : ∀ x ∈ p1, x.block < W.heap.size := by obtain ⟨m, hm⟩ := k1; exact DataW.trod_lt m _ _ _ hm
  obtain ⟨z1, w1, s1⟩ : ∃ zs, IsRow .i64 W a1 len1 cap1 zs ∧ cap1 * 8 ≤ 140737488351232 := by
    obtain ⟨fuel, hf⟩ := h1
    rcases open_ints Try.underlying23 Try.underlying3 (by kernel_rfl) hf with ⟨hcs, _⟩ | ⟨x, l, c, zs, hcs, _, hl, hm, hz, hx, hcell, hwz⟩
    · simp [Value.cells] at hcs
      obtain ⟨rfl, rfl, rfl⟩ := hcs
      exact ⟨[], .inl ⟨rfl, rfl, rfl, rfl⟩, by simp⟩
    · simp [Value.cells] at hcs
      obtain ⟨rfl, rfl, rfl⟩ := hcs
      have hs := sized_slice hsz (j := 1) (t := 23) (e := 3) rfl (congrArg some (Prod.mk.inj hx).1) Try.underlying23
      rw [show Try.prog.bytesOf 3 = 8 from by kernel_rfl] at hs
      have hz2 : zs.length = cap1 := by simpa using hz
      simp only [lits, List.length_map, List.length_take, List.length_drop, reachBytes] at hs
      exact ⟨zs, .inr ⟨_, rfl, hl, hm, hz2, hcell, hwz⟩, by omega⟩
  obtain ⟨a2, len2, cap2, rfl⟩ := okWide_slice Try.underlying23 (hval 2 23 v2 rfl rfl)
  have k2 := h2
  have lt2 : ∀ x ∈ p2, x.block < W.heap.size := by obtain ⟨m, hm⟩ := k2; exact DataW.trod_lt m _ _ _ hm
  obtain ⟨z2, w2, s2⟩ : ∃ zs, IsRow .i64 W a2 len2 cap2 zs ∧ cap2 * 8 ≤ 140737488351232 := by
    obtain ⟨fuel, hf⟩ := h2
    rcases open_ints Try.underlying23 Try.underlying3 (by kernel_rfl) hf with ⟨hcs, _⟩ | ⟨x, l, c, zs, hcs, _, hl, hm, hz, hx, hcell, hwz⟩
    · simp [Value.cells] at hcs
      obtain ⟨rfl, rfl, rfl⟩ := hcs
      exact ⟨[], .inl ⟨rfl, rfl, rfl, rfl⟩, by simp⟩
    · simp [Value.cells] at hcs
      obtain ⟨rfl, rfl, rfl⟩ := hcs
      have hs := sized_slice hsz (j := 2) (t := 23) (e := 3) rfl (congrArg some (Prod.mk.inj hx).1) Try.underlying23
      rw [show Try.prog.bytesOf 3 = 8 from by kernel_rfl] at hs
      have hz2 : zs.length = cap2 := by simpa using hz
      simp only [lits, List.length_map, List.length_take, List.length_drop, reachBytes] at hs
      exact ⟨zs, .inr ⟨_, rfl, hl, hm, hz2, hcell, hwz⟩, by omega⟩
  clear hA0 hval0
  refine (MemParts_walk o0 n0 c0 l0 a1 len1 cap1 z1 a2 len2 cap2 z2 W w0 w1 w2 s1 s2).mono fun e W' ⟨he, bel⟩ => ?_
  subst he
  exact ⟨_, rfl, _, _, _, [], _, [], hW', trodAll_mk1 (shut_bool Try.underlying4 _), (trodAll_cons_mk (Below.trod laidOut (by kernel_rfl) (of_decide_eq_true (by kernel_rfl)) k0 bel lt0) (trodAll_cons_mk (Below.trod laidOut (by kernel_rfl) (of_decide_eq_true (by kernel_rfl)) k1 bel lt1) (trodAll_cons_mk (Below.trod laidOut (by kernel_rfl) (of_decide_eq_true (by kernel_rfl)) k2 bel lt2) trodAll_mk0))), rfl, bel.frame _, fun h => by cases h⟩

/-- The given statement of MemParts. -/
theorem MemParts_holds : Rows.MemPartsSaid :=
  OpenClaim.holds_of_wide 5 Try.f5 rfl rfl rfl rfl rfl rfl rfl ⟨rfl, rfl, rfl, rfl, rfl⟩ rfl rfl rfl rfl rfl (by kernel_rfl) Try.func5 (by kernel_rfl)
    (of_decide_eq_true (by kernel_rfl)) (by unfold Func.isWrapper; first | (rw [if_pos (by decide +kernel)]; kernel_rfl) | (rw [if_neg (by decide +kernel)]; exact ⟨rfl, rfl⟩))
    (fun os started H enc _ => MemParts_lifted os started H enc)

end Go.Proofs.Ytjafjjfcmcpaoaa

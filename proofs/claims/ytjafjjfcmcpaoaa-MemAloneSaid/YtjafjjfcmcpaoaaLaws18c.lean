/- The law MemAlone of layer 18 (package haywardlaw18): for every input it returns true, and its arguments read as before. No further condition. -/
import Derived.Test.YtjafjjfcmcpaoaaMmTwo
import Derived.Test.YtjafjjfcmcpaoaaHeldTil
namespace Go.Proofs.Ytjafjjfcmcpaoaa
open Go.ChangeShapes Go.WideShapes Go.ChangeAt Go.RowKit
set_option linter.unusedVariables false
set_option linter.unusedSimpArgs false
set_option maxRecDepth 100000
open MC

theorem one_prog {W0 W : World} {o : Option Addr} {n c : Nat} {p : List In} (h : IA W0 o n c p) (hb : Below W0.heap.size W0 W) :
    PIn (W.alloc (.cells #[.slice o n c] 39)) (some ⟨W.heap.size, 0, none⟩) 1 [(.slice o n c, p)] := by
  have hs := h.2.1.keep hb
  obtain ⟨h1, -, h3, h4⟩ := h
  subst h1
  refine ⟨rfl, by decide, fun j x hj => ?_⟩
  have : j = 0 := by have := (List.getElem?_eq_some_iff.1 hj).1; simp at this; omega
  subst this
  simp only [List.getElem?_cons_zero, Option.some.injEq] at hj
  subst hj
  exact ⟨W.heap.size, 0, rfl, by simp, (Blk.new W 39 [.slice o p.length c] rfl).cell rfl, hs.keep ((Below.refl _ _).alloc (Nat.le_refl _) _), h3, by simp only; omega⟩
set_option maxRecDepth 100000 in
set_option maxHeartbeats 8000000 in
theorem MemAlone_walk (o0 : Option Addr) (n0 c0 : Nat) (l0 : List In) (a1 : Option Addr) (len1 cap1 : Nat) (z1 : List Int) (a2 : Option Addr) (len2 cap2 : Nat) (z2 : List Int) (w : World) (w0 : IA w o0 n0 c0 l0) (w1 : IsRow .i64 w a1 len1 cap1 z1) (w2 : IsRow .i64 w a2 len2 cap2 z2) (s1 : cap1 * 8 ≤ 140737488351232) (s2 : cap2 * 8 ≤ 140737488351232) :
    Calls Try.prog 8 #[.slice o0 n0 c0, .slice a1 len1 cap1, .slice a2 len2 cap2] w fun e w' => e = .returned (.bool true) ∧ Below w.heap.size w w' := by
  obtain ⟨hU1, hU2, hU3⟩ := nu_row w1
  obtain ⟨hV1, hV2, hV3⟩ := nu_row w2
  clear w1 w2
  have hF : Fit 5 (new 5 [l0]) := new_fit (fun p hp => by
    obtain rfl := List.mem_singleton.1 hp
    exact ⟨w0.2.2.1, by have := w0.1; have := w0.2.2.2; omega⟩) (by simp)
  obtain ⟨S0, hS0⟩ : ∃ S, new 5 [l0] = S := ⟨_, rfl⟩
  have hlen : S0.t.length ≤ 1 := by rw [← hS0]; simp [new]
  have hp := W_hid (fun (W : World) (hb : Below w.heap.size w W) => New_yes (lo := w.heap.size) (C := 5) (cap := 1) (one_prog w0 hb) ⟨by decide, by decide, by omega⟩ (by have := hb.size; simp; omega))
  have hb1 := W_hid (fun (W : World) (hb : Below w.heap.size w W) => (hb.alloc hb.size (.cells #[.slice o0 n0 c0] 39)))
  have hb2 := W_hid (fun (W : World) => ((Below.refl W.heap.size W).alloc (Nat.le_refl _) (.cells #[.slice o0 n0 c0] 39)))
  simp only [List.map_cons, List.map_nil, hS0] at hp
  rw [hS0] at hF
  replace hF := W_hid hF
  replace hU1 := W_hid hU1
  replace hV1 := W_hid hV1
  replace hS0 := W_hid hS0
  replace hlen := W_hid hlen
  clear w0
  go_enter Try.func8, Try.ntmps8
  go_wp2_with fail
  refine (shown_any _).mono ?_
  rintro e w1 ⟨rfl, b1⟩
  go_wp2_with fail
  refine (hp.out _ b1).mono ?_
  rintro e w2 ⟨ga, rfl, hP, b2⟩
  have b2' : Below w1.heap.size w1 w2 := (hb2.out w1).trans (b2.mono (by simp))
  have b3 : Below w.heap.size w w2 := b1.trans (b2'.mono b1.size)
  replace b1 := W_hid b1
  go_wp2_with fail
  refine (hp.out _ b3).mono ?_
  rintro e w3 ⟨gb, rfl, hQ, b4⟩
  have b4' : Below w2.heap.size w2 w3 := (hb2.out w2).trans (b4.mono (by simp))
  have hJ : JJ w w3 ga gb 5 S0 S0 := ⟨⟨_, _, _, _, by have := b1.out.size; simp; omega, by simp, hP.keep b4', hQ⟩, b3.trans (b4'.mono b3.size), hF.out, hF.out⟩
  replace hJ := W_hid hJ
  clear hp hP hQ b2 b2' b3 b4 b4' hb1 hb2
  obtain ⟨m1, hm1, hm2, hm3⟩ : ∃ m1 : Nat, (if len2 < len1 then (len2 : Int) else (len1 : Int)) = (m1 : Int) ∧ m1 ≤ len1 ∧ m1 ≤ len2 := by
    by_cases h : len2 < len1
    · exact ⟨len2, by rw [if_pos h], by omega, Nat.le_refl _⟩
    · exact ⟨len1, by rw [if_neg h], Nat.le_refl _, by omega⟩
  obtain ⟨m, hm4, hm5, hm6⟩ : ∃ m : Nat, (if (500 : Int) < (m1 : Int) then (500 : Int) else (m1 : Int)) = (m : Int) ∧ m ≤ m1 ∧ m ≤ 500 := by
    by_cases h : (500 : Int) < (m1 : Int)
    · exact ⟨500, by rw [if_pos h]; rfl, by omega, by omega⟩
    · exact ⟨m1, by rw [if_neg h], Nat.le_refl _, by omega⟩
  have cut1 := cut_ints a1 len1 cap1 m (by omega) hU2
  have cut2 := cut_ints a2 len2 cap2 m (by omega) hV2
  have N1 := W_hid (hU1.out.take (k := m) (by omega))
  have N2 := W_hid (hV1.out.take (k := m) (by omega))
  have hgo : go S0 ((z1.take len1).take m) = go S0 ((z2.take len2).take m) := go_alone hlen.out (by have := N1.out.1; have := N2.out.1; omega)
  obtain ⟨T, K, hTK⟩ : ∃ T K, go S0 ((z2.take len2).take m) = (T, K) := ⟨_, _, rfl⟩
  have hR1 := W_hid (fun W (h : JJ w W ga gb 5 S0 S0) => h.aRun (cap := cap1) N1.out)
  have hR2 := W_hid (fun W (h : JJ w W ga gb 5 T S0) => h.bRun (cap := cap2) (N2.out.below h.bel) (fun a b _ hn x hx => .inl (N2.out.low hn x hx)))
  rw [hgo, hTK] at hR1
  rw [hTK] at hR2
  have hA1 := W_hid (fun W (h : JJ w W ga gb 5 T T) => h.aAt 0)
  have hA2 := W_hid (fun W (h : JJ w W ga gb 5 T T) => h.bAt 0)
  obtain ⟨X, hX⟩ : ∃ X, atM T 0 = X := ⟨_, rfl⟩
  rw [hX] at hA1 hA2
  have hC1 := W_hid (fun W i (h : JJ w W ga gb 5 T T) => h.aCell i)
  have hC2 := W_hid (fun W i (h : JJ w W ga gb 5 T T) => h.bCell i)
  have hG1 := W_hid (fun W i (h : JJ w W ga gb 5 T T) => h.aReg 0 i)
  have hG2 := W_hid (fun W i (h : JJ w W ga gb 5 T T) => h.bReg 0 i)
  have hKK : decide (¬ (K : Int) = (K : Int)) = false := by simp
  replace hTK := W_hid hTK
  replace hgo := W_hid hgo
  replace hX := W_hid hX
  clear hKK N1 N2
  go_wp2_with fail
  refine UpTil.region (S := fun _ => True) (m := 17) (by kernel_rfl) trivial (fun hHeld => ?_)
  refine up (i := 0) (v := ptr ga) hHeld ?_
  refine up (i := 1) (v := .slice a1 len1 cap1) hHeld ?_
  refine up (i := 2) (v := .int .i64 (m : Int)) hHeld ?_
  refine up (i := 3) (v := .slice a1 m cap1) hHeld ?_
  refine up (i := 5) (v := ptr gb) hHeld ?_
  refine up (i := 6) (v := .slice a2 len2 cap2) hHeld ?_
  refine up (i := 7) (v := .int .i64 (m : Int)) hHeld ?_
  refine up (i := 8) (v := .slice a2 m cap2) hHeld ?_
  refine UpTil.one (i := 4) (by kernel_rfl) rfl rfl (fun K hK => ?_)
  go_simp
  refine (hR1.out _ (hJ.out.keep (Below.refl _ _).drew)).mono ?_
  rintro e v1 ⟨rfl, j1⟩
  refine hK.out _ _ (fun _ => trivial) ?_
  clear hK K
  try simp only [Act.put, List.setIfInBounds_toArray, List.set_cons_zero, List.set_cons_succ, List.getElem_toArray, List.getElem_cons_zero, List.getElem_cons_succ]
  refine UpTil.one (i := 9) (by kernel_rfl) rfl rfl (fun K hK => ?_)
  go_simp
  refine (hR2.out _ j1).mono ?_
  rintro e v2 ⟨rfl, j2⟩
  refine hK.out _ _ (fun _ => trivial) ?_
  clear hK K
  try simp only [Act.put, List.setIfInBounds_toArray, List.set_cons_zero, List.set_cons_succ, List.getElem_toArray, List.getElem_cons_zero, List.getElem_cons_succ]
  refine up (i := 10) (v := .bool false) hHeld ?_
  refine up (i := 11) (v := .bool false) hHeld ?_
  refine up (i := 12) (v := ptr ga) hHeld ?_
  refine up (i := 14) (v := ptr gb) hHeld ?_
  refine UpTil.oneW (i := 13) (by kernel_rfl) rfl (by rfl) (fun K hK => ?_)
  go_simp
  refine (hA1.out _ j2).mono ?_
  rintro e v3 ⟨rfl, j3⟩
  refine hK.out _ _ (fun _ => trivial) ?_
  clear hK K
  try simp only [Act.put, List.setIfInBounds_toArray, List.set_cons_zero, List.set_cons_succ, List.getElem_toArray, List.getElem_cons_zero, List.getElem_cons_succ]
  refine UpTil.oneW (i := 15) (by kernel_rfl) rfl (by rfl) (fun K hK => ?_)
  go_simp
  refine (hA2.out _ j3).mono ?_
  rintro e v4 ⟨rfl, j4⟩
  refine hK.out _ _ (fun _ => trivial) ?_
  clear hK K
  try simp only [Act.put, List.setIfInBounds_toArray, List.set_cons_zero, List.set_cons_succ, List.getElem_toArray, List.getElem_cons_zero, List.getElem_cons_succ]
  refine up (i := 16) (v := .bool false) hHeld ?_
  refine UpTil.last (by kernel_rfl) rfl rfl (by kernel_rfl) ?_
  go_simp
  replace j4 := W_hid j4
  clear j1 j2 j3 hHeld hJ
  go_wp2_with fail
  go_loopw [13] (fun i wr => ∃ (I : Int), i = .int .i64 I ∧ 0 ≤ I ∧ I ≤ 8 ∧ Hid (JJ w wr ga gb 5 T T)) (fun i _ => (8 - intOf i).toNat)
  case atStart => exact ⟨0, rfl, by omega, by omega, j4⟩
  case round =>
    obtain ⟨I, rfl, hI1, hI2, hJ2⟩ := hrel
    by_cases hle : I < 8
    · have hkp : IntKind.i64.wrap (I + 1) = I + 1 := IntWalk.i64_in _ (by omega)
      obtain ⟨Y, hY⟩ : ∃ Y, cellM T I = Y := ⟨_, rfl⟩
      obtain ⟨Z, hZ⟩ : ∃ Z, regM T 0 I = Z := ⟨_, rfl⟩
      have c1' := W_hid (hC1.out wr I hJ2.out)
      have c2' := W_hid (hC2.out wr I hJ2.out)
      have c3' := W_hid (hG1.out wr I hJ2.out)
      have c4' := W_hid (fun W h => hG2.out W I h)
      rw [hY] at c1' c2'
      rw [hZ] at c3' c4'
      replace hY := W_hid hY
      replace hZ := W_hid hZ
      go_wp2_with fail
      refine c1'.out.mono ?_
      rintro e v1 ⟨rfl, rfl⟩
      go_wp2_with fail
      refine c2'.out.mono ?_
      rintro e v1 ⟨rfl, rfl⟩
      go_wp2_with fail
      refine c3'.out.mono ?_
      rintro e v1 ⟨rfl, j5⟩
      go_wp2_with fail
      refine (c4'.out _ j5).mono ?_
      rintro e v1 ⟨rfl, j6⟩
      replace j6 := W_hid j6
      go_wp2_with fail
      exact ⟨⟨I + 1, rfl, by omega, by omega, j6⟩, by simp [intOf]; omega⟩
    · go_wp2_with fail
      go_ret
      exact ⟨rfl, hJ2.out.bel⟩
set_option maxRecDepth 100000 in
theorem MemAlone_lifted (os : Os) (started : os.Started) (H : Type) (enc : TypeId × Value → H) :
    ReturnsInHanded {} Try.checked os 8 .any (Rows.memAloneSpec.pre6 enc Try.prog Try.f8 Rows.memAloneRow.domain false) (Rows.memAloneSpec.post enc Try.prog Try.f8 false true false false) := by
  refine returnsInHanded_of_change_sized (C := Try.checked) (by kernel_rfl) started (by kernel_rfl) Try.func8
    (ChangeSpec.witness6 (enc := enc) (C := Try.checked) false ⟨#[], #[.slice none 0 0, .slice none 0 0, .slice none 0 0], []⟩ 8 (by kernel_rfl) (by kernel_rfl) (by kernel_rfl) (by kernel_rfl)) ?_
  intro W base args ds gs before hval0 hW hcnd hsz0 _
  have hsz : (DataW.weightsEach Try.prog (Try.f8.params.toList ++ Rows.memAloneSpec.plain.varTypes Try.prog) (ds ++ gs)).all (· ≤ reachBytes) = true := hsz0
  clear hsz0
  have hval : ∀ (j : Nat) t v, Try.f8.params[j]? = some t → args[j]? = some v → Value.okWide Try.prog W .any base t v := hval0
  have hW' := hW
  obtain ⟨p, q, hA0, hV, rfl, hfz, hnd⟩ := hW
  have hA : DataW.TrodAll enc Try.prog W 0 (fun _ => true) true Try.f8.params.toList args.toList ds p := hA0
  rw [Try.params8] at hA hval hsz
  obtain ⟨v0, vs0, d0, ds0, p0, q0, hargs, rfl, rfl, h0, r0⟩ := trodAll_cons hA
  obtain ⟨v1, vs1, d1, ds1, p1, q1, rfl, rfl, rfl, h1, r1⟩ := trodAll_cons r0
  obtain ⟨v2, vs2, d2, ds2, p2, q2, rfl, rfl, rfl, h2, r2⟩ := trodAll_cons r1
  obtain ⟨rfl, rfl, rfl⟩ := trodAll_nil r2
  obtain rfl : args = #[v0, v1, v2] := by cases args; simp_all
  obtain ⟨rfl, rfl⟩ := trodVars_none hV
  have k0 := h0
  have lt0 : ∀ x ∈ p0, x.block < W.heap.size := by obtain ⟨m, hm⟩ := k0; exact DataW.trod_lt m _ _ _ hm
  obtain ⟨o0, n0, c0, l0, rfl, w0⟩ := open_ins (hval 0 39 v0 rfl rfl) h0 fun q hq => of_decide_eq_true (List.all_eq_true.1 hsz _ (DataW.weights_mem_each (j := 0) (t := 39) rfl rfl q hq))
  obtain ⟨a1, len1, cap1, rfl⟩ := okWide_slice Try.underlying23 (hval 1 23 v1 rfl rfl)
  have k1 := h1
  have lt1 : ∀ x ∈ p1, x.block < W.heap.size := by obtain ⟨m, hm⟩ := k1; exact DataW.trod_lt m _ _ _ hm
  obtain ⟨z1, w1, s1⟩ : ∃ zs, IsRow .i64 W a1 len1 cap1 zs ∧ cap1 * 8 ≤ 140737488351232 := by
    obtain ⟨fuel, hf⟩ := h1
    rcases open_ints Try.underlying23 Try.underlying3 (by kernel_rfl) hf with ⟨hcs, _⟩ | ⟨x, l, c, zs, hcs, _, hl, hm, hz, hx, hcell, hwz⟩
    · simp [Value.cells] at hcs
      obtain ⟨rfl, rfl, rfl⟩ := hcs
      exact ⟨[], .inl ⟨rfl, rfl, rfl, rfl⟩, by simp⟩
    · simp [Value.cells] at hcs
      obtain ⟨rfl, rfl, rfl⟩ := hcs
      have hs := sized_slice hsz (j := 1) (t := 23) (e := 3) rfl (congrArg some (Prod.mk.inj hx).1) Try.underlying23
      rw [show Try.prog.bytesOf 3 = 8 from by kernel_rfl] at hs
      have hz2 : zs.length = cap1 := by simpa using hz
      simp only [lits, List.length_map, List.length_take, List.length_drop, reachBytes] at hs
      exact ⟨zs, .inr ⟨_, rfl, hl, hm, hz2, hcell, hwz⟩, by omega⟩
  obtain ⟨a2, len2, cap2, rfl⟩ := okWide_slice Try.underlying23 (hval 2 23 v2 rfl rfl)
  have k2 := h2
  have lt2 : ∀ x ∈ p2, x.block < W.heap.size := by obtain ⟨m, hm⟩ := k2; exact DataW.trod_lt m _ _ _ hm
  obtain ⟨z2, w2, s2⟩ : ∃ zs, IsRow .i64 W a2 len2 cap2 zs ∧ cap2 * 8 ≤ 140737488351232 := by
    obtain ⟨fuel, hf⟩ := h2
    rcases open_ints Try.underlying23 Try.underlying3 (by kernel_rfl) hf with ⟨hcs, _⟩ | ⟨x, l, c, zs, hcs, _, hl, hm, hz, hx, hcell, hwz⟩
    · simp [Value.cells] at hcs
      obtain ⟨rfl, rfl, rfl⟩ := hcs
      exact ⟨[], .inl ⟨rfl, rfl, rfl, rfl⟩, by simp⟩
    · simp [Value.cells] at hcs
      obtain ⟨rfl, rfl, rfl⟩ := hcs
      have hs := sized_slice hsz (j := 2) (t := 23) (e := 3) rfl (congrArg some (Prod.mk.inj hx).1) Try.underlying23
      rw [show Try.prog.bytesOf 3 = 8 from by kernel_rfl] at hs
      have hz2 : zs.length = cap2 := by simpa using hz
      simp only [lits, List.length_map, List.length_take, List.length_drop, reachBytes] at hs
      exact ⟨zs, .inr ⟨_, rfl, hl, hm, hz2, hcell, hwz⟩, by omega⟩
  clear hA0 hval0
  refine (MemAlone_walk o0 n0 c0 l0 a1 len1 cap1 z1 a2 len2 cap2 z2 W w0 w1 w2 s1 s2).mono fun e W' ⟨he, bel⟩ => ?_
  subst he
  exact ⟨_, rfl, _, _, _, [], _, [], hW', trodAll_mk1 (shut_bool Try.underlying4 _), (trodAll_cons_mk (Below.trod laidOut (by kernel_rfl) (of_decide_eq_true (by kernel_rfl)) k0 bel lt0) (trodAll_cons_mk (Below.trod laidOut (by kernel_rfl) (of_decide_eq_true (by kernel_rfl)) k1 bel lt1) (trodAll_cons_mk (Below.trod laidOut (by kernel_rfl) (of_decide_eq_true (by kernel_rfl)) k2 bel lt2) trodAll_mk0))), rfl, bel.frame _, fun h => by cases h⟩

/-- The given statement of MemAlone. -/
theorem MemAlone_holds : Rows.MemAloneSaid :=
  OpenClaim.holds_of_wide 8 Try.f8 rfl rfl rfl rfl rfl rfl rfl ⟨rfl, rfl, rfl, rfl, rfl⟩ rfl rfl rfl rfl rfl (by kernel_rfl) Try.func8 (by kernel_rfl)
    (of_decide_eq_true (by kernel_rfl)) (by unfold Func.isWrapper; first | (rw [if_pos (by decide +kernel)]; kernel_rfl) | (rw [if_neg (by decide +kernel)]; exact ⟨rfl, rfl⟩))
    (fun os started H enc _ => MemAlone_lifted os started H enc)

end Go.Proofs.Ytjafjjfcmcpaoaa

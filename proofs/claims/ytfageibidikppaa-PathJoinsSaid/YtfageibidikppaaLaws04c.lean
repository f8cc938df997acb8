/- PathShows (package haywardlaw04), and what paths as arguments are: for every input it returns true, and its arguments read as before. No further condition. -/
import Derived.Test.YtfageibidikppaaLaws04
import Derived.Test.YtfageibidikppaaPathShow2
import Derived.Lib.SmallJoins
import Derived.SliceStrings
namespace Go.Proofs.Ytfageibidikppaa
open Go.ChangeShapes Go.WideShapes Go.ChangeAt Go.RowKit
open Go.ChangeMaps (open_string shut_string)
set_option linter.unusedVariables false
set_option linter.unusedSimpArgs false

/-- A path that came in: its names read as a list of strings. -/
theorem open_path {H : Type} {enc : TypeId × Value → H} {W : World} {r : Reach} {b0 : Nat} {v : Value} {d : DataW H} {p : List MemPlace} (hv : Value.okWide Try.prog W r b0 25 v)
    (h : DataW.Trod enc Try.prog W 0 (fun _ => true) true 25 v d p) :
    ∃ (a : Bool) (ao : Option Addr) (n cap : Nat) (l : List ByteArray) (dd : Bool), v = .agg #[.bool a, .slice ao n cap, .bool dd] ∧ SS W ao n cap l ∧ (∀ x ∈ l, x.size ≤ maxLen) ∧ (cap = 0 ∨ cap * 16 ∈ d.weights Try.prog 25) := by
  obtain ⟨v0, v1, v2, y0, y1, y2, m, rfl, rfl, -, h0, h1, h2⟩ := Joins.open_agg3 Try.underlying25 (by kernel_rfl) (by kernel_rfl) hv h
  obtain ⟨a, e0, -⟩ := DataW.trod_bool Try.underlying4 h0
  obtain ⟨dd, e2, -⟩ := DataW.trod_bool Try.underlying4 h2
  obtain rfl : v0 = .bool a := by simpa using e0
  obtain rfl : v2 = .bool dd := by simpa using e2
  rcases open_strings Try.underlying23 Try.underlying9 (by kernel_rfl) h1 with ⟨e1, -⟩ | ⟨x, len, cap, ss, e1, -, hl, hm, hz, hx, hc, hs⟩
  · obtain rfl : v1 = .slice none 0 0 := by simpa using e1
    exact ⟨a, none, 0, 0, [], dd, rfl, SS.nil W, by simp, .inl rfl⟩
  · obtain rfl : v1 = .slice (some x) len cap := by simpa using e1
    have hz' : ss.length = cap := by simpa using hz
    refine ⟨a, some x, len, cap, ss.take len, dd, rfl, ⟨by simp; omega, hl, hm, (fun h => by cases h), fun ad had j u hu => ?_⟩, fun s hs' => hs s (List.mem_of_mem_take hs'), .inr ?_⟩
    · obtain rfl := Option.some.inj had
      have hj : j < len := by
        have := (List.getElem?_eq_some_iff.1 hu).1
        rw [scl_length, List.length_take] at this; omega
      rw [hc j (by omega), ← hu, scl_get, List.getElem?_take, if_pos hj, List.getD, List.getElem?_eq_getElem (by omega : j < ss.length)]
      rfl
    · have hy : y1.1 = .slice (strs (ss.take len)) (strs (ss.drop len)) := by rw [hx]
      have hw : DataW.weights Try.prog 25 (.agg [y0.1, y1.1, y2.1]) = DataW.weightsEach Try.prog [4, 23, 4] [y0.1, y1.1, y2.1] := by
        rw [DataW.weights, Try.underlying25]
        rfl
      rw [hw]
      refine DataW.weights_mem_each (j := 1) (t := 23) rfl rfl _ ?_
      rw [hy, DataW.weights, Try.underlying23]
      have hb : Try.prog.bytesOf 9 = 16 := by kernel_rfl
      simp only [List.mem_cons]
      left
      rw [hb, strs, strs, List.length_map, List.length_map, List.length_take, List.length_drop, hz']
      congr 1
      omega
theorem fit_of {H : Type} {W : World} {ao : Option Addr} {n cap : Nat} {l : List ByteArray} {d : DataW H} (h : SS W ao n cap l) (hs : ∀ x ∈ l, x.size ≤ maxLen) (hw : cap = 0 ∨ cap * 16 ∈ d.weights Try.prog 25) (hsz : ∀ q ∈ d.weights Try.prog 25, q ≤ reachBytes) : Fit n l := by
  refine ⟨?_, hs⟩
  have h1 := h.2.1
  rcases hw with h0 | hw
  · omega
  · have := hsz _ hw
    have := reachBytes_lt
    omega

set_option maxHeartbeats 1000000 in
theorem PathShows_walk (a0 : Bool) (o0 : Option Addr) (n0 c0 : Nat) (l0 : List ByteArray) (d0 : Bool) (w : World) (w0 : SS w o0 n0 c0 l0) (s0 : Fit n0 l0) :
    Calls Try.prog 4 #[.agg #[.bool a0, .slice o0 n0 c0, .bool d0]] w fun e w' => e = .returned (.bool true) ∧ Below w.heap.size w w' := by
  have hP := W_hid (fun w h => Show_any a0 d0 o0 n0 c0 l0 w h s0)
  have hR := W_hid (fun w h => rShow_any a0 d0 o0 n0 c0 l0 w h s0)
  have bb : Below w.heap.size w (w.alloc (.cells #[.bool a0, .slice o0 n0 c0, .bool d0] 25)) := (Below.refl _ _).alloc (Nat.le_refl _) _
  have s1 := w0.alloc (.cells #[.bool a0, .slice o0 n0 c0, .bool d0] 25)
  have p1 := PB.new w a0 (.slice o0 n0 c0) d0 rfl
  clear w0
  go_enter Try.func4, Try.ntmps4
  go_wp2_with fail
  refine (shown_any _).mono ?_
  rintro e w1 ⟨rfl, bel1⟩
  replace s1 := s1.below bel1 (Nat.le_refl _)
  replace p1 := p1.below bel1 (by simp)
  have b1 := bb.trans (bel1.mono bb.size)
  have q0 := p1.c0
  have q1 := p1.c1
  have q2 := p1.c2
  go_wp2_with fail
  refine (hP.out _ s1).mono ?_
  rintro e w2 ⟨rfl, bel2⟩
  replace s1 := s1.below bel2 (Nat.le_refl _)
  replace p1 := p1.below bel2 p1.lt
  have b2 := b1.trans (bel2.mono b1.size)
  clear q0 q1 q2
  have q0 := p1.c0
  have q1 := p1.c1
  have q2 := p1.c2
  go_wp2_with fail
  refine (hR.out _ s1).mono ?_
  rintro e w3 ⟨rfl, bel3⟩
  have b3 := b2.trans (bel3.mono b2.size)
  generalize shV a0 l0 d0 = x at *
  generalize shE a0 l0 d0 = y at *
  go_wp2
  go_ret
  exact ⟨rfl, b3⟩

set_option maxRecDepth 100000 in
theorem PathShows_lifted (os : Os) (started : os.Started) (H : Type) (enc : TypeId × Value → H) :
    ReturnsInHanded {} Try.checked os 4 .any (Rows.pathShowsSpec.pre6 enc Try.prog Try.f4 Rows.pathShowsRow.domain false) (Rows.pathShowsSpec.post enc Try.prog Try.f4 false true false false) := by
  refine returnsInHanded_of_change_sized (C := Try.checked) (by kernel_rfl) started (by kernel_rfl) Try.func4
    (ChangeSpec.witness6 (enc := enc) (C := Try.checked) false ⟨#[], #[.agg #[.bool false, .slice none 0 0, .bool false]], []⟩ 8 (by kernel_rfl) (by kernel_rfl) (by kernel_rfl) (by kernel_rfl)) ?_
  intro W base args ds gs before hval0 hW hcnd hsz0 _
  have hsz : (DataW.weightsEach Try.prog (Try.f4.params.toList ++ Rows.pathShowsSpec.plain.varTypes Try.prog) (ds ++ gs)).all (· ≤ reachBytes) = true := hsz0
  clear hsz0
  have hval : ∀ (j : Nat) t v, Try.f4.params[j]? = some t → args[j]? = some v → Value.okWide Try.prog W .any base t v := hval0
  have hW' := hW
  obtain ⟨p, q, hA0, hV, rfl, hfz, hnd⟩ := hW
  have hA : DataW.TrodAll enc Try.prog W 0 (fun _ => true) true Try.f4.params.toList args.toList ds p := hA0
  rw [Try.params4] at hA hval hsz
  obtain ⟨v0, vs0, d0, ds0, p0, q0, hargs, rfl, rfl, h0, r0⟩ := trodAll_cons hA
  obtain ⟨rfl, rfl, rfl⟩ := trodAll_nil r0
  obtain rfl : args = #[v0] := by cases args; simp_all
  obtain ⟨rfl, rfl⟩ := trodVars_none hV
  have k0 := h0
  have lt0 : ∀ x ∈ p0, x.block < W.heap.size := by obtain ⟨m, hm⟩ := k0; exact DataW.trod_lt m _ _ _ hm
  obtain ⟨a0, o0, n0, c0, l0, d0, rfl, w0, g0, z0⟩ := open_path (hval 0 25 v0 rfl rfl) h0
  have s0 : Fit n0 l0 := fit_of w0 g0 z0 fun q hq => of_decide_eq_true (List.all_eq_true.1 hsz _ (DataW.weights_mem_each (j := 0) (t := 25) rfl rfl q hq))
  clear hA0 hval0
  refine (PathShows_walk a0 o0 n0 c0 l0 d0 W w0 s0).mono fun e W' ⟨he, bel⟩ => ?_
  subst he
  exact ⟨_, rfl, _, _, _, [], _, [], hW', trodAll_mk1 (shut_bool Try.underlying4 _), (trodAll_cons_mk (Below.trod laidOut (by kernel_rfl) (of_decide_eq_true (by kernel_rfl)) k0 bel lt0) trodAll_mk0), rfl, bel.frame _, fun h => by cases h⟩

/-- The given statement of PathShows. -/
theorem PathShows_holds : Rows.PathShowsSaid :=
  OpenClaim.holds_of_wide 4 Try.f4 rfl rfl rfl rfl rfl rfl rfl ⟨rfl, rfl, rfl, rfl, rfl⟩ rfl rfl rfl rfl rfl (by kernel_rfl) Try.func4 (by kernel_rfl)
    (of_decide_eq_true (by kernel_rfl)) (by unfold Func.isWrapper; first | (rw [if_pos (by decide +kernel)]; kernel_rfl) | (rw [if_neg (by decide +kernel)]; exact ⟨rfl, rfl⟩))
    (fun os started H enc _ => PathShows_lifted os started H enc)

end Go.Proofs.Ytfageibidikppaa

/- PathJoins (package haywardlaw04): for every input it returns true, and its arguments read as before. No further condition. -/
import Derived.Test.YtfageibidikppaaLaws04e
import Derived.Test.YtfageibidikppaaRefJoin
namespace Go.Proofs.Ytfageibidikppaa
open Go.ChangeShapes Go.WideShapes Go.ChangeAt Go.RowKit
open Go.ChangeMaps (open_string shut_string)
set_option linter.unusedVariables false
set_option linter.unusedSimpArgs false

theorem Join_all (aA aD bA bD : Bool) (oa ob : Option Addr) (na ca nb cb : Nat) (aL bL : List ByteArray) (w : World) (ha : SS w oa na ca aL) (hb : SS w ob nb cb bL) (fa : Fit na aL) (fb : Fit nb bL) :
    Calls Try.prog 19 #[.agg #[.bool aA, .slice oa na ca, .bool aD], .agg #[.bool bA, .slice ob nb cb, .bool bD]] w (Joined aA aL aD bA bL bD w) := by
  cases h1 : PM.valid aA aL aD with
  | false => exact Join_no aA aD bA bD oa ob na ca nb cb aL bL w ha hb fa fb (.inl h1)
  | true =>
    cases h2 : PM.valid bA bL bD with
    | false => exact Join_no aA aD bA bD oa ob na ca nb cb aL bL w ha hb fa fb (.inr h2)
    | true => exact Join_yes aA aD bA bD oa ob na ca nb cb aL bL w ha hb fa fb h1 h2
theorem rJoin_all (aA aD bA bD : Bool) (oa ob : Option Addr) (na ca nb cb : Nat) (aL bL : List ByteArray) (w : World) (ha : SS w oa na ca aL) (hb : SS w ob nb cb bL) (fa : Fit na aL) (fb : Fit nb bL) :
    Calls Try.prog 20 #[.agg #[.bool aA, .slice oa na ca, .bool aD], .agg #[.bool bA, .slice ob nb cb, .bool bD]] w (Joined aA aL aD bA bL bD w) := by
  cases h1 : PM.valid aA aL aD with
  | false => exact rJoin_no aA aD bA bD oa ob na ca nb cb aL bL w ha hb fa fb (.inl h1)
  | true =>
    cases h2 : PM.valid bA bL bD with
    | false => exact rJoin_no aA aD bA bD oa ob na ca nb cb aL bL w ha hb fa fb (.inr h2)
    | true => exact rJoin_yes aA aD bA bD oa ob na ca nb cb aL bL w ha hb fa fb h1 h2
theorem answers_join {aA aD bA bD : Bool} {aL bL : List ByteArray} {w w' : World} {e : Ending} (h : Joined aA aL aD bA bL bD w e w') : Answers (joA aA aL aD bA bL bD) (joL aA aL aD bA bL bD) (joD aA aL aD bA bL bD) (joE aA aL aD bA bL bD) w e w' := by
  obtain ⟨v, rfl, hown, bel⟩ := h
  obtain ⟨ao, cap, rfl⟩ := own_form hown
  exact ⟨ao, cap, rfl, hown, bel⟩
theorem joL_length (aA aD bA bD : Bool) (aL bL : List ByteArray) : (joL aA aL aD bA bL bD).length ≤ 1000000 := by
  unfold joL
  split
  · next h =>
    have hv : PM.valid aA aL aD = true ∧ PM.valid bA bL bD = true := by
      apply Classical.byContradiction
      intro hn
      unfold joE at h
      rw [if_neg hn] at h
      cases h
    have := (jnL_tot (bA := bA) hv.1 hv.2).2
    omega
  · simp

set_option maxRecDepth 100000 in
set_option maxHeartbeats 2000000 in
theorem joins_of (a0 d0 a1 d1 A D : Bool) (o0 o1 : Option Addr) (n0 c0 n1 c1 : Nat) (l0 l1 L : List ByteArray) (E : Int) (w : World) (w0 : SS w o0 n0 c0 l0) (w1' : SS w o1 n1 c1 l1) (hL : L.length ≤ 1000000)
    (hN : ∀ w, SS w o0 n0 c0 l0 → SS w o1 n1 c1 l1 → Calls Try.prog 19 #[.agg #[.bool a0, .slice o0 n0 c0, .bool d0], .agg #[.bool a1, .slice o1 n1 c1, .bool d1]] w (Answers A L D E w))
    (hR : ∀ w, SS w o0 n0 c0 l0 → SS w o1 n1 c1 l1 → Calls Try.prog 20 #[.agg #[.bool a0, .slice o0 n0 c0, .bool d0], .agg #[.bool a1, .slice o1 n1 c1, .bool d1]] w (Answers A L D E w)) :
    Calls Try.prog 6 #[.agg #[.bool a0, .slice o0 n0 c0, .bool d0], .agg #[.bool a1, .slice o1 n1 c1, .bool d1]] w fun e w' => e = .returned (.bool true) ∧ Below w.heap.size w w' := by
  replace hN := W_hid hN
  replace hR := W_hid hR
  have hE := W_hid (fun w x1 c1 x2 c2 h1 h2 => Same_any A D A D x1 x2 L.length c1 L.length c2 L L w h1 h2)
  rw [same_refl] at hE
  have b0 : Below w.heap.size w (w.alloc (.cells #[.bool a0, .slice o0 n0 c0, .bool d0] 25)) := (Below.refl _ _).alloc (Nat.le_refl _) _
  have bel := b0.alloc b0.size (.cells #[.bool a1, .slice o1 n1 c1, .bool d1] 25)
  have p0 := (PB.new w a0 (.slice o0 n0 c0) d0 rfl).alloc (.cells #[.bool a1, .slice o1 n1 c1, .bool d1] 25)
  have p1 : PB _ (w.heap.size + 1) a1 (.slice o1 n1 c1) d1 := PB.new (w.alloc (.cells #[.bool a0, .slice o0 n0 c0, .bool d0] 25)) a1 (.slice o1 n1 c1) d1 (by simp)
  clear b0
  go_enter Try.func6, Try.ntmps6
  go_wp2_with fail
  refine (shown_any _).mono ?_
  rintro e w1 ⟨rfl, bel1⟩
  replace p0 := p0.below bel1 p0.lt
  replace p1 := p1.below bel1 p1.lt
  replace bel := bel.trans (bel1.mono bel.size)
  clear bel1
  have q0 := p0.c0
  have q1 := p0.c1
  have q2 := p0.c2
  have q3 := p1.c0
  have q4 := p1.c1
  have q5 := p1.c2
  go_wp2_with fail
  clear q0 q1 q2 q3 q4 q5
  refine (hN.out _ (w0.below bel (Nat.le_refl _)) (w1'.below bel (Nat.le_refl _))).mono ?_
  rintro e w2 ⟨ao, cap, rfl, hown, bel2⟩
  have hlo := p1.lt
  have hbox := bel2.size
  replace p0 := (p0.below bel2 p0.lt).alloc (.cells #[.bool A, .slice ao L.length cap, .bool D] 25)
  replace p1 := (p1.below bel2 p1.lt).alloc (.cells #[.bool A, .slice ao L.length cap, .bool D] 25)
  replace bel := (bel.trans (bel2.mono bel.size)).alloc (bel.trans (bel2.mono bel.size)).size (.cells #[.bool A, .slice ao L.length cap, .bool D] 25)
  have p2 := PB.new w2 A (.slice ao L.length cap) D rfl
  have q0 := p0.c0
  have q1 := p0.c1
  have q2 := p0.c2
  have q3 := p1.c0
  have q4 := p1.c1
  have q5 := p1.c2
  go_wp2_with fail
  clear q0 q1 q2 q3 q4 q5
  refine (hR.out _ (w0.below bel (Nat.le_refl _)) (w1'.below bel (Nat.le_refl _))).mono ?_
  rintro e w3 ⟨ao3, cap3, rfl, hown3, bel3⟩
  have hmine := mine_own (wr := w3.alloc (.cells #[.bool A, .slice ao3 L.length cap3, .bool D] 25)) (hi := w2.heap.size) hown (Nat.le_refl _) ((((Below.refl _ _).alloc (Nat.le_refl _) _).trans (bel3.mono (by simp))).alloc (by have := bel3.size; simp at this; omega) _)
  have s2 := ((SS_own hown).alloc (.cells #[.bool A, .slice ao L.length cap, .bool D] 25)).below bel3 (Nat.le_refl _) |>.alloc (.cells #[.bool A, .slice ao3 L.length cap3, .bool D] 25)
  replace p0 := (p0.below bel3 p0.lt).alloc (.cells #[.bool A, .slice ao3 L.length cap3, .bool D] 25)
  replace p1 := (p1.below bel3 p1.lt).alloc (.cells #[.bool A, .slice ao3 L.length cap3, .bool D] 25)
  replace p2 := (p2.below bel3 p2.lt).alloc (.cells #[.bool A, .slice ao3 L.length cap3, .bool D] 25)
  have p3 := PB.new w3 A (.slice ao3 L.length cap3) D rfl
  have h3z : w2.heap.size + 1 ≤ w3.heap.size := by have := bel3.size; simp at this; omega
  replace bel := (bel.trans (bel3.mono bel.size)).alloc (bel.trans (bel3.mono bel.size)).size (.cells #[.bool A, .slice ao3 L.length cap3, .bool D] 25)
  replace hown3 := (own_base (base' := w2.heap.size + 1) (by simp) hown3).alloc (.cells #[.bool A, .slice ao3 L.length cap3, .bool D] 25)
  have s3 := SS_own hown3
  clear bel2 bel3 hown
  have q0 := p2.c0
  have q1 := p2.c1
  have q2 := p2.c2
  go_wp2_with fail
  clear q0 q1 q2
  refine (hE.out _ _ _ _ _ s2 s3).mono ?_
  rintro e w4 ⟨rfl, bel4⟩
  replace hmine := hmine.below bel4 (by simp; omega)
  replace p0 := p0.below bel4 p0.lt
  replace p1 := p1.below bel4 p1.lt
  replace p2 := p2.below bel4 p2.lt
  replace p3 := p3.below bel4 p3.lt
  replace hown3 := own_below hown3 bel4
  replace bel := bel.trans (bel4.mono bel.size)
  clear bel4 s2 s3
  go_wp2_with fail
  go_loopw [11] (fun i wr => ∃ k : Nat, k ≤ L.length ∧ i = .int .i64 k ∧ Mine wr w1.heap.size w2.heap.size ao L.length ∧ PB wr w.heap.size a0 (.slice o0 n0 c0) d0 ∧ PB wr (w.heap.size + 1) a1 (.slice o1 n1 c1) d1 ∧ PB wr w2.heap.size A (.slice ao L.length cap) D ∧ PB wr w3.heap.size A (.slice ao3 L.length cap3) D ∧
    wr.ownsRow (w2.heap.size + 1) 9 1 (.slice ao3 L.length cap3) L.length (scl L) ∧ Below w.heap.size w wr) (fun i _ => L.length - (intOf i).toNat)
  case atStart => exact ⟨0, Nat.zero_le _, rfl, hmine, p0, p1, p2, p3, hown3, bel⟩
  case round =>
    clear hmine p0 p1 p2 p3 hown3 bel
    obtain ⟨k, hk, rfl, hmine, p0, p1, p2, p3, hown3, bel⟩ := hrel
    have q0 := p2.c0
    have q1 := p2.c1
    have q2 := p2.c2
    by_cases hlt : k < L.length
    · obtain ⟨g, v, rfl, hg1, hg2, hcell, hfz, hset⟩ := hmine.cell hlt
      have hset := W_hid hset
      have p0' := p0.far (p := ⟨g, k, none⟩) (by simp; omega) (.string ⟨#[109, 105, 110, 101]⟩)
      have p1' := p1.far (p := ⟨g, k, none⟩) (by simp; omega) (.string ⟨#[109, 105, 110, 101]⟩)
      have p2' := p2.far (p := ⟨g, k, none⟩) (by simp; omega) (.string ⟨#[109, 105, 110, 101]⟩)
      have p3' := p3.far (p := ⟨g, k, none⟩) (by simp; omega) (.string ⟨#[109, 105, 110, 101]⟩)
      have hown3' := own_set (p := ⟨g, k, none⟩) hown3 (by simp; omega) (.string ⟨#[109, 105, 110, 101]⟩)
      have bel' := bel.setCell (p := ⟨g, k, none⟩) (by simp; omega) (.string ⟨#[109, 105, 110, 101]⟩)
      clear hmine p0 p1 p2 p3 hown3 bel
      go_wp2_with fail
      go_roundw
      case rel => exact ⟨k + 1, by omega, by go_num, hset.out _, p0', p1', p2', p3', hown3', bel'⟩
      case measure => simp [intOf]; omega
    · obtain hkl : k = L.length := by omega
      subst hkl
      have z0 := p0.c0
      have z1 := p0.c1
      have z2 := p0.c2
      have z3 := p1.c0
      have z4 := p1.c1
      have z5 := p1.c2
      have s3 := SS_own hown3
      clear hown3 hmine
      go_wp2_with fail
      refine (hN.out _ (w0.below bel (Nat.le_refl _)) (w1'.below bel (Nat.le_refl _))).mono ?_
      rintro e w5 ⟨ao5, cap5, rfl, hown5, bel5⟩
      have s5 := (SS_own hown5).alloc (.cells #[.bool A, .slice ao5 L.length cap5, .bool D] 25)
      replace s3 := (s3.below bel5 (Nat.le_refl _)).alloc (.cells #[.bool A, .slice ao5 L.length cap5, .bool D] 25)
      replace p3 := (p3.below bel5 p3.lt).alloc (.cells #[.bool A, .slice ao5 L.length cap5, .bool D] 25)
      replace bel := (bel.trans (bel5.mono bel.size)).alloc (bel.trans (bel5.mono bel.size)).size (.cells #[.bool A, .slice ao5 L.length cap5, .bool D] 25)
      clear hown5 bel5 q0 q1 q2 z0 z1 z2 z3 z4 z5 p0 p1 p2
      have q0 := p3.c0
      have q1 := p3.c1
      have q2 := p3.c2
      go_wp2_with fail
      refine (hE.out _ _ _ _ _ s5 s3).mono ?_
      rintro e w6 ⟨rfl, bel6⟩
      replace bel := bel.trans (bel6.mono bel.size)
      go_wp2_with fail
      go_ret
      exact ⟨rfl, bel⟩

theorem PathJoins_walk (a0 : Bool) (o0 : Option Addr) (n0 c0 : Nat) (l0 : List ByteArray) (d0 : Bool) (a1 : Bool) (o1 : Option Addr) (n1 c1 : Nat) (l1 : List ByteArray) (d1 : Bool) (w : World) (w0 : SS w o0 n0 c0 l0) (w1 : SS w o1 n1 c1 l1) (s0 : Fit n0 l0) (s1 : Fit n1 l1) :
    Calls Try.prog 6 #[.agg #[.bool a0, .slice o0 n0 c0, .bool d0], .agg #[.bool a1, .slice o1 n1 c1, .bool d1]] w fun e w' => e = .returned (.bool true) ∧ Below w.heap.size w w' :=
  joins_of a0 d0 a1 d1 (joA a0 l0 d0 a1 l1 d1) (joD a0 l0 d0 a1 l1 d1) o0 o1 n0 c0 n1 c1 l0 l1 (joL a0 l0 d0 a1 l1 d1) (joE a0 l0 d0 a1 l1 d1) w w0 w1 (joL_length a0 d0 a1 d1 l0 l1)
    (fun w h0 h1 => (Join_all a0 d0 a1 d1 o0 o1 n0 c0 n1 c1 l0 l1 w h0 h1 s0 s1).mono fun _ _ h => answers_join h)
    (fun w h0 h1 => (rJoin_all a0 d0 a1 d1 o0 o1 n0 c0 n1 c1 l0 l1 w h0 h1 s0 s1).mono fun _ _ h => answers_join h)

set_option maxRecDepth 100000 in
theorem PathJoins_lifted (os : Os) (started : os.Started) (H : Type) (enc : TypeId × Value → H) :
    ReturnsInHanded {} Try.checked os 6 .any (Rows.pathJoinsSpec.pre6 enc Try.prog Try.f6 Rows.pathJoinsRow.domain false) (Rows.pathJoinsSpec.post enc Try.prog Try.f6 false true false false) := by
  refine returnsInHanded_of_change_sized (C := Try.checked) (by kernel_rfl) started (by kernel_rfl) Try.func6
    (ChangeSpec.witness6 (enc := enc) (C := Try.checked) false ⟨#[], #[.agg #[.bool false, .slice none 0 0, .bool false], .agg #[.bool false, .slice none 0 0, .bool false]], []⟩ 8 (by kernel_rfl) (by kernel_rfl) (by kernel_rfl) (by kernel_rfl)) ?_
  intro W base args ds gs before hval0 hW hcnd hsz0 _
  have hsz : (DataW.weightsEach Try.prog (Try.f6.params.toList ++ Rows.pathJoinsSpec.plain.varTypes Try.prog) (ds ++ gs)).all (· ≤ reachBytes) = true := hsz0
  clear hsz0
  have hval : ∀ (j : Nat) t v, Try.f6.params[j]? = some t → args[j]? = some v → Value.okWide Try.prog W .any base t v := hval0
  have hW' := hW
  obtain ⟨p, q, hA0, hV, rfl, hfz, hnd⟩ := hW
  have hA : DataW.TrodAll enc Try.prog W 0 (fun _ => true) true Try.f6.params.toList args.toList ds p := hA0
  rw [Try.params6] at hA hval hsz
  obtain ⟨v0, vs0, d0, ds0, p0, q0, hargs, rfl, rfl, h0, r0⟩ := trodAll_cons hA
  obtain ⟨v1, vs1, d1, ds1, p1, q1, rfl, rfl, rfl, h1, r1⟩ := trodAll_cons r0
  obtain ⟨rfl, rfl, rfl⟩ := trodAll_nil r1
  obtain rfl : args = #[v0, v1] := by cases args; simp_all
  obtain ⟨rfl, rfl⟩ := trodVars_none hV
  have k0 := h0
  have lt0 : ∀ x ∈ p0, x.block < W.heap.size := by obtain ⟨m, hm⟩ := k0; exact DataW.trod_lt m _ _ _ hm
  obtain ⟨a0, o0, n0, c0, l0, d0, rfl, w0, g0, z0⟩ := open_path (hval 0 25 v0 rfl rfl) h0
  have s0 : Fit n0 l0 := fit_of w0 g0 z0 fun q hq => of_decide_eq_true (List.all_eq_true.1 hsz _ (DataW.weights_mem_each (j := 0) (t := 25) rfl rfl q hq))
  have k1 := h1
  have lt1 : ∀ x ∈ p1, x.block < W.heap.size := by obtain ⟨m, hm⟩ := k1; exact DataW.trod_lt m _ _ _ hm
  obtain ⟨a1, o1, n1, c1, l1, d1, rfl, w1, g1, z1⟩ := open_path (hval 1 25 v1 rfl rfl) h1
  have s1 : Fit n1 l1 := fit_of w1 g1 z1 fun q hq => of_decide_eq_true (List.all_eq_true.1 hsz _ (DataW.weights_mem_each (j := 1) (t := 25) rfl rfl q hq))
  clear hA0 hval0
  refine (PathJoins_walk a0 o0 n0 c0 l0 d0 a1 o1 n1 c1 l1 d1 W w0 w1 s0 s1).mono fun e W' ⟨he, bel⟩ => ?_
  subst he
  exact ⟨_, rfl, _, _, _, [], _, [], hW', trodAll_mk1 (shut_bool Try.underlying4 _), (trodAll_cons_mk (Below.trod laidOut (by kernel_rfl) (of_decide_eq_true (by kernel_rfl)) k0 bel lt0) (trodAll_cons_mk (Below.trod laidOut (by kernel_rfl) (of_decide_eq_true (by kernel_rfl)) k1 bel lt1) trodAll_mk0)), rfl, bel.frame _, fun h => by cases h⟩

/-- The given statement of PathJoins. -/
theorem PathJoins_holds : Rows.PathJoinsSaid :=
  OpenClaim.holds_of_wide 6 Try.f6 rfl rfl rfl rfl rfl rfl rfl ⟨rfl, rfl, rfl, rfl, rfl⟩ rfl rfl rfl rfl rfl (by kernel_rfl) Try.func6 (by kernel_rfl)
    (of_decide_eq_true (by kernel_rfl)) (by unfold Func.isWrapper; first | (rw [if_pos (by decide +kernel)]; kernel_rfl) | (rw [if_neg (by decide +kernel)]; exact ⟨rfl, rfl⟩))
    (fun os started H enc _ => PathJoins_lifted os started H enc)

end Go.Proofs.Ytfageibidikppaa

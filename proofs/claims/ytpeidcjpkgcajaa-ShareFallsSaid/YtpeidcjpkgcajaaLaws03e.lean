/- The laws of layer 3, continued: ShareFalls: for every input it returns true, and its arguments read as before. No further condition. -/
import Derived.Test.YtpeidcjpkgcajaaLaws03c
import Derived.Test.YtpeidcjpkgcajaaLaws03d
namespace Go.Proofs.Ytpeidcjpkgcajaa
open Go.ChangeShapes Go.WideShapes Go.ChangeAt Go.RowKit
open Go.ChangeMaps (open_string shut_string)
open FM
set_option linter.unusedVariables false

/-- The forty weights, from that of -20 to that of 19. -/
def wTab : List Nat := [4680839928835574848, 4679619225710574848, 4678045313583204352, 4676482813583204352, 4675232813583204352, 4673729213955833856, 4672129213955833856, 4670849213955833856, 4669417614328463360, 4667779214328463360, 4666468494328463360, 4665110622701092864, 4663432901101092864, 4662090723821092864, 4660808349665722368, 4659090362747322368, 4657715973212602368, 4656510908468559872, 4654751689864118272, 4653344314980564992, 4652218415073722368, 4650416975222774170, 4648975823342015611, 4647822901837408764, 4646086313821094701, 4644610574295197937, 4643429982674480526, 4641759802936831818, 4640248645662313531, 4639039719842698902, 4637437542182403517, 4635890117133296791, 4634652177094011410, 4633119633560925827, 4631535070310640540, 4630267419710412310, 4628806181523589565, 4627183588755297431, 4625885514540663724, 4624497293028414125]
def wq (i : Nat) : Nat := wTab.getD i 0
theorem wq_wt : ∀ i : Nat, i < 40 → wt ((i : Int) - 20) = wq i := by decide +kernel

/-- Two weights of forty, and their shares, stand as they should. -/
def fallsB (i j : Nat) : Bool :=
  okW [wq i, wq j] && (match shareR 0 [wq i, wq j], shareR 1 [wq i, wq j] with
    | (p, _), (q, _) => Nat.blt 0 p && Nat.blt q 4607182418800017408 && Nat.blt p 4607182418800017408 && (Nat.blt i j == Nat.blt q p) && (!(Nat.beq i j) || Nat.beq p q))
set_option maxRecDepth 100000 in
theorem falls_all : ∀ i, i < 40 → ∀ j, j < 40 → fallsB i j = true := by decide +kernel
theorem wq_falls : ∀ i, i < 40 → ∀ j, j < 40 → (Nat.blt i j == Nat.blt (wq j) (wq i)) = true := by decide +kernel
theorem wq_pos : ∀ i, i < 40 → 0 < wq i ∧ wq i < 9218868437227405312 := by decide +kernel

theorem gt_nat (x y : Nat) (hx : x < 9218868437227405312) (hy : y < 9218868437227405312) : (FloatKind.f64.format.order x y == some .gt) = decide (y < x) := by
  show (D.order x y == some .gt) = _
  rw [gt_key x y (by omega) (by omega) (decide_eq_false (by omega)) (decide_eq_false (by omega)), key_pos (by omega), key_pos (by omega)]
  simp
theorem lt_nat (x y : Nat) (hx : x < 9218868437227405312) (hy : y < 9218868437227405312) : (FloatKind.f64.format.order x y == some .lt) = decide (x < y) := by
  show (D.order x y == some .lt) = _
  rw [lt_key x y (by omega) (by omega) (decide_eq_false (by omega)) (decide_eq_false (by omega)), key_pos (by omega), key_pos (by omega)]
  simp
theorem eq_nat (x y : Nat) (hx : x < 9218868437227405312) (hy : y < 9218868437227405312) : (FloatKind.f64.format.order x y == some .eq) = decide (x = y) := by
  show (D.order x y == some .eq) = _
  rw [eq_key x y (by omega) (by omega) (decide_eq_false (by omega)) (decide_eq_false (by omega)), key_pos (by omega), key_pos (by omega)]
  simp; omega

theorem falls_facts (i j : Nat) (hi : i < 40) (hj : j < 40) : ∃ p q : Nat, shareR 0 [wq i, wq j] = (p, 0) ∧ shareR 1 [wq i, wq j] = (q, 0) ∧ 0 < p ∧ p < 4607182418800017408 ∧ q < 4607182418800017408 ∧ (q < p ↔ i < j) ∧ (i = j → p = q) ∧ (wq j < wq i ↔ i < j) := by
  have h := falls_all i hi j hj
  have h2 := wq_falls i hi j hj
  unfold fallsB at h
  rw [Bool.and_eq_true] at h
  obtain ⟨hok, h⟩ := h
  have e0 : (shareR 0 [wq i, wq j]).2 = 0 := by simp [shareR, hok]
  have e1 : (shareR 1 [wq i, wq j]).2 = 0 := by simp [shareR, hok]
  generalize shareR 0 [wq i, wq j] = P at *
  generalize shareR 1 [wq i, wq j] = Q at *
  obtain ⟨p, e⟩ := P
  obtain ⟨q, f⟩ := Q
  simp only at e0 e1
  subst e0 e1
  simp only [Bool.and_eq_true, Nat.blt_eq, beq_iff_eq, Bool.or_eq_true, Bool.not_eq_true'] at h
  obtain ⟨⟨⟨⟨h1, h3⟩, h4⟩, h5⟩, h6⟩ := h
  refine ⟨p, q, rfl, rfl, h1, h4, h3, ?_, ?_, ?_⟩
  · rw [← Nat.blt_eq, ← Nat.blt_eq, h5]
  · intro hij
    rcases h6 with h6 | h6
    · subst hij; simp at h6
    · exact Nat.eq_of_beq_eq_true h6
  · rw [beq_iff_eq] at h2
    rw [← Nat.blt_eq, ← Nat.blt_eq, h2]

set_option maxHeartbeats 2000000 in
theorem falls_0 (a b : Int) (ha : -20 ≤ a ∧ a ≤ 19) (hb : -20 ≤ b ∧ b ≤ 19) (hc : a < b) (w : World) :
    Calls Try.prog 12 #[.int .i64 a, .int .i64 b] w fun e w' => e = .returned (.bool true) ∧ Below w.heap.size w w' := by
  obtain ⟨i, hi, rfl⟩ : ∃ i : Nat, i < 40 ∧ a = (i : Int) - 20 := ⟨(a + 20).toNat, by omega, by omega⟩
  obtain ⟨j, hj, rfl⟩ : ∃ j : Nat, j < 40 ∧ b = (j : Int) - 20 := ⟨(b + 20).toNat, by omega, by omega⟩
  obtain ⟨p, q, r0, r1, h1, h2, h3, h4, h5, h6⟩ := falls_facts i j hi hj
  have px := wq_pos i hi
  have py := wq_pos j hj
  have t0 := weight_all 0
  rw [show wtR 0 = (4652218415073722368, 0) by decide] at t0
  have t1 := weight_all ((i : Int) - 20)
  rw [show wtR ((i : Int) - 20) = (wq i, 0) by simp only [wtR]; rw [if_neg (by omega), wq_wt i hi]] at t1
  have t2 := weight_all ((j : Int) - 20)
  rw [show wtR ((j : Int) - 20) = (wq j, 0) by simp only [wtR]; rw [if_neg (by omega), wq_wt j hj]] at t2
  have s0 := fun (u : World) => share_any 0 _ 2 2 [wq i, wq j] _ (Fsl_new u 23 [wq i, wq j] 2 rfl (by decide) (by intro b hb; simp at hb; rcases hb with rfl | rfl <;> omega))
  have s1 := fun (u : World) => share_any 1 _ 2 2 [wq i, wq j] _ (Fsl_new u 23 [wq i, wq j] 2 rfl (by decide) (by intro b hb; simp at hb; rcases hb with rfl | rfl <;> omega))
  rw [r0] at s0
  rw [r1] at s1
  have oeq : (FloatKind.f64.format.order 4652218415073722368 4652218415073722368 == some .eq) = true := by decide
  have o1 : (FloatKind.f64.format.order (wq i) 0 == some .gt) = true := by rw [gt_nat _ _ (by omega) (by omega)]; exact decide_eq_true (by omega)
  have o2 : (FloatKind.f64.format.order p 0 == some .gt) = true := by rw [gt_nat _ _ (by omega) (by omega)]; exact decide_eq_true (by omega)
  have o3 : (FloatKind.f64.format.order q 4607182418800017408 == some .lt) = true := by rw [lt_nat _ _ (by omega) (by omega)]; exact decide_eq_true (by omega)
  have o4 : (FloatKind.f64.format.order (wq i) (wq j) == some .gt) = true := by rw [gt_nat _ _ (by omega) (by omega)]; exact decide_eq_true (by omega)
  have o5 : (FloatKind.f64.format.order p q == some .gt) = true := by rw [gt_nat _ _ (by omega) (by omega)]; exact decide_eq_true (by omega)
  have hne : ((i : Int) - 20 != (j : Int) - 20) = true := by simp; omega
  have hd : decide (i < j) = true := decide_eq_true (by omega)
  clear r0 r1 h4 h5 h6
  generalize wq j = y at *
  generalize wq i = x at *
  go_enter Try.func12, Try.ntmps12
  go_wp2_with fail
  refine (t1 _).mono ?_
  rintro e w' ⟨rfl, rfl⟩
  go_wp2_with fail
  refine (t2 _).mono ?_
  rintro e w' ⟨rfl, rfl⟩
  go_wp2_with fail
  refine (t0 _).mono ?_
  rintro e w' ⟨rfl, rfl⟩
  go_wp2_with fail
  refine (s0 _).mono ?_
  rintro e u1 ⟨rfl, bel1⟩
  have bel := ((Below.refl _ _).alloc (Nat.le_refl _) _).trans (bel1.mono (by simp))
  clear bel1
  go_wp2_with fail
  refine (s1 _).mono ?_
  rintro e u2 ⟨rfl, bel2⟩
  have bel' := (bel.alloc bel.size _).trans (bel2.mono (by simp; have := bel.size; omega))
  clear bel bel2
  go_wp2_with fail
  go_ret
  exact ⟨rfl, bel'⟩

set_option maxHeartbeats 2000000 in
theorem falls_1 (a b : Int) (ha : -20 ≤ a ∧ a ≤ 19) (hb : -20 ≤ b ∧ b ≤ 19) (hc : a = b) (w : World) :
    Calls Try.prog 12 #[.int .i64 a, .int .i64 b] w fun e w' => e = .returned (.bool true) ∧ Below w.heap.size w w' := by
  obtain ⟨i, hi, rfl⟩ : ∃ i : Nat, i < 40 ∧ a = (i : Int) - 20 := ⟨(a + 20).toNat, by omega, by omega⟩
  obtain ⟨j, hj, rfl⟩ : ∃ j : Nat, j < 40 ∧ b = (j : Int) - 20 := ⟨(b + 20).toNat, by omega, by omega⟩
  obtain ⟨p, q, r0, r1, h1, h2, h3, h4, h5, h6⟩ := falls_facts i j hi hj
  have px := wq_pos i hi
  have py := wq_pos j hj
  have t0 := weight_all 0
  rw [show wtR 0 = (4652218415073722368, 0) by decide] at t0
  have t1 := weight_all ((i : Int) - 20)
  rw [show wtR ((i : Int) - 20) = (wq i, 0) by simp only [wtR]; rw [if_neg (by omega), wq_wt i hi]] at t1
  have t2 := weight_all ((j : Int) - 20)
  rw [show wtR ((j : Int) - 20) = (wq j, 0) by simp only [wtR]; rw [if_neg (by omega), wq_wt j hj]] at t2
  have s0 := fun (u : World) => share_any 0 _ 2 2 [wq i, wq j] _ (Fsl_new u 23 [wq i, wq j] 2 rfl (by decide) (by intro b hb; simp at hb; rcases hb with rfl | rfl <;> omega))
  have s1 := fun (u : World) => share_any 1 _ 2 2 [wq i, wq j] _ (Fsl_new u 23 [wq i, wq j] 2 rfl (by decide) (by intro b hb; simp at hb; rcases hb with rfl | rfl <;> omega))
  rw [r0] at s0
  rw [r1] at s1
  have oeq : (FloatKind.f64.format.order 4652218415073722368 4652218415073722368 == some .eq) = true := by decide
  have o1 : (FloatKind.f64.format.order (wq i) 0 == some .gt) = true := by rw [gt_nat _ _ (by omega) (by omega)]; exact decide_eq_true (by omega)
  have o2 : (FloatKind.f64.format.order p 0 == some .gt) = true := by rw [gt_nat _ _ (by omega) (by omega)]; exact decide_eq_true (by omega)
  have o3 : (FloatKind.f64.format.order q 4607182418800017408 == some .lt) = true := by rw [lt_nat _ _ (by omega) (by omega)]; exact decide_eq_true (by omega)
  have o4 : (FloatKind.f64.format.order (wq i) (wq j) == some .gt) = false := by rw [gt_nat _ _ (by omega) (by omega)]; exact decide_eq_false (by omega)
  have o5 : (FloatKind.f64.format.order p q == some .gt) = false := by rw [gt_nat _ _ (by omega) (by omega)]; exact decide_eq_false (by omega)
  obtain rfl : i = j := by omega
  obtain rfl := h5 rfl
  have o6 : (FloatKind.f64.format.order (wq i) (wq i) == some .eq) = true := by rw [eq_nat _ _ (by omega) (by omega)]; exact decide_eq_true rfl
  have o7 : (FloatKind.f64.format.order p p == some .eq) = true := by rw [eq_nat _ _ (by omega) (by omega)]; exact decide_eq_true rfl
  have hd : decide (i < i) = false := decide_eq_false (by omega)
  clear r0 r1 h4 h5 h6
  generalize wq i = x at *
  go_enter Try.func12, Try.ntmps12
  go_wp2_with fail
  refine (t1 _).mono ?_
  rintro e w' ⟨rfl, rfl⟩
  go_wp2_with fail
  refine (t2 _).mono ?_
  rintro e w' ⟨rfl, rfl⟩
  go_wp2_with fail
  refine (t0 _).mono ?_
  rintro e w' ⟨rfl, rfl⟩
  go_wp2_with fail
  refine (s0 _).mono ?_
  rintro e u1 ⟨rfl, bel1⟩
  have bel := ((Below.refl _ _).alloc (Nat.le_refl _) _).trans (bel1.mono (by simp))
  clear bel1
  go_wp2_with fail
  refine (s1 _).mono ?_
  rintro e u2 ⟨rfl, bel2⟩
  have bel' := (bel.alloc bel.size _).trans (bel2.mono (by simp; have := bel.size; omega))
  clear bel bel2
  go_wp2_with fail
  go_ret
  exact ⟨rfl, bel'⟩

set_option maxHeartbeats 2000000 in
theorem falls_2 (a b : Int) (ha : -20 ≤ a ∧ a ≤ 19) (hb : -20 ≤ b ∧ b ≤ 19) (hc : b < a) (w : World) :
    Calls Try.prog 12 #[.int .i64 a, .int .i64 b] w fun e w' => e = .returned (.bool true) ∧ Below w.heap.size w w' := by
  obtain ⟨i, hi, rfl⟩ : ∃ i : Nat, i < 40 ∧ a = (i : Int) - 20 := ⟨(a + 20).toNat, by omega, by omega⟩
  obtain ⟨j, hj, rfl⟩ : ∃ j : Nat, j < 40 ∧ b = (j : Int) - 20 := ⟨(b + 20).toNat, by omega, by omega⟩
  obtain ⟨p, q, r0, r1, h1, h2, h3, h4, h5, h6⟩ := falls_facts i j hi hj
  have px := wq_pos i hi
  have py := wq_pos j hj
  have t0 := weight_all 0
  rw [show wtR 0 = (4652218415073722368, 0) by decide] at t0
  have t1 := weight_all ((i : Int) - 20)
  rw [show wtR ((i : Int) - 20) = (wq i, 0) by simp only [wtR]; rw [if_neg (by omega), wq_wt i hi]] at t1
  have t2 := weight_all ((j : Int) - 20)
  rw [show wtR ((j : Int) - 20) = (wq j, 0) by simp only [wtR]; rw [if_neg (by omega), wq_wt j hj]] at t2
  have s0 := fun (u : World) => share_any 0 _ 2 2 [wq i, wq j] _ (Fsl_new u 23 [wq i, wq j] 2 rfl (by decide) (by intro b hb; simp at hb; rcases hb with rfl | rfl <;> omega))
  have s1 := fun (u : World) => share_any 1 _ 2 2 [wq i, wq j] _ (Fsl_new u 23 [wq i, wq j] 2 rfl (by decide) (by intro b hb; simp at hb; rcases hb with rfl | rfl <;> omega))
  rw [r0] at s0
  rw [r1] at s1
  have oeq : (FloatKind.f64.format.order 4652218415073722368 4652218415073722368 == some .eq) = true := by decide
  have o1 : (FloatKind.f64.format.order (wq i) 0 == some .gt) = true := by rw [gt_nat _ _ (by omega) (by omega)]; exact decide_eq_true (by omega)
  have o2 : (FloatKind.f64.format.order p 0 == some .gt) = true := by rw [gt_nat _ _ (by omega) (by omega)]; exact decide_eq_true (by omega)
  have o3 : (FloatKind.f64.format.order q 4607182418800017408 == some .lt) = true := by rw [lt_nat _ _ (by omega) (by omega)]; exact decide_eq_true (by omega)
  have o4 : (FloatKind.f64.format.order (wq i) (wq j) == some .gt) = false := by rw [gt_nat _ _ (by omega) (by omega)]; exact decide_eq_false (by omega)
  have o5 : (FloatKind.f64.format.order p q == some .gt) = false := by rw [gt_nat _ _ (by omega) (by omega)]; exact decide_eq_false (by omega)
  have hne : ((i : Int) - 20 != (j : Int) - 20) = true := by simp; omega
  have hd : decide (i < j) = false := decide_eq_false (by omega)
  clear r0 r1 h4 h5 h6
  generalize wq j = y at *
  generalize wq i = x at *
  go_enter Try.func12, Try.ntmps12
  go_wp2_with fail
  refine (t1 _).mono ?_
  rintro e w' ⟨rfl, rfl⟩
  go_wp2_with fail
  refine (t2 _).mono ?_
  rintro e w' ⟨rfl, rfl⟩
  go_wp2_with fail
  refine (t0 _).mono ?_
  rintro e w' ⟨rfl, rfl⟩
  go_wp2_with fail
  refine (s0 _).mono ?_
  rintro e u1 ⟨rfl, bel1⟩
  have bel := ((Below.refl _ _).alloc (Nat.le_refl _) _).trans (bel1.mono (by simp))
  clear bel1
  go_wp2_with fail
  refine (s1 _).mono ?_
  rintro e u2 ⟨rfl, bel2⟩
  have bel' := (bel.alloc bel.size _).trans (bel2.mono (by simp; have := bel.size; omega))
  clear bel bel2
  go_wp2_with fail
  go_ret
  exact ⟨rfl, bel'⟩

set_option maxHeartbeats 1000000 in
theorem falls_out (a b : Int) (h : a < -20 ∨ 19 < a ∨ b < -20 ∨ 19 < b) (w : World) :
    Calls Try.prog 12 #[.int .i64 a, .int .i64 b] w fun e w' => e = .returned (.bool true) ∧ Below w.heap.size w w' := by
  have t0 := weight_all 0
  rw [show wtR 0 = (4652218415073722368, 0) by decide] at t0
  have t1 := weight_all a
  have t2 := weight_all b
  have hE : Hid ((wtR a).2 = 2 ∨ ((wtR a).2 = 0 ∧ (wtR b).2 = 2)) := by
    show _ ∨ _
    unfold wtR
    (repeat' split) <;> simp <;> omega
  generalize wtR a = A at *
  generalize wtR b = B at *
  obtain ⟨x, E⟩ := A
  obtain ⟨y, F⟩ := B
  have oeq : (FloatKind.f64.format.order 4652218415073722368 4652218415073722368 == some .eq) = true := by decide
  clear h
  have hE : E = 2 ∨ (E = 0 ∧ F = 2) := hE.out
  rcases hE with rfl | ⟨rfl, rfl⟩
  all_goals
    go_enter Try.func12, Try.ntmps12
    go_wp2_with fail
    refine (t1 _).mono ?_
    rintro e w' ⟨rfl, rfl⟩
    go_wp2_with fail
    refine (t2 _).mono ?_
    rintro e w' ⟨rfl, rfl⟩
    go_wp2_with fail
    refine (t0 _).mono ?_
    rintro e w' ⟨rfl, rfl⟩
    go_wp2_with fail
    go_ret
    exact ⟨rfl, Below.refl _ _⟩

theorem ShareFalls_walk (a0 a1 : Int) (w : World) (w0 : (Lit.int .i64 a0).wf = true) (w1 : (Lit.int .i64 a1).wf = true) :
    Calls Try.prog 12 #[.int .i64 a0, .int .i64 a1] w fun e w' => e = .returned (.bool true) ∧ Below w.heap.size w w' := by
  by_cases h : a0 < -20 ∨ 19 < a0 ∨ a1 < -20 ∨ 19 < a1
  · exact falls_out a0 a1 h w
  · rcases Int.lt_trichotomy a0 a1 with hc | hc | hc
    · exact falls_0 a0 a1 (by omega) (by omega) hc w
    · exact falls_1 a0 a1 (by omega) (by omega) hc w
    · exact falls_2 a0 a1 (by omega) (by omega) hc w

set_option maxRecDepth 100000 in
theorem ShareFalls_lifted (os : Os) (started : os.Started) (H : Type) (enc : TypeId × Value → H) :
    ReturnsInHanded {} Try.checked os 12 .any (Rows.shareFallsSpec.pre6 enc Try.prog Try.f12 Rows.shareFallsRow.domain false) (Rows.shareFallsSpec.post enc Try.prog Try.f12 false true false false) := by
  refine returnsInHanded_of_change (C := Try.checked) (by kernel_rfl) started (by kernel_rfl) Try.func12
    (ChangeSpec.witness6 (enc := enc) (C := Try.checked) false ⟨#[], #[.int .i64 0, .int .i64 0], []⟩ 8 (by kernel_rfl) (by kernel_rfl) (by kernel_rfl) (by kernel_rfl)) ?_
  intro W base args ds gs before hval0 hW hcnd _
  have hval : ∀ (j : Nat) t v, Try.f12.params[j]? = some t → args[j]? = some v → Value.okWide Try.prog W .any base t v := hval0
  have hW' := hW
  obtain ⟨p, q, hA0, hV, rfl, hfz, hnd⟩ := hW
  have hA : DataW.TrodAll enc Try.prog W 0 (fun _ => true) true Try.f12.params.toList args.toList ds p := hA0
  rw [Try.params12] at hA hval
  obtain ⟨v0, vs0, d0, ds0, p0, q0, hargs, rfl, rfl, h0, r0⟩ := trodAll_cons hA
  obtain ⟨v1, vs1, d1, ds1, p1, q1, rfl, rfl, rfl, h1, r1⟩ := trodAll_cons r0
  obtain ⟨rfl, rfl, rfl⟩ := trodAll_nil r1
  obtain rfl : args = #[v0, v1] := by cases args; simp_all
  obtain ⟨rfl, rfl⟩ := trodVars_none hV
  obtain ⟨a0, rfl, rfl, rfl, w0⟩ := open_int Try.underlying3 (hval 0 3 v0 rfl rfl) h0
  obtain ⟨a1, rfl, rfl, rfl, w1⟩ := open_int Try.underlying3 (hval 1 3 v1 rfl rfl) h1
  clear hA0 hval0
  refine (ShareFalls_walk a0 a1 W w0 w1).mono fun e W' ⟨he, bel⟩ => ?_
  subst he
  exact ⟨_, rfl, _, _, _, [], _, [], hW', trodAll_mk1 (shut_bool Try.underlying4 _), (trodAll_cons_mk (shut_int Try.underlying3 w0) (trodAll_cons_mk (shut_int Try.underlying3 w1) trodAll_mk0)), rfl, bel.frame _, fun h => by cases h⟩

/-- The given statement of ShareFalls. -/
theorem ShareFalls_holds : Rows.ShareFallsSaid :=
  OpenClaim.holds_of_wide 12 Try.f12 rfl rfl rfl rfl rfl rfl rfl ⟨rfl, rfl, rfl, rfl, rfl⟩ rfl rfl rfl rfl rfl (by kernel_rfl) Try.func12 (by kernel_rfl)
    (of_decide_eq_true (by kernel_rfl)) (by unfold Func.isWrapper; first | (rw [if_pos (by decide +kernel)]; kernel_rfl) | (rw [if_neg (by decide +kernel)]; exact ⟨rfl, rfl⟩))
    (fun os started H enc _ => ShareFalls_lifted os started H enc)

end Go.Proofs.Ytpeidcjpkgcajaa

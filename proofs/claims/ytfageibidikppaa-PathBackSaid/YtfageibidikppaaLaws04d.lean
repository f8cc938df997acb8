/- PathBack (package haywardlaw04): for every input it returns true, and its arguments read as before. No further condition. -/
import Derived.Test.YtfageibidikppaaLaws04
import Derived.Test.YtfageibidikppaaPathNorm
namespace Go.Proofs.Ytfageibidikppaa
open Go.ChangeShapes Go.WideShapes Go.ChangeAt Go.RowKit
open Go.ChangeMaps (open_string shut_string)
set_option linter.unusedVariables false
set_option linter.unusedSimpArgs false

/-- A call answers a path, in memory of its own. -/
def Gives (a : Bool) (l : List ByteArray) (d : Bool) (w : World) (e : Ending) (w' : World) : Prop := ∃ ao cap, e = .returned (.tuple #[.agg #[.bool a, .slice ao l.length cap, .bool d], .int .i64 0]) ∧
      SS w' ao l.length cap l ∧ Below w.heap.size w w'

theorem fit_valid {a d : Bool} {l : List ByteArray} (h : PM.valid a l d = true) : Fit l.length l := by
  refine ⟨by have := PM.valid_count h; omega, fun x hx => ?_⟩
  have := ((PM.comp_iff x).1 (PM.valid_comp h x hx)).1.2
  unfold maxLen; omega

theorem gives_parse {s : ByteArray} {w : World} {a d : Bool} {l : List ByteArray} (hs : s.size ≤ maxLen) (h : PM.perr s = 0) (ha : PM.pA s = a) (hd : PM.pD s = d) (hl : PM.pN s = l) : Calls Try.prog 10 #[.string s] w (Gives a l d w) := by
  refine (Parse_all s w hs).mono ?_
  rintro e w' ⟨v, rfl, hown, bel⟩
  obtain ⟨ao, cap, rfl⟩ := own_form hown
  rw [h, ha, hd, hl]
  rw [hl] at hown
  exact ⟨ao, cap, rfl, SS_own hown, bel⟩
theorem gives_norm {a d : Bool} {l : List ByteArray} (h : PM.valid a l d = true) (ao : Option Addr) (cap : Nat) (w : World) (hs : SS w ao l.length cap l) : Calls Try.prog 17 #[.agg #[.bool a, .slice ao l.length cap, .bool d]] w (Gives a (PM.normL a l) (PM.normD a l d) w) := by
  refine (Norm_any a d ao l.length cap l w hs (fit_valid h)).mono ?_
  rintro e w' ⟨v, rfl, hown, bel⟩
  obtain ⟨ao', cap', rfl⟩ := own_form hown
  unfold noA noD noL shE at *
  rw [h] at hown ⊢
  exact ⟨ao', cap', rfl, SS_own hown, bel⟩
theorem gives_show {a d : Bool} {l : List ByteArray} (h : PM.valid a l d = true) (ao : Option Addr) (cap : Nat) (w : World) (hs : SS w ao l.length cap l) : Calls Try.prog 15 #[.agg #[.bool a, .slice ao l.length cap, .bool d]] w fun e w' => e = .returned (.tuple #[.string (PM.str (PM.text a l d)), .int .i64 0]) ∧ Below w.heap.size w w' := by
  have := Show_any a d ao l.length cap l w hs (fit_valid h)
  unfold shV shE at this
  rwa [h] at this

set_option maxHeartbeats 2000000 in
theorem back_no (a0 : ByteArray) (w : World) (w0 : a0.size ≤ maxLen) (h : PM.perr a0 ≠ 0) :
    Calls Try.prog 7 #[.string a0] w fun e w' => e = .returned (.bool true) ∧ Below w.heap.size w w' := by
  have hP := W_hid (fun w => Parse_all a0 w w0)
  have e0 : (PM.perr a0 != 0) = true := by simpa using h
  clear h
  go_enter Try.func7, Try.ntmps7
  go_wp2_with fail
  refine (shown_any _).mono ?_
  rintro e w1 ⟨rfl, bel1⟩
  go_wp2_with fail
  refine (hP.out _).mono ?_
  rintro e w2 ⟨v, rfl, hown, bel2⟩
  obtain ⟨ao, cap, rfl⟩ := own_form hown
  have b2 := bel1.trans (bel2.mono bel1.size)
  clear hown bel2
  generalize PM.perr a0 = pe at *
  go_wp2_with fail
  go_ret
  exact ⟨rfl, b2.alloc b2.size _⟩

set_option maxRecDepth 100000 in
set_option maxHeartbeats 2000000 in
theorem back_yes (s t : ByteArray) (A D D' : Bool) (L L' : List ByteArray) (w : World)
    (hP : ∀ w, Calls Try.prog 10 #[.string s] w (Gives A L D w))
    (hS : ∀ ao cap w, SS w ao L.length cap L → Calls Try.prog 15 #[.agg #[.bool A, .slice ao L.length cap, .bool D]] w fun e w' => e = .returned (.tuple #[.string t, .int .i64 0]) ∧ Below w.heap.size w w')
    (hQ : ∀ w, Calls Try.prog 10 #[.string t] w (Gives A L D w))
    (hN : ∀ ao cap w, SS w ao L.length cap L → Calls Try.prog 17 #[.agg #[.bool A, .slice ao L.length cap, .bool D]] w (Gives A L' D' w))
    (hM : ∀ ao cap w, SS w ao L'.length cap L' → Calls Try.prog 17 #[.agg #[.bool A, .slice ao L'.length cap, .bool D']] w (Gives A L' D' w))
    (hl : t.size ≤ s.size) :
    Calls Try.prog 7 #[.string s] w fun e w' => e = .returned (.bool true) ∧ Below w.heap.size w w' := by
  replace hP := W_hid hP
  replace hS := W_hid hS
  replace hQ := W_hid hQ
  replace hN := W_hid hN
  replace hM := W_hid hM
  have hE := W_hid (fun w x1 c1 x2 c2 h1 h2 => Same_any A D A D x1 x2 L.length c1 L.length c2 L L w h1 h2)
  have hF := W_hid (fun w x1 c1 x2 c2 h1 h2 => Same_any A D' A D' x1 x2 L'.length c1 L'.length c2 L' L' w h1 h2)
  rw [same_refl] at hE hF
  go_enter Try.func7, Try.ntmps7
  go_wp2_with fail
  refine (shown_any _).mono ?_
  rintro e w1 ⟨rfl, bel⟩
  go_wp2_with fail
  refine (hP.out _).mono ?_
  rintro e w2 ⟨ao, cap, rfl, s2, bel2⟩
  replace bel := bel.trans (bel2.mono bel.size)
  replace s2 := s2.alloc (.cells #[.bool A, .slice ao L.length cap, .bool D] 25)
  have p2 := PB.new w2 A (.slice ao L.length cap) D rfl
  replace bel := bel.alloc bel.size (.cells #[.bool A, .slice ao L.length cap, .bool D] 25)
  clear bel2
  go_wp2_with fail
  refine (hS.out ao cap _ s2).mono ?_
  rintro e w3 ⟨rfl, bel3⟩
  replace s2 := s2.below bel3 (Nat.le_refl _)
  replace p2 := p2.below bel3 p2.lt
  replace bel := bel.trans (bel3.mono bel.size)
  clear bel3
  go_wp2_with fail
  refine (hQ.out _).mono ?_
  rintro e w4 ⟨ao4, cap4, rfl, s4, bel4⟩
  replace s2 := s2.below bel4 (Nat.le_refl _)
  replace p2 := p2.below bel4 p2.lt
  replace bel := bel.trans (bel4.mono bel.size)
  clear bel4
  replace s2 := s2.alloc (.cells #[.bool A, .slice ao4 L.length cap4, .bool D] 25)
  replace s4 := s4.alloc (.cells #[.bool A, .slice ao4 L.length cap4, .bool D] 25)
  replace p2 := p2.alloc (.cells #[.bool A, .slice ao4 L.length cap4, .bool D] 25)
  have p4 := PB.new w4 A (.slice ao4 L.length cap4) D rfl
  replace bel := bel.alloc bel.size (.cells #[.bool A, .slice ao4 L.length cap4, .bool D] 25)
  have c0 := p2.c0
  have c1 := p2.c1
  have c2 := p2.c2
  go_wp2_with fail
  clear c0 c1 c2
  refine (hN.out ao cap _ s2).mono ?_
  rintro e w5 ⟨ao5, cap5, rfl, s5, bel5⟩
  replace s2 := (s2.below bel5 (Nat.le_refl _)).alloc (.cells #[.bool A, .slice ao5 L'.length cap5, .bool D'] 25)
  replace s4 := (s4.below bel5 (Nat.le_refl _)).alloc (.cells #[.bool A, .slice ao5 L'.length cap5, .bool D'] 25)
  replace p2 := (p2.below bel5 p2.lt).alloc (.cells #[.bool A, .slice ao5 L'.length cap5, .bool D'] 25)
  replace p4 := (p4.below bel5 p4.lt).alloc (.cells #[.bool A, .slice ao5 L'.length cap5, .bool D'] 25)
  replace bel := (bel.trans (bel5.mono bel.size)).alloc (bel.trans (bel5.mono bel.size)).size (.cells #[.bool A, .slice ao5 L'.length cap5, .bool D'] 25)
  clear bel5
  replace s5 := s5.alloc (.cells #[.bool A, .slice ao5 L'.length cap5, .bool D'] 25)
  have p5 := PB.new w5 A (.slice ao5 L'.length cap5) D' rfl
  go_wp2_with fail
  refine (hM.out ao5 cap5 _ s5).mono ?_
  rintro e w6 ⟨ao6, cap6, rfl, s6, bel6⟩
  replace s2 := (s2.below bel6 (Nat.le_refl _)).alloc (.cells #[.bool A, .slice ao6 L'.length cap6, .bool D'] 25)
  replace s4 := (s4.below bel6 (Nat.le_refl _)).alloc (.cells #[.bool A, .slice ao6 L'.length cap6, .bool D'] 25)
  replace s5 := (s5.below bel6 (Nat.le_refl _)).alloc (.cells #[.bool A, .slice ao6 L'.length cap6, .bool D'] 25)
  replace s6 := s6.alloc (.cells #[.bool A, .slice ao6 L'.length cap6, .bool D'] 25)
  replace p2 := (p2.below bel6 p2.lt).alloc (.cells #[.bool A, .slice ao6 L'.length cap6, .bool D'] 25)
  replace p4 := (p4.below bel6 p4.lt).alloc (.cells #[.bool A, .slice ao6 L'.length cap6, .bool D'] 25)
  replace p5 := (p5.below bel6 p5.lt).alloc (.cells #[.bool A, .slice ao6 L'.length cap6, .bool D'] 25)
  have p6 := PB.new w6 A (.slice ao6 L'.length cap6) D' rfl
  replace bel := (bel.trans (bel6.mono bel.size)).alloc (bel.trans (bel6.mono bel.size)).size (.cells #[.bool A, .slice ao6 L'.length cap6, .bool D'] 25)
  clear bel6
  have c20 := p2.c0
  have c21 := p2.c1
  have c22 := p2.c2
  have c40 := p4.c0
  have c41 := p4.c1
  have c42 := p4.c2
  go_wp2_with fail
  clear c20 c21 c22 c40 c41 c42
  refine (hE.out _ _ _ _ _ s2 s4).mono ?_
  rintro e w7 ⟨rfl, bel7⟩
  replace s5 := s5.below bel7 (Nat.le_refl _)
  replace s6 := s6.below bel7 (Nat.le_refl _)
  replace p5 := p5.below bel7 p5.lt
  replace p6 := p6.below bel7 p6.lt
  replace bel := bel.trans (bel7.mono bel.size)
  clear bel7 p2 p4 s2 s4
  have c20 := p5.c0
  have c21 := p5.c1
  have c22 := p5.c2
  have c40 := p6.c0
  have c41 := p6.c1
  have c42 := p6.c2
  go_wp2_with fail
  refine (hF.out _ _ _ _ _ s5 s6).mono ?_
  rintro e w8 ⟨rfl, bel8⟩
  replace bel := bel.trans (bel8.mono bel.size)
  have hl' : decide (t.size ≤ s.size) = true := by simpa using hl
  go_wp2_with fail
  go_ret
  exact ⟨rfl, bel⟩

theorem PathBack_walk (a0 : ByteArray) (w : World) (w0 : a0.size ≤ maxLen) :
    Calls Try.prog 7 #[.string a0] w fun e w' => e = .returned (.bool true) ∧ Below w.heap.size w w' := by
  by_cases h : PM.perr a0 = 0
  · obtain ⟨V, hlen⟩ := PM.parse_valid h
    obtain ⟨t1, t2, t3, t4⟩ := PM.parse_text V
    have V2 := PM.norm_valid V
    obtain ⟨n1, n2⟩ := PM.norm_again (PM.pA a0) (PM.pD a0) (PM.pN a0)
    have hts : (PM.str (PM.text (PM.pA a0) (PM.pN a0) (PM.pD a0))).size ≤ a0.size := by rw [PM.str_size, PM.text_length]; exact hlen
    refine back_yes a0 (PM.str (PM.text (PM.pA a0) (PM.pN a0) (PM.pD a0))) (PM.pA a0) (PM.pD a0) (PM.normD (PM.pA a0) (PM.pN a0) (PM.pD a0)) (PM.pN a0) (PM.normL (PM.pA a0) (PM.pN a0)) w
      (fun w => gives_parse w0 h rfl rfl rfl) (fun ao cap w hs => gives_show V ao cap w hs) (fun w => gives_parse (Nat.le_trans hts w0) t1 t2 t3 t4) (fun ao cap w hs => gives_norm V ao cap w hs) (fun ao cap w hs => ?_) hts
    have := gives_norm V2 ao cap w hs
    rwa [n1, n2] at this
  · exact back_no a0 w w0 h

set_option maxRecDepth 100000 in
theorem PathBack_lifted (os : Os) (started : os.Started) (H : Type) (enc : TypeId × Value → H) :
    ReturnsInHanded {} Try.checked os 7 .any (Rows.pathBackSpec.pre6 enc Try.prog Try.f7 Rows.pathBackRow.domain false) (Rows.pathBackSpec.post enc Try.prog Try.f7 false true false false) := by
  refine returnsInHanded_of_change (C := Try.checked) (by kernel_rfl) started (by kernel_rfl) Try.func7
    (ChangeSpec.witness6 (enc := enc) (C := Try.checked) false ⟨#[], #[.string ByteArray.empty], []⟩ 8 (by kernel_rfl) (by kernel_rfl) (by kernel_rfl) (by kernel_rfl)) ?_
  intro W base args ds gs before hval0 hW hcnd _
  have hval : ∀ (j : Nat) t v, Try.f7.params[j]? = some t → args[j]? = some v → Value.okWide Try.prog W .any base t v := hval0
  have hW' := hW
  obtain ⟨p, q, hA0, hV, rfl, hfz, hnd⟩ := hW
  have hA : DataW.TrodAll enc Try.prog W 0 (fun _ => true) true Try.f7.params.toList args.toList ds p := hA0
  rw [Try.params7] at hA hval
  obtain ⟨v0, vs0, d0, ds0, p0, q0, hargs, rfl, rfl, h0, r0⟩ := trodAll_cons hA
  obtain ⟨rfl, rfl, rfl⟩ := trodAll_nil r0
  obtain rfl : args = #[v0] := by cases args; simp_all
  obtain ⟨rfl, rfl⟩ := trodVars_none hV
  obtain ⟨a0, rfl, rfl, rfl, w0⟩ := open_string Try.underlying9 (hval 0 9 v0 rfl rfl) h0
  clear hA0 hval0
  refine (PathBack_walk a0 W w0).mono fun e W' ⟨he, bel⟩ => ?_
  subst he
  exact ⟨_, rfl, _, _, _, [], _, [], hW', trodAll_mk1 (shut_bool Try.underlying4 _), (trodAll_cons_mk (shut_string Try.underlying9 w0) trodAll_mk0), rfl, bel.frame _, fun h => by cases h⟩

/-- The given statement of PathBack. -/
theorem PathBack_holds : Rows.PathBackSaid :=
  OpenClaim.holds_of_wide 7 Try.f7 rfl rfl rfl rfl rfl rfl rfl ⟨rfl, rfl, rfl, rfl, rfl⟩ rfl rfl rfl rfl rfl (by kernel_rfl) Try.func7 (by kernel_rfl)
    (of_decide_eq_true (by kernel_rfl)) (by unfold Func.isWrapper; first | (rw [if_pos (by decide +kernel)]; kernel_rfl) | (rw [if_neg (by decide +kernel)]; exact ⟨rfl, rfl⟩))
    (fun os started H enc _ => PathBack_lifted os started H enc)

end Go.Proofs.Ytfageibidikppaa

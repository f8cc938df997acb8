/- PathSlashes (package haywardlaw04): for every input it returns true, and its arguments read as before. No further condition. -/
import Derived.Test.YtfageibidikppaaLaws04
import Derived.Deep.RegionWith
namespace Go.Proofs.Ytfageibidikppaa
open Go.ChangeShapes Go.WideShapes Go.ChangeAt Go.RowKit
open Go.ChangeMaps (open_string shut_string)
set_option linter.unusedVariables false
set_option linter.unusedSimpArgs false

theorem slash_parts (s : ByteArray) (k : Nat) (hk : k < s.size) (h : (s[k].toNat : Int) = 47) : s = PM.str (s.data.toList.take k ++ 47 :: s.data.toList.drop (k + 1)) ∧
    s.extract 0 k ++ ⟨#[47]⟩ ++ s.extract k s.size = PM.str (s.data.toList.take k ++ 47 :: 47 :: s.data.toList.drop (k + 1)) := by
  have hc : s[k] = 47 := by
    apply UInt8.toNat_inj.1
    show s[k].toNat = 47
    omega
  have hd := byte_get s k hk
  rw [hc] at hd
  have e1 : s.data.toList = s.data.toList.take k ++ 47 :: s.data.toList.drop (k + 1) := by rw [← hd, List.take_append_drop]
  refine ⟨by rw [← e1, PM.str_of], ?_⟩
  have e2 : (s.extract 0 k ++ ⟨#[47]⟩ ++ s.extract k s.size).data.toList = s.data.toList.take k ++ 47 :: 47 :: s.data.toList.drop (k + 1) := by
    rw [ByteArray.data_append, ByteArray.data_append, Array.toList_append, Array.toList_append, extract_list, extract_list, List.drop_zero, List.take_of_length_le (i := s.size) (by rw [PM.list_size]; exact Nat.le_refl _), hd]
    simp
  rw [← e2, PM.str_of]

theorem parsed_slash (s t : ByteArray) (k : Nat) (hk : k < s.size) (h : (s[k].toNat : Int) = 47) (h256 : s.size < 256) (ht : t = s.extract 0 k ++ ⟨#[47]⟩ ++ s.extract k s.size) : Parsed t = Parsed s := by
  obtain ⟨e1, e2⟩ := slash_parts s k hk h
  have hl : (s.data.toList.take k ++ 47 :: s.data.toList.drop (k + 1)).length < 256 := by
    have := congrArg ByteArray.size e1
    rw [PM.str_size] at this
    omega
  obtain ⟨r1, r2, r3, r4⟩ := PM.parse_slash _ _ hl
  rw [← e1, ← e2, ← ht] at r1 r2 r3 r4
  funext w e w'
  unfold Parsed
  rw [r1, r2, r3, r4]

set_option maxRecDepth 100000 in
set_option maxHeartbeats 1000000 in
theorem slashes_out (a0 : ByteArray) (a1 : Int) (w : World) (w0 : a0.size ≤ maxLen) (h1 : -9223372036854775808 ≤ a1) (h2 : a1 ≤ 9223372036854775807)
    (h : a1 < 0 ∨ (a0.size : Int) ≤ a1 ∨ 256 ≤ a0.size ∨ ∃ h : a1.toNat < a0.size, ¬ (a0[a1.toNat].toNat : Int) = 47) :
    Calls Try.prog 8 #[.string a0, .int .i64 a1] w fun e w' => e = .returned (.bool true) ∧ Below w.heap.size w w' := by
  unfold maxLen at w0
  by_cases g1 : a1 < 0
  · have d : decide (a1 < 0) = true := by simpa using g1
    clear h
    go_enter Try.func8, Try.ntmps8
    go_wp2_with fail
    refine (shown_any _).mono ?_
    rintro e w1 ⟨rfl, bel1⟩
    go_wp2_with fail
    go_ret
    exact ⟨rfl, bel1⟩
  have d : decide (a1 < 0) = false := by simpa using g1
  by_cases g2 : (a0.size : Int) ≤ a1
  · clear h
    go_enter Try.func8, Try.ntmps8
    go_wp2_with fail
    refine (shown_any _).mono ?_
    rintro e w1 ⟨rfl, bel1⟩
    go_wp2_with fail
    go_ret
    exact ⟨rfl, bel1⟩
  obtain ⟨k, rfl⟩ : ∃ k : Nat, a1 = k := ⟨a1.toNat, by omega⟩
  have hk : k < a0.size := by omega
  have d5 : decide (a0.size ≤ k) = false := by simp; omega
  by_cases g3 : (a0[k].toNat : Int) = 47
  · have d3 : ((a0[k].toNat : Int) == 47) = true := by simpa using g3
    have d4 : ((a0[k].toNat : Int) != 47) = false := by simpa using g3
    have g4 : 256 ≤ a0.size := by
      rcases h with h | h | h | ⟨h, hn⟩
      · omega
      · omega
      · exact h
      · exact absurd g3 hn
    clear h g3
    go_enter Try.func8, Try.ntmps8
    go_wp2_with fail
    refine (shown_any _).mono ?_
    rintro e w1 ⟨rfl, bel1⟩
    go_wp2_with fail
    go_ret
    exact ⟨rfl, bel1⟩
  · have d3 : ((a0[k].toNat : Int) == 47) = false := by simpa using g3
    have d4 : ((a0[k].toNat : Int) != 47) = true := by simpa using g3
    clear h g3
    go_enter Try.func8, Try.ntmps8
    go_wp2_with fail
    refine (shown_any _).mono ?_
    rintro e w1 ⟨rfl, bel1⟩
    go_wp2_with fail
    go_ret
    exact ⟨rfl, bel1⟩

theorem below_undrew {B : Nat} {w w' : World} (h : Below B w.drew w') : Below B w w' := ⟨h.os, h.tape, h.output, h.size, h.block⟩
theorem old_cells {W w1 : World} (hb : Below W.heap.size W w1) : (∀ b o, b < W.heap.size → w1.cell? ⟨b, o, none⟩ = W.cell? ⟨b, o, none⟩) ∧ (∀ b o, b < W.heap.size → w1.frozen? ⟨b, o, none⟩ = W.frozen? ⟨b, o, none⟩) :=
  ⟨fun b o h => hb.cell (p := ⟨b, o, none⟩) h, fun b o h => hb.frozen (p := ⟨b, o, none⟩) h⟩

set_option maxHeartbeats 1000000 in
theorem slashes_in (a0 : ByteArray) (k : Nat) (w : World) (hk : k < a0.size) (h256 : a0.size < 256) (h47 : (a0[k].toNat : Int) = 47) :
    Calls Try.prog 8 #[.string a0, .int .i64 k] w fun e w' => e = .returned (.bool true) ∧ Below w.heap.size w w' := by
  have hP := W_hid (fun w => Parse_all a0 w (by unfold maxLen; omega))
  obtain ⟨t, ht⟩ : ∃ t, t = a0.extract 0 k ++ ⟨#[47]⟩ ++ a0.extract k a0.size := ⟨_, rfl⟩
  have hts : t.size ≤ maxLen := by
    rw [ht, ByteArray.size_append, ByteArray.size_append, cut_size _ _ _ (by omega) (by omega), cut_size _ _ _ (by omega) (by omega)]
    have : (⟨#[47]⟩ : ByteArray).size = 1 := rfl
    unfold maxLen; omega
  have hQ : Hid (∀ w, Calls Try.prog 10 #[.string t] w (Parsed a0 w)) := by
    intro w
    have := Parse_all t w hts
    rwa [parsed_slash a0 t k hk h47 h256 ht] at this
  have d3 : ((a0[k].toNat : Int) == 47) = true := by simpa using h47
  obtain ⟨x, hx⟩ : ∃ x, x = a0.extract 0 k := ⟨_, rfl⟩
  obtain ⟨y, hy⟩ : ∃ y, y = a0.extract k a0.size := ⟨_, rfl⟩
  have hxs := cut_size a0 0 k (by omega) (by omega)
  have hys := cut_size a0 k a0.size (by omega) (by omega)
  rw [← hx] at hxs
  rw [← hy] at hys
  have c1 : ∀ w, (Instr.slice 9 (.string a0) none (some (.int .i64 (k : Int))) none).run Try.prog w = .ok (.string x) w := fun w => by
    rw [run_slice_string_h w _ a0 Try.underlying9 _ _ (by omega) (by omega), hx]; rfl
  have c2 : ∀ w, (Instr.slice 9 (.string a0) (some (.int .i64 (k : Int))) none none).run Try.prog w = .ok (.string y) w := fun w => by
    rw [run_slice_string_l w _ a0 Try.underlying9 _ _ (by omega) (by omega), hy]; rfl
  have d4 : ((a0[k].toNat : Int) != 47) = false := by simpa using h47
  have d5 : decide (a0.size ≤ k) = false := by simp; omega
  have c3 : x ++ ⟨#[47]⟩ ++ y = t := by rw [hx, hy, ht]
  have hts' := hts
  unfold maxLen at hts'
  have C3 := W_hid c3
  have HX := W_hid hx
  have HY := W_hid hy
  have HT := W_hid ht
  have HXS := W_hid hxs
  have HYS := W_hid hys
  have n1 : x.size ≤ 256 := by omega
  have n2 : y.size ≤ 256 := by omega
  clear hx hy ht hxs hys h47 c3
  have HS := W_hid (fun w x1 c1 x2 c2 h1 h2 => Same_any (PM.pA a0) (PM.pD a0) (PM.pA a0) (PM.pD a0) x1 x2 (PM.pN a0).length c1 (PM.pN a0).length c2 (PM.pN a0) (PM.pN a0) w h1 h2)
  go_enter Try.func8, Try.ntmps8
  go_wp2_with fail
  refine (shown_any _).mono ?_
  rintro e w1 ⟨rfl, bel1⟩
  go_wp2_with fail
  refine (hP.out _).mono ?_
  rintro e w2 ⟨v, rfl, hown, bel2⟩
  obtain ⟨ao, cap, rfl⟩ := own_form hown
  have s2 := SS_own hown
  have bb : Below w.heap.size w w2 := bel1.trans (bel2.mono bel1.size)
  have bz := bb.size
  go_wp2_with fail
  have c3 := C3.out
  go_region_with (go_at_call 10; refine (hQ.out _).mono ?_; rintro e w3 ⟨v', rfl, hown', bel3⟩; obtain ⟨ao', cap', rfl⟩ := own_form hown'; obtain ⟨qc, qf⟩ := old_cells bel3)
  all_goals clear d3 d4 d5 c1 c2 c3 hts hts' n1 n2
  · have hB : Below (w2.alloc (.cells #[.bool (PM.pA a0), .slice ao (PM.pN a0).length cap, .bool (PM.pD a0)] 25)).heap.size (w2.alloc (.cells #[.bool (PM.pA a0), .slice ao (PM.pN a0).length cap, .bool (PM.pD a0)] 25)).drew w3 := bel3
    have bel3 := below_undrew hB
    clear hB
    have s3 := (SS_own hown').alloc (.cells #[.bool (PM.pA a0), .slice ao' (PM.pN a0).length cap', .bool (PM.pD a0)] 25)
    have s2' := ((s2.alloc (.cells #[.bool (PM.pA a0), .slice ao (PM.pN a0).length cap, .bool (PM.pD a0)] 25)).below bel3 (Nat.le_refl _)).alloc (.cells #[.bool (PM.pA a0), .slice ao' (PM.pN a0).length cap', .bool (PM.pD a0)] 25)
    have p2 := ((PB.new w2 (PM.pA a0) (.slice ao (PM.pN a0).length cap) (PM.pD a0) rfl).below bel3 (by simp)).alloc (.cells #[.bool (PM.pA a0), .slice ao' (PM.pN a0).length cap', .bool (PM.pD a0)] 25)
    have c0 := p2.c0
    have c1 := p2.c1
    have c2 := p2.c2
    have hS := HS.out _ _ _ _ _ s2' s3
    rw [same_refl] at hS
    have hS := W_hid hS
    have b3 : Below w.heap.size w w3 := (bb.alloc bz _).trans (bel3.mono (by simp; omega))
    clear s2 s2' s3 p2 hown hown' qc qf bel3
    go_wp2_with fail
    refine hS.out.mono ?_
    rintro e w4 ⟨rfl, bel4⟩
    go_wp2_with fail
    go_ret
    exact ⟨rfl, (b3.alloc b3.size _).trans (bel4.mono (by simp; have := b3.size; omega))⟩
  all_goals
    have b3 : Below w2.heap.size w2 w3 := (((Below.refl _ _).alloc (Nat.le_refl _) _).alloc (by simp) _).drew.trans (bel3.mono (by simp; omega))
    have b4 := ((b3.setCell (p := ⟨w2.heap.size + 1, 0, none⟩) (by simp) (.bool (PM.pA a0))).setCell (p := ⟨w2.heap.size + 1, 1, none⟩) (by simp) (.slice ao' (PM.pN a0).length cap')).setCell (p := ⟨w2.heap.size + 1, 2, none⟩) (by simp) (.bool (PM.pD a0))
    have s2' := s2.below b4 (Nat.le_refl _)
    have hown2 := own_base (base' := w2.heap.size + 2) (by simp) hown'
    have s3 := SS_own (own_set (p := ⟨w2.heap.size + 1, 2, none⟩) (own_set (p := ⟨w2.heap.size + 1, 1, none⟩) (own_set (p := ⟨w2.heap.size + 1, 0, none⟩) hown2 (by simp) (.bool (PM.pA a0))) (by simp) (.slice ao' (PM.pN a0).length cap')) (by simp) (.bool (PM.pD a0)))
    have hS := HS.out _ _ _ _ _ s2' s3
    rw [same_refl] at hS
    have hS := W_hid hS
    have b5 := bb.trans (b4.mono bz)
    clear s2 s2' s3 hown hown' hown2 b3 b4
    go_wp2_with fail
    refine hS.out.mono ?_
    rintro e w4 ⟨rfl, bel4⟩
    go_wp2_with fail
    go_ret
    exact ⟨rfl, b5.trans (bel4.mono b5.size)⟩

theorem PathSlashes_walk (a0 : ByteArray) (a1 : Int) (w : World) (w0 : a0.size ≤ maxLen) (w1 : (Lit.int .i64 a1).wf = true) :
    Calls Try.prog 8 #[.string a0, .int .i64 a1] w fun e w' => e = .returned (.bool true) ∧ Below w.heap.size w w' := by
  have hb := bounds_i64 w1
  by_cases h : 0 ≤ a1 ∧ a1 < (a0.size : Int) ∧ a0.size < 256 ∧ ∃ h : a1.toNat < a0.size, (a0[a1.toNat].toNat : Int) = 47
  · obtain ⟨h1, h2, h3, h4, h5⟩ := h
    have e : a1 = ((a1.toNat : Nat) : Int) := by omega
    have := slashes_in a0 a1.toNat w h4 h3 h5
    rwa [← e] at this
  · refine slashes_out a0 a1 w w0 (by omega) (by omega) ?_
    by_cases g1 : a1 < 0
    · exact .inl g1
    by_cases g2 : (a0.size : Int) ≤ a1
    · exact .inr (.inl g2)
    by_cases g3 : 256 ≤ a0.size
    · exact .inr (.inr (.inl g3))
    · refine .inr (.inr (.inr ⟨by omega, fun h5 => h ⟨by omega, by omega, by omega, by omega, h5⟩⟩))

set_option maxRecDepth 100000 in
theorem PathSlashes_lifted (os : Os) (started : os.Started) (H : Type) (enc : TypeId × Value → H) :
    ReturnsInHanded {} Try.checked os 8 .any (Rows.pathSlashesSpec.pre6 enc Try.prog Try.f8 Rows.pathSlashesRow.domain false) (Rows.pathSlashesSpec.post enc Try.prog Try.f8 false true false false) := by
  refine returnsInHanded_of_change (C := Try.checked) (by kernel_rfl) started (by kernel_rfl) Try.func8
    (ChangeSpec.witness6 (enc := enc) (C := Try.checked) false ⟨#[], #[.string ByteArray.empty, .int .i64 0], []⟩ 8 (by kernel_rfl) (by kernel_rfl) (by kernel_rfl) (by kernel_rfl)) ?_
  intro W base args ds gs before hval0 hW hcnd _
  have hval : ∀ (j : Nat) t v, Try.f8.params[j]? = some t → args[j]? = some v → Value.okWide Try.prog W .any base t v := hval0
  have hW' := hW
  obtain ⟨p, q, hA0, hV, rfl, hfz, hnd⟩ := hW
  have hA : DataW.TrodAll enc Try.prog W 0 (fun _ => true) true Try.f8.params.toList args.toList ds p := hA0
  rw [Try.params8] at hA hval
  obtain ⟨v0, vs0, d0, ds0, p0, q0, hargs, rfl, rfl, h0, r0⟩ := trodAll_cons hA
  obtain ⟨v1, vs1, d1, ds1, p1, q1, rfl, rfl, rfl, h1, r1⟩ := trodAll_cons r0
  obtain ⟨rfl, rfl, rfl⟩ := trodAll_nil r1
  obtain rfl : args = #[v0, v1] := by cases args; simp_all
  obtain ⟨rfl, rfl⟩ := trodVars_none hV
  obtain ⟨a0, rfl, rfl, rfl, w0⟩ := open_string Try.underlying9 (hval 0 9 v0 rfl rfl) h0
  obtain ⟨a1, rfl, rfl, rfl, w1⟩ := open_int Try.underlying3 (hval 1 3 v1 rfl rfl) h1
  clear hA0 hval0
  refine (PathSlashes_walk a0 a1 W w0 w1).mono fun e W' ⟨he, bel⟩ => ?_
  subst he
  exact ⟨_, rfl, _, _, _, [], _, [], hW', trodAll_mk1 (shut_bool Try.underlying4 _), (trodAll_cons_mk (shut_string Try.underlying9 w0) (trodAll_cons_mk (shut_int Try.underlying3 w1) trodAll_mk0)), rfl, bel.frame _, fun h => by cases h⟩

/-- The given statement of PathSlashes. -/
theorem PathSlashes_holds : Rows.PathSlashesSaid :=
  OpenClaim.holds_of_wide 8 Try.f8 rfl rfl rfl rfl rfl rfl rfl ⟨rfl, rfl, rfl, rfl, rfl⟩ rfl rfl rfl rfl rfl (by kernel_rfl) Try.func8 (by kernel_rfl)
    (of_decide_eq_true (by kernel_rfl)) (by unfold Func.isWrapper; first | (rw [if_pos (by decide +kernel)]; kernel_rfl) | (rw [if_neg (by decide +kernel)]; exact ⟨rfl, rfl⟩))
    (fun os started H enc _ => PathSlashes_lifted os started H enc)

end Go.Proofs.Ytfageibidikppaa

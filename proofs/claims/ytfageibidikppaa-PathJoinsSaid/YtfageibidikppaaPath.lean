/- Contracts of package path's and the document's own functions on one string: a byte in a string, a component, a name. -/
import Derived.Test.YtfageibidikppaaBytes
import Derived.Test.YtfageibidikppaaPathMath
namespace Go.Proofs.Ytfageibidikppaa
open Go.ChangeShapes Go.WideShapes Go.ChangeAt Go.RowKit
set_option linter.unusedVariables false
set_option linter.unusedSimpArgs false

theorem W_hid {p : Prop} (h : p) : Hid p := h

theorem byte_get (s : ByteArray) (k : Nat) (h : k < s.size) : s.data.toList.drop k = s[k] :: s.data.toList.drop (k + 1) := by
  rw [List.drop_eq_getElem_cons (by simpa using h)]; rfl

theorem any_take_snoc (s : ByteArray) (f : UInt8 → Bool) (k : Nat) (h : k < s.size) : (s.data.toList.take (k + 1)).any f = ((s.data.toList.take k).any f || f s[k]) := by
  rw [List.take_succ_eq_append_getElem (by simpa using h), List.any_append]; simp; rfl

/-- Of a string of bytes: is one of them v? -/
theorem has_of {s : ByteArray} {k v : Nat} (h : k < s.size) (e : (s[k].toNat : Int) = v) : PM.has s v = true := by
  unfold PM.has
  rw [List.any_eq_true]
  exact ⟨s[k], by simp [ByteArray.getElem_eq_getElem_data], by simpa using (by omega : s[k].toNat = v)⟩
theorem has_none {s : ByteArray} {v : Nat} (h : (s.data.toList.take s.size).any (fun c => c.toNat == v) = false) : PM.has s v = false := by
  unfold PM.has
  rw [List.take_of_length_le (by simp [PM.list_size])] at h
  exact h

set_option maxHeartbeats 400000 in
theorem contains_any (s : ByteArray) (v : Nat) (x : Int) (hx : x = v) (w : World) (hs : s.size ≤ maxLen) :
    Calls Try.prog 21 #[.string s, .int .u8 x] w fun e w' => e = .returned (.bool (PM.has s v)) ∧ w = w' := by
  unfold maxLen at hs
  have HX : Hid _ := hx
  clear hx
  go_enter Try.func21, Try.ntmps21
  go_wp2
  go_loop [8] (fun i => ∃ k : Nat, k ≤ s.size ∧ i = .int .i64 k ∧ Hid ((s.data.toList.take k).any (fun c => c.toNat == v) = false)) (fun i => s.size - (intOf i).toNat)
  case atStart => exact ⟨0, Nat.zero_le _, rfl, rfl⟩
  case round =>
    obtain ⟨k, hk, rfl, hno⟩ := hrel
    by_cases hlt : k < s.size
    · by_cases he : (s[k].toNat : Int) = x
      · have hh : Hid (PM.has s v = true) := has_of hlt (he.trans HX.out)
        have hb : ((s[k].toNat : Int) == x) = true := by simpa using he
        clear he
        go_wp2
        go_ret
        exact ⟨by rw [hh.out]; rfl, rfl⟩
      · have hb : ((s[k].toNat : Int) == x) = false := by simpa using he
        have hn : Hid ((s.data.toList.take (k + 1)).any (fun c => c.toNat == v) = false) := by
          have h0 := hno.out
          show _ = false
          rw [any_take_snoc _ _ _ hlt, h0]
          have := HX.out
          simp only [Bool.false_or, beq_eq_false_iff_ne, ne_eq]
          omega
        clear he
        go_wp2
        go_round
        case rel => exact ⟨k + 1, by omega, by go_num, hn⟩
        case measure => simp [intOf]; omega
    · obtain rfl : k = s.size := by omega
      have hh : Hid (PM.has s v = false) := has_none hno.out
      go_wp2
      go_ret
      exact ⟨by rw [hh.out]; rfl, rfl⟩

theorem comp_false {s : ByteArray} (h : ¬ (1 ≤ s.size ∧ s.size ≤ 32) ∨ PM.has s 47 = true ∨ PM.has s 0 = true) : PM.comp s = false := by
  unfold PM.comp
  rcases h with h | h | h
  · rcases Nat.lt_or_ge s.size 1 with h1 | h1
    · simp [show ¬ 1 ≤ s.size by omega]
    · simp [show ¬ s.size ≤ 32 by omega]
  · rw [h]; simp
  · rw [h]; simp
theorem comp_true {s : ByteArray} (h1 : 1 ≤ s.size) (h2 : s.size ≤ 32) (h3 : PM.has s 47 = false) (h4 : PM.has s 0 = false) : PM.comp s = true := by
  unfold PM.comp; rw [h3, h4]; simp [h1, h2]

theorem empty_facts {s : ByteArray} (h : s.size = 0) : s.toList = [] ∧ s.toList.isEmpty = true := by
  have : s.data.toList = [] := List.eq_nil_of_length_eq_zero (by rw [PM.list_size]; exact h)
  rw [ByteArray.toList_eq, this]; exact ⟨rfl, rfl⟩
theorem full_facts {s : ByteArray} (h : s.size ≠ 0) : (s.toList = []) = False ∧ s.toList.isEmpty = false := by
  have hl := PM.list_size s
  rw [ByteArray.toList_eq]
  cases he : s.data.toList with
  | nil => rw [he] at hl; exact absurd hl.symm h
  | cons c r => exact ⟨by simp, rfl⟩

set_option maxHeartbeats 400000 in
theorem component_any (s : ByteArray) (w : World) (hs : s.size ≤ maxLen) :
    Calls Try.prog 22 #[.string s] w fun e w' => e = .returned (.bool (PM.comp s)) ∧ w = w' := by
  by_cases h1 : s.size = 0
  · have hh : Hid (PM.comp s = false) := comp_false (by omega)
    obtain ⟨e1, e2⟩ := empty_facts h1
    clear h1
    go_enter Try.func22, Try.ntmps22
    go_wp2_with fail
    go_ret
    exact ⟨by rw [hh.out]; rfl, rfl⟩
  obtain ⟨e1, e2⟩ := full_facts h1
  by_cases h2 : s.size ≤ 32
  · cases h3 : PM.has s 47 with
    | true =>
      have hh : Hid (PM.comp s = false) := comp_false (.inr (.inl h3))
      have H47 : Hid (Calls Try.prog 21 #[.string s, .int .u8 47] w fun e w' => e = .returned (.bool true) ∧ w = w') := by
        have := contains_any s 47 47 rfl w hs
        rwa [h3] at this
      clear h3
      go_enter Try.func22, Try.ntmps22
      go_wp2_with (go_at_call 21; refine H47.out.mono ?_; rintro e w' ⟨rfl, rfl⟩)
      go_ret
      exact ⟨by rw [hh.out]; rfl, rfl⟩
    | false =>
      have H47 : Hid (Calls Try.prog 21 #[.string s, .int .u8 47] w fun e w' => e = .returned (.bool false) ∧ w = w') := by
        have := contains_any s 47 47 rfl w hs
        rwa [h3] at this
      have hh : Hid (PM.comp s = !PM.has s 0) := by
        cases h4 : PM.has s 0 with
        | true => exact comp_false (.inr (.inr h4))
        | false => exact comp_true (by omega) h2 h3 h4
      have H0 : Hid (Calls Try.prog 21 #[.string s, .int .u8 0] w fun e w' => e = .returned (.bool (PM.has s 0)) ∧ w = w') := contains_any s 0 0 rfl w hs
      clear h3
      go_enter Try.func22, Try.ntmps22
      go_wp2_with fail
      refine H47.out.mono ?_
      rintro e w' ⟨rfl, rfl⟩
      go_wp2_with fail
      refine H0.out.mono ?_
      rintro e w' ⟨rfl, rfl⟩
      go_wp2
      go_ret
      exact ⟨by rw [hh.out]; rfl, rfl⟩
  · have hh : Hid (PM.comp s = false) := comp_false (by omega)
    have h2' : 32 < s.size := by omega
    unfold maxLen at hs
    go_enter Try.func22, Try.ntmps22
    go_wp2_with fail
    go_ret
    exact ⟨by rw [hh.out]; rfl, rfl⟩

theorem bits2 (s : ByteArray) (k : Nat) (h : k < s.size) (p : Prop) : (s.data.toList.take (k + 1)).any (fun c => c.toNat == 47 || c.toNat == 0) = ((s.data.toList.take k).any (fun c => c.toNat == 47 || c.toNat == 0) || (s[k].toNat == 47 || s[k].toNat == 0)) :=
  any_take_snoc s _ k h
theorem has_two {s : ByteArray} (h : (s.data.toList.take s.size).any (fun c => c.toNat == 47 || c.toNat == 0) = false) : PM.has s 47 = false ∧ PM.has s 0 = false := by
  rw [List.take_of_length_le (by simp [PM.list_size])] at h
  unfold PM.has
  simp only [List.any_eq_false, Bool.or_eq_true, beq_iff_eq, not_or] at h ⊢
  exact ⟨fun c hc => (h c hc).1, fun c hc => (h c hc).2⟩

set_option maxHeartbeats 400000 in
theorem word_any (s : ByteArray) (w : World) (hs : s.size ≤ maxLen) :
    Calls Try.prog 23 #[.string s] w fun e w' => e = .returned (.bool (PM.comp s)) ∧ w = w' := by
  unfold maxLen at hs
  go_enter Try.func23, Try.ntmps23
  go_wp2
  go_loop [3] (fun i => ∃ k : Nat, k ≤ s.size ∧ i = .int .i64 k ∧ Hid ((s.data.toList.take k).any (fun c => c.toNat == 47 || c.toNat == 0) = false)) (fun i => s.size - (intOf i).toNat)
  case atStart => exact ⟨0, Nat.zero_le _, rfl, rfl⟩
  case round =>
    obtain ⟨k, hk, rfl, hno⟩ := hrel
    by_cases hlt : k < s.size
    · by_cases he : (s[k].toNat : Int) = 47
      · have hh : Hid (PM.comp s = false) := comp_false (.inr (.inl (has_of hlt he)))
        have hb : ((s[k].toNat : Int) == 47) = true := by simpa using he
        clear he
        go_wp2
        go_ret
        exact ⟨by rw [hh.out]; rfl, rfl⟩
      · have hb : ((s[k].toNat : Int) == 47) = false := by simpa using he
        by_cases he0 : (s[k].toNat : Int) = 0
        · have hh : Hid (PM.comp s = false) := comp_false (.inr (.inr (has_of hlt he0)))
          have hb0 : ((s[k].toNat : Int) == 0) = true := by simpa using he0
          clear he he0
          go_wp2
          go_ret
          exact ⟨by rw [hh.out]; rfl, rfl⟩
        · have hb0 : ((s[k].toNat : Int) == 0) = false := by simpa using he0
          have hn : Hid ((s.data.toList.take (k + 1)).any (fun c => c.toNat == 47 || c.toNat == 0) = false) := by
            have h0 := hno.out
            show _ = false
            rw [any_take_snoc _ _ _ hlt, h0]
            simp only [Bool.false_or, Bool.or_eq_false_iff, beq_eq_false_iff_ne, ne_eq]
            omega
          clear he he0
          go_wp2
          go_round
          case rel => exact ⟨k + 1, by omega, by go_num, hn⟩
          case measure => simp [intOf]; omega
    · obtain rfl : k = s.size := by omega
      obtain ⟨h1, h2⟩ := has_two hno.out
      have hh : Hid (1 ≤ s.size → s.size ≤ 32 → PM.comp s = true) := fun h3 h4 => comp_true h3 h4 h1 h2
      have hh' : Hid (¬ (1 ≤ s.size ∧ s.size ≤ 32) → PM.comp s = false) := fun h => comp_false (.inl h)
      clear h1 h2
      by_cases hr : 1 ≤ s.size ∧ s.size ≤ 32
      · obtain ⟨r1, r2⟩ := hr
        have hq : Hid (PM.comp s = true) := hh.out r1 r2
        have d : decide ((s.size : Int) ≤ 32) = true := by simp; omega
        go_wp2
        go_ret
        exact ⟨by rw [hq.out]; rfl, rfl⟩
      · have hq : Hid (PM.comp s = false) := hh'.out hr
        by_cases r1 : 1 ≤ s.size
        · have d : decide ((s.size : Int) ≤ 32) = false := by simp; omega
          clear hr
          go_wp2
          go_ret
          exact ⟨by rw [hq.out]; rfl, rfl⟩
        · clear hr
          go_wp2
          go_ret
          exact ⟨by rw [hq.out]; rfl, rfl⟩

theorem list_inj {s t : ByteArray} (h : s.toList = t.toList) : s = t := by
  rw [ByteArray.toList_eq, ByteArray.toList_eq] at h
  rw [← PM.str_of s, ← PM.str_of t, h]
theorem dot_list : PM.dot.toList = [46] := by rw [ByteArray.toList_eq]; rfl
theorem dots_list : PM.dots.toList = [46, 46] := by rw [ByteArray.toList_eq]; rfl
theorem dot_yes {s : ByteArray} (h : s = PM.dot) : s.toList = [46] := by rw [h, dot_list]
theorem dots_yes {s : ByteArray} (h : s = PM.dots) : s.toList = [46, 46] := by rw [h, dots_list]
theorem dot_no {s : ByteArray} (h : s ≠ PM.dot) : (s.toList = [46]) = False ∧ (s.toList == [46]) = false := by
  have : s.toList ≠ [46] := fun e => h (list_inj (e.trans dot_list.symm))
  exact ⟨by simpa using this, by simpa using this⟩
theorem dots_no {s : ByteArray} (h : s ≠ PM.dots) : (s.toList = [46, 46]) = False ∧ (s.toList == [46, 46]) = false := by
  have : s.toList ≠ [46, 46] := fun e => h (list_inj (e.trans dots_list.symm))
  exact ⟨by simpa using this, by simpa using this⟩
theorem name_no {s : ByteArray} (h : PM.comp s = false ∨ s = PM.dot ∨ s = PM.dots) : PM.name s = false := by
  unfold PM.name
  rcases h with h | h | h <;> simp [h]
theorem name_yes {s : ByteArray} (h : PM.comp s = true) (h1 : s ≠ PM.dot) (h2 : s ≠ PM.dots) : PM.name s = true := by
  unfold PM.name; simp [h, h1, h2]

set_option maxHeartbeats 400000 in
theorem IsName_any (s : ByteArray) (w : World) (hs : s.size ≤ maxLen) :
    Calls Try.prog 13 #[.string s] w fun e w' => e = .returned (.bool (PM.name s)) ∧ w = w' := by
  cases h0 : PM.comp s with
  | true =>
    have H0 : Hid (Calls Try.prog 22 #[.string s] w fun e w' => e = .returned (.bool true) ∧ w = w') := by
      have := component_any s w hs
      rwa [h0] at this
    by_cases h1 : s = PM.dot
    · have hh : Hid (PM.name s = false) := name_no (.inr (.inl h1))
      have e1 := dot_yes h1
      clear h0 h1
      go_enter Try.func13, Try.ntmps13
      go_wp2_with fail
      refine H0.out.mono ?_
      rintro e w' ⟨rfl, rfl⟩
      go_wp2_with fail
      go_ret
      exact ⟨by rw [hh.out]; rfl, rfl⟩
    obtain ⟨e1, e2⟩ := dot_no h1
    by_cases h2 : s = PM.dots
    · have hh : Hid (PM.name s = false) := name_no (.inr (.inr h2))
      have e3 := dots_yes h2
      clear h0 h1 h2
      go_enter Try.func13, Try.ntmps13
      go_wp2_with fail
      refine H0.out.mono ?_
      rintro e w' ⟨rfl, rfl⟩
      go_wp2_with fail
      go_ret
      exact ⟨by rw [hh.out]; rfl, rfl⟩
    obtain ⟨e3, e4⟩ := dots_no h2
    have hh : Hid (PM.name s = true) := name_yes h0 h1 h2
    clear h0 h1 h2
    go_enter Try.func13, Try.ntmps13
    go_wp2_with fail
    refine H0.out.mono ?_
    rintro e w' ⟨rfl, rfl⟩
    go_wp2_with fail
    go_ret
    exact ⟨by rw [hh.out]; rfl, rfl⟩
  | false =>
    have H0 : Hid (Calls Try.prog 22 #[.string s] w fun e w' => e = .returned (.bool false) ∧ w = w') := by
      have := component_any s w hs
      rwa [h0] at this
    have hh : Hid (PM.name s = false) := name_no (.inl h0)
    clear h0
    go_enter Try.func13, Try.ntmps13
    go_wp2_with fail
    refine H0.out.mono ?_
    rintro e w' ⟨rfl, rfl⟩
    go_wp2_with fail
    go_ret
    exact ⟨by rw [hh.out]; rfl, rfl⟩

set_option maxHeartbeats 400000 in
theorem rIsName_any (s : ByteArray) (w : World) (hs : s.size ≤ maxLen) :
    Calls Try.prog 14 #[.string s] w fun e w' => e = .returned (.bool (PM.name s)) ∧ w = w' := by
  cases h0 : PM.comp s with
  | true =>
    have H0 : Hid (Calls Try.prog 23 #[.string s] w fun e w' => e = .returned (.bool true) ∧ w = w') := by
      have := word_any s w hs
      rwa [h0] at this
    by_cases h1 : s = PM.dot
    · have hh : Hid (PM.name s = false) := name_no (.inr (.inl h1))
      have e1 := dot_yes h1
      clear h0 h1
      go_enter Try.func14, Try.ntmps14
      go_wp2_with fail
      refine H0.out.mono ?_
      rintro e w' ⟨rfl, rfl⟩
      go_wp2_with fail
      go_ret
      exact ⟨by rw [hh.out]; rfl, rfl⟩
    obtain ⟨e1, e2⟩ := dot_no h1
    by_cases h2 : s = PM.dots
    · have hh : Hid (PM.name s = false) := name_no (.inr (.inr h2))
      have e3 := dots_yes h2
      clear h0 h1 h2
      go_enter Try.func14, Try.ntmps14
      go_wp2_with fail
      refine H0.out.mono ?_
      rintro e w' ⟨rfl, rfl⟩
      go_wp2_with fail
      go_ret
      exact ⟨by rw [hh.out]; rfl, rfl⟩
    obtain ⟨e3, e4⟩ := dots_no h2
    have hh : Hid (PM.name s = true) := name_yes h0 h1 h2
    clear h0 h1 h2
    go_enter Try.func14, Try.ntmps14
    go_wp2_with fail
    refine H0.out.mono ?_
    rintro e w' ⟨rfl, rfl⟩
    go_wp2_with fail
    go_ret
    exact ⟨by rw [hh.out]; rfl, rfl⟩
  | false =>
    have H0 : Hid (Calls Try.prog 23 #[.string s] w fun e w' => e = .returned (.bool false) ∧ w = w') := by
      have := word_any s w hs
      rwa [h0] at this
    have hh : Hid (PM.name s = false) := name_no (.inl h0)
    clear h0
    go_enter Try.func14, Try.ntmps14
    go_wp2_with fail
    refine H0.out.mono ?_
    rintro e w' ⟨rfl, rfl⟩
    go_wp2_with fail
    go_ret
    exact ⟨by rw [hh.out]; rfl, rfl⟩

end Go.Proofs.Ytfageibidikppaa

/- Contracts of the document's own Right, end, cut, Stored, Cut and Same. -/
import Derived.Test.YtlmkohmanfoejaaExtRead
namespace Go.Proofs.Ytlmkohmanfoejaa
open Go.ChangeShapes Go.WideShapes Go.ChangeAt Go.RowKit
set_option linter.unusedVariables false
set_option linter.unusedSimpArgs false

set_option maxHeartbeats 2000000 in
theorem Right_any (ao : Option Addr) (n cap : Nat) (l : List (Int × ByteArray)) (w : World) (h : XS w ao n cap l) (hf : XFit l) :
    Calls Try.prog 22 #[.slice ao n cap] w fun e w' => e = .returned (.bool (EM.ok 0 l)) ∧ Below w.heap.size w w' := by
  have hn : n ≤ 9223372036854775807 := by have := h.2.1; have := h.2.2.1; unfold maxLen at *; omega
  have L := W_hid h.1
  have hfit := W_hid hf
  have hno := W_hid (fun k hk h => @EM.ok_no 0 l k hk h)
  have hgo := W_hid (fun k hk h => @EM.ok_next 0 l k hk h)
  have hle := W_hid (fun k (h : EM.ok 0 (l.take k) = true) => EM.nxt_le h (by decide))
  have H := W_hid h
  clear h hf
  go_enter Try.func22, Try.ntmps22
  go_wp2_with fail
  go_loopw [3, 4] (fun f i wr => ∃ (k : Nat) (b : Int), k ≤ n ∧ i = .int .i64 k ∧ f = .int .i64 b ∧ Hid (EM.ok 0 (l.take k) = true ∧ EM.nxt 0 (l.take k) = b + 1) ∧ Below w.heap.size w wr) (fun _ i _ => n - (intOf i).toNat)
  case atStart => exact ⟨0, -1, Nat.zero_le _, rfl, rfl, W_hid ⟨rfl, rfl⟩, Below.refl _ _⟩
  case round =>
    obtain ⟨k, b, hk, rfl, rfl, hok, bel⟩ := hrel
    obtain ⟨hb0, hb1⟩ : -1 ≤ b ∧ b ≤ 1048576 := by have := hle.out k hok.out.1; rw [hok.out.2] at this; omega
    by_cases hlt : k < n
    · obtain ⟨b1, o1, rfl, g1⟩ := (H.out.below bel (Nat.le_refl _)).at_ (by omega)
      have k1 : k < l.length := by rw [L.out]; exact hlt
      obtain ⟨e1, e2⟩ := g1 k hlt
      have hft := hfit.out l[k] (List.getElem_mem k1)
      have hno := W_hid (hno.out k k1)
      have hgo := W_hid (hgo.out k k1)
      obtain ⟨⟨a, d⟩, hx⟩ : ∃ x, l[k] = x := ⟨_, rfl⟩
      simp only [hx] at e1 e2 hft hno hgo
      obtain ⟨⟨ha1, ha2⟩, hd⟩ := hft
      unfold maxLen at hd
      have bel3 := below_al bel (.cells #[.int .i64 a, .string d] 32)
      clear hx g1 k1
      by_cases h1 : a < 0
      · have hh : Hid (EM.ok 0 l = false) := hno.out (.inr (.inl (by rw [hok.out.2]; show a < b + 1; omega)))
        clear hno hgo
        go_wp2_with fail
        go_ret
        exact ⟨ret_bool hh.out.symm, bel3⟩
      by_cases h2 : 1048576 < a
      · have hh : Hid (EM.ok 0 l = false) := hno.out (.inr (.inr (by show (1048576 : Int) < a + d.size; omega)))
        clear hno hgo
        go_wp2_with fail
        go_ret
        exact ⟨ret_bool hh.out.symm, bel3⟩
      by_cases h0 : d.size = 0
      · obtain ⟨s1, s2⟩ := xempty h0
        have hh : Hid (EM.ok 0 l = false) := hno.out (.inl h0)
        clear hno hgo h0
        go_wp2_with fail
        go_ret
        exact ⟨ret_bool hh.out.symm, bel3⟩
      obtain ⟨s1, s2⟩ := xfull h0
      by_cases h3 : a ≤ b
      · have hh : Hid (EM.ok 0 l = false) := hno.out (.inr (.inl (by rw [hok.out.2]; show a < b + 1; omega)))
        clear hno hgo h0
        go_wp2_with fail
        go_ret
        exact ⟨ret_bool hh.out.symm, bel3⟩
      by_cases h4 : 1048576 - a < d.size
      · have hh : Hid (EM.ok 0 l = false) := hno.out (.inr (.inr (by show (1048576 : Int) < a + d.size; omega)))
        clear hno hgo h0
        go_wp2_with fail
        go_ret
        exact ⟨ret_bool hh.out.symm, bel3⟩
      · have hnx := W_hid (hgo.out hok.out.1 (by omega) (by rw [hok.out.2]; show b + 1 ≤ a; omega) (by show a + d.size ≤ (1048576 : Int); omega))
        have h5 : a + d.size ≤ (1048576 : Int) := by omega
        clear hno hgo h0
        go_wp2_with fail
        go_roundw
        case rel => exact ⟨k + 1, a + d.size, by omega, by go_num, rfl, hnx, bel3⟩
        case measure => simp [intOf]; omega
    · obtain rfl : k = n := by omega
      have hh : Hid (EM.ok 0 l = true) := by
        have := hok.out.1
        rwa [List.take_of_length_le (by rw [L.out]; exact Nat.le_refl _)] at this
      clear hok hno hgo
      go_wp2_with fail
      go_ret
      exact ⟨ret_bool hh.out.symm, bel⟩

set_option maxHeartbeats 1000000 in
/-- end, of a list whose last extent's end int64 holds. -/
theorem rend_any (ao : Option Addr) (n cap : Nat) (l : List (Int × ByteArray)) (w : World) (h : XS w ao n cap l) (hb : ∀ x ∈ l, 0 ≤ x.1 ∧ x.1 + x.2.size ≤ 4611686018427387904) :
    Calls Try.prog 23 #[.slice ao n cap] w fun e w' => e = .returned (.int .i64 (ends l)) ∧ Below w.heap.size w w' := by
  have hn : n ≤ 9223372036854775807 := by have := h.2.1; have := h.2.2.1; unfold maxLen at *; omega
  rcases List.eq_nil_or_concat l with rfl | ⟨q, ⟨a, d⟩, rfl⟩
  · have hl := h.1
    simp only [List.length_nil] at hl
    subst hl
    clear h hb
    go_enter Try.func23, Try.ntmps23
    go_wp2_with fail
    go_ret
    exact ⟨rfl, Below.refl _ _⟩
  · rw [List.concat_eq_append] at *
    have hl := h.1
    rw [List.length_append, List.length_cons, List.length_nil] at hl
    subst hl
    obtain ⟨b1, o1, rfl, g1⟩ := h.at_ (by omega)
    obtain ⟨e1, e2⟩ := g1 q.length (by omega)
    simp only [List.getElem_append_right (Nat.le_refl q.length), Nat.sub_self, List.getElem_cons_zero] at e1 e2
    obtain ⟨o4, o5⟩ := hb (a, d) (by simp)
    simp only at o4 o5
    have hh : Hid (ends (q ++ [(a, d)]) = a + d.size) := by
      show _ = _
      have e : EM.nxt 0 (q ++ [(a, d)]) = a + d.size + 1 := EM.nxt_snoc 0 q (a, d)
      cases hq : q ++ [(a, d)] with
      | nil => simp at hq
      | cons x r => rw [hq] at e; show EM.nxt 0 (x :: r) - 1 = _; omega
    have n1 : ((q.length : Int) + 1 == 0) = false := by simp; omega
    have n2 : ((q.length : Int) + 1 - 1) = q.length := by omega
    have bel := (Below.refl w.heap.size w).alloc (Nat.le_refl _) (.cells #[.int .i64 a, .string d] 32)
    clear h hb g1
    go_enter Try.func23, Try.ntmps23
    go_wp2_with fail
    go_ret
    exact ⟨ret_int hh.out.symm, bel⟩

set_option maxHeartbeats 1000000 in
theorem rStored_any (ao : Option Addr) (n cap : Nat) (l : List (Int × ByteArray)) (w : World) (h : XS w ao n cap l) (hf : XFit l) :
    Calls Try.prog 18 #[.slice ao n cap] w fun e w' => e = .returned (.tuple #[.int .i64 (stV l), .int .i64 (stE l)]) ∧ Below w.heap.size w w' := by
  have hval := Right_any ao n cap l w h hf
  have H := W_hid h
  cases hv : EM.ok 0 l with
  | false =>
    have e1 : Hid (stV l = 0 ∧ stE l = 2) := by unfold stV stE; rw [hv]; exact ⟨rfl, rfl⟩
    rw [hv] at hval
    have hval := W_hid hval
    clear hv h
    go_enter Try.func18, Try.ntmps18
    go_wp2_with fail
    refine hval.out.mono ?_
    rintro e w1 ⟨rfl, bel1⟩
    go_wp2_with fail
    go_ret2
    exact ⟨by rw [e1.out.1, e1.out.2]; rfl, bel1⟩
  | true =>
    have e1 : Hid (stV l = EM.cnt l ∧ stE l = 0) := by unfold stV stE; rw [hv]; exact ⟨rfl, rfl⟩
    have hle := W_hid (fun k => Nat.le_trans (EM.cnt_take l k) (ok_nums hv).2)
    have hn : n ≤ 1048576 := by have := (ok_nums hv).1; have := h.1; omega
    have L := W_hid h.1
    rw [hv] at hval
    have hval := W_hid hval
    clear hv h
    go_enter Try.func18, Try.ntmps18
    go_wp2_with fail
    refine hval.out.mono ?_
    rintro e w1 ⟨rfl, bel1⟩
    go_wp2_with fail
    have H1 := W_hid (H.out.below bel1 (Nat.le_refl _))
    go_loop [5, 6] (fun f i => ∃ (k b : Nat), k ≤ n ∧ i = .int .i64 k ∧ f = .int .i64 b ∧ Hid (EM.cnt (l.take k) = b)) (fun _ i => n - (intOf i).toNat)
    case atStart => exact ⟨0, 0, Nat.zero_le _, rfl, rfl, W_hid rfl⟩
    case round =>
      obtain ⟨k, b, hk, rfl, rfl, hok⟩ := hrel
      by_cases hlt : k < n
      · obtain ⟨b1, o1, rfl, g1⟩ := H1.out.at_ (by omega)
        have k1 : k < l.length := by rw [L.out]; exact hlt
        obtain ⟨e1, e2⟩ := g1 k hlt
        have hnext : Hid (EM.cnt (l.take (k + 1)) = b + l[k].2.size) := by
          show _ = _
          rw [EM.take_snoc l k k1, EM.cnt_append, EM.cnt_one, hok.out]
        have hbb : b + l[k].2.size ≤ 1048576 := by rw [← hnext.out]; exact hle.out _
        obtain ⟨⟨a, d⟩, hx⟩ : ∃ x, l[k] = x := ⟨_, rfl⟩
        simp only [hx] at e1 e2 hnext hbb
        clear hx g1 k1 hok
        go_wp2_with fail
        go_round
        case rel => exact ⟨k + 1, b + d.size, by omega, by go_num, by go_num, hnext⟩
        case measure => simp [intOf]; omega
      · obtain rfl : k = n := by omega
        have hh : Hid (EM.cnt l = b) := by
          have := hok.out
          rwa [List.take_of_length_le (by rw [L.out]; exact Nat.le_refl _)] at this
        clear hok
        go_wp2_with fail
        go_ret2
        exact ⟨by rw [e1.out.1, e1.out.2, hh.out]; rfl, bel1⟩

set_option maxHeartbeats 1000000 in
theorem Same_any (x1 x2 : Option Addr) (n1 c1 n2 c2 : Nat) (l1 l2 : List (Int × ByteArray)) (w : World) (h1 : XS w x1 n1 c1 l1) (h2 : XS w x2 n2 c2 l2) :
    Calls Try.prog 14 #[.slice x1 n1 c1, .slice x2 n2 c2] w fun e w' => e = .returned (.bool (decide (l1 = l2))) ∧ Below w.heap.size w w' := by
  have m1 : n1 ≤ 9223372036854775807 := by have := h1.2.1; have := h1.2.2.1; unfold maxLen at *; omega
  have m2 : n2 ≤ 9223372036854775807 := by have := h2.2.1; have := h2.2.2.1; unfold maxLen at *; omega
  by_cases hn : n1 = n2
  · subst hn
    have L1 := W_hid h1.1
    have L2 := W_hid h2.1
    have H1 := W_hid h1
    have H2 := W_hid h2
    clear h1 h2
    go_enter Try.func14, Try.ntmps14
    go_wp2
    go_loopw [5] (fun i wr => ∃ k : Nat, k ≤ n1 ∧ i = .int .i64 k ∧ Hid (l1.take k = l2.take k) ∧ Below w.heap.size w wr) (fun i _ => n1 - (intOf i).toNat)
    case atStart => exact ⟨0, Nat.zero_le _, rfl, rfl, Below.refl _ _⟩
    case round =>
      obtain ⟨k, hk, rfl, heq, bel⟩ := hrel
      by_cases hlt : k < n1
      · obtain ⟨b1, o1, rfl, g1⟩ := (H1.out.below bel (Nat.le_refl _)).at_ (by omega)
        obtain ⟨b2, o2, rfl, g2⟩ := (H2.out.below bel (Nat.le_refl _)).at_ (by omega)
        have k1 : k < l1.length := by rw [L1.out]; exact hlt
        have k2 : k < l2.length := by rw [L2.out]; exact hlt
        obtain ⟨e1, e2⟩ := g1 k hlt
        obtain ⟨e3, e4⟩ := g2 k hlt
        have hT1 : Hid (l1.take (k + 1) = l1.take k ++ [l1[k]]) := EM.take_snoc l1 k k1
        have hT2 : Hid (l2.take (k + 1) = l2.take k ++ [l2[k]]) := EM.take_snoc l2 k k2
        have hD : Hid (l1 = l2 → l1[k] = l2[k]) := by intro h; subst h; rfl
        obtain ⟨⟨a, d⟩, hx⟩ : ∃ x, l1[k] = x := ⟨_, rfl⟩
        obtain ⟨⟨a', d'⟩, hy⟩ : ∃ x, l2[k] = x := ⟨_, rfl⟩
        simp only [hx] at e1 e2
        simp only [hy] at e3 e4
        rw [hx] at hT1 hD
        rw [hy] at hT2 hD
        clear hx hy g1 g2
        by_cases ha : a = a'
        · subst ha
          by_cases hd : d = d'
          · subst hd
            have hnext : Hid (l1.take (k + 1) = l2.take (k + 1)) := by
              show _ = _
              rw [hT1.out, hT2.out, heq.out]
            clear heq hT1 hT2 hD
            go_wp2
            go_quiet (fail)
            go_wp2
            go_roundw
            case rel => exact ⟨k + 1, by omega, by go_num, hnext, below_drewN bel _⟩
            case measure => simp [intOf]; omega
          · have hh : Hid (decide (l1 = l2) = false) := by
              show _ = _
              exact decide_eq_false (fun h => hd (congrArg Prod.snd (hD.out h)))
            have f1 : (d.toList == d'.toList) = false := by
              have : d.toList ≠ d'.toList := fun e => hd (by apply EM.ba_inj; rw [← ByteArray.toList_eq, ← ByteArray.toList_eq]; exact e)
              simpa using this
            have f2 : (d.toList = d'.toList) = False := by simpa using f1
            clear heq hd hT1 hT2 hD
            go_wp2
            go_quiet (fail)
            go_wp2
            go_ret
            exact ⟨by rw [hh.out]; rfl, below_drewN bel _⟩
        · have hh : Hid (decide (l1 = l2) = false) := by
            show _ = _
            exact decide_eq_false (fun h => ha (congrArg Prod.fst (hD.out h)))
          have f1 : (a == a') = false := by simpa using ha
          have f2 : (a = a') = False := by simpa using ha
          clear heq ha hT1 hT2 hD
          go_wp2
          go_quiet (fail)
          go_wp2
          go_ret
          exact ⟨by rw [hh.out]; rfl, below_drewN bel _⟩
      · obtain rfl : k = n1 := by omega
        have hh : Hid (decide (l1 = l2) = true) := by
          have e := heq.out
          rw [List.take_of_length_le (by rw [L1.out]; exact Nat.le_refl _), List.take_of_length_le (by rw [L2.out]; exact Nat.le_refl _)] at e
          exact decide_eq_true e
        clear heq
        go_wp2
        go_ret
        exact ⟨by rw [hh.out]; rfl, bel⟩
  · have hh : Hid (decide (l1 = l2) = false) := by
      have : l1 ≠ l2 := fun e => hn (by rw [← h1.1, ← h2.1, e])
      exact decide_eq_false this
    have e : ((n1 : Int) != (n2 : Int)) = true := by simp; omega
    clear hn h1 h2
    go_enter Try.func14, Try.ntmps14
    go_wp2
    go_ret
    exact ⟨by rw [hh.out]; rfl, Below.refl _ _⟩

end Go.Proofs.Ytlmkohmanfoejaa

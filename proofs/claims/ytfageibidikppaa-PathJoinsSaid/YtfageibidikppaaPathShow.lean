/- Contracts of size, valid and Show, the program's, and of Right, form and Show, the document's own: whether a path is valid, and its text. -/
import Derived.Test.YtfageibidikppaaPathSame
namespace Go.Proofs.Ytfageibidikppaa
open Go.ChangeShapes Go.WideShapes Go.ChangeAt Go.RowKit
set_option linter.unusedVariables false
set_option linter.unusedSimpArgs false

theorem ret_int {k : IntKind} {a b : Int} (h : a = b) : Ending.returned (.int k a) = .returned (.int k b) := by rw [h]
theorem ret_bool {a b : Bool} (h : a = b) : Ending.returned (.bool a) = .returned (.bool b) := by rw [h]

/-- The bytes of the first names. -/
def upto (l : List ByteArray) (k : Nat) : Nat := PM.tot (l.take k) - k
theorem upto_zero (l : List ByteArray) : upto l 0 = 0 := by simp [upto, PM.tot]
theorem upto_add (l : List ByteArray) (k : Nat) (h : k ≤ l.length) : upto l k + k = PM.tot (l.take k) := by
  have := PM.tot_len (l.take k)
  rw [List.length_take] at this
  unfold upto; omega
theorem upto_succ (l : List ByteArray) (k : Nat) (h : k < l.length) : upto l (k + 1) = upto l k + l[k].size := by
  have h1 := upto_add l k (by omega)
  have h2 := upto_add l (k + 1) (by omega)
  rw [PM.take_snoc l k h, PM.tot_snoc] at h2
  omega
theorem upto_le (l : List ByteArray) (k : Nat) (h : k ≤ l.length) : upto l k ≤ PM.tot l := by
  have := upto_add l k h
  have := PM.tot_take l k
  omega

set_option maxHeartbeats 1000000 in
theorem size_any (a d : Bool) (ao : Option Addr) (n cap : Nat) (l : List ByteArray) (w : World) (h : SS w ao n cap l) (ht : PM.tot l ≤ 4611686018427387904) :
    Calls Try.prog 28 #[.agg #[.bool a, .slice ao n cap, .bool d]] w fun e w' => e = .returned (.int .i64 (PM.plen a l d)) ∧ Below w.heap.size w w' := by
  have bb : Below w.heap.size w (w.alloc (.cells #[.bool a, .slice ao n cap, .bool d] 25)) := (Below.refl _ _).alloc (Nat.le_refl _) _
  have L := W_hid h.1
  have hn : n ≤ 4611686018427387904 := by have := PM.tot_len l; have := h.1; omega
  have s1 := h.alloc (.cells #[.bool a, .slice ao n cap, .bool d] 25)
  have hend : Hid (PM.plen a l d = upto l n + (n - 1) + (if a then 1 else 0) + (if d && decide (0 < n) then 1 else 0)) := by
    have h1 := upto_add l n (by have := h.1; omega)
    rw [List.take_of_length_le (by have := h.1; omega)] at h1
    show _ = _
    unfold PM.plen
    rw [h.1]
    have := PM.tot_len l
    have := h.1
    by_cases hn0 : n = 0
    · subst hn0
      obtain rfl := List.eq_nil_of_length_eq_zero h.1
      simp [PM.tot, upto]
    · omega
  have hle := W_hid (upto_le l)
  clear h
  go_enter Try.func28, Try.ntmps28
  go_wp2_with fail
  go_loop [3, 9] (fun v i => ∃ k s : Nat, k ≤ n ∧ i = .int .i64 k ∧ v = .int .i64 s ∧ Hid (s = upto l k)) (fun _ i => n - (intOf i).toNat)
  case atStart => exact ⟨0, 0, Nat.zero_le _, rfl, rfl, (upto_zero l).symm⟩
  case round =>
    obtain ⟨k, s, hk, rfl, rfl, hs⟩ := hrel
    have hsl : s ≤ 4611686018427387904 := by have := hle.out k (by rw [L.out]; exact hk); have := hs.out; omega
    by_cases hlt : k < n
    · obtain ⟨b1, o1, rfl, g1⟩ := s1.at_ (by omega)
      have k1 : k < l.length := by rw [L.out]; exact hlt
      have e1 := g1 k hlt
      obtain ⟨p, hp1⟩ : ∃ p, l[k] = p := ⟨_, rfl⟩
      rw [hp1] at e1
      have hnext : Hid (s + p.size = upto l (k + 1)) := by
        show _ = _
        rw [upto_succ l k k1, hp1, hs.out]
      have hpl : s + p.size ≤ 4611686018427387904 := by have := hle.out (k + 1) (by rw [L.out]; omega); have := hnext.out; omega
      clear hs hp1 g1 s1
      go_wp2
      go_round
      case rel => exact ⟨k + 1, s + p.size, by omega, by go_num, by go_num, hnext⟩
      case measure => simp [intOf]; omega
    · obtain rfl : k = n := by omega
      by_cases h0 : k = 0
      · subst h0
        cases a <;> cases d
        all_goals
          go_wp2
          go_ret
          exact ⟨ret_int (by rw [hend.out]; simp; have := hs.out; omega), bb⟩
      · have h0' : 0 < k := by omega
        have m1 : 1 ≤ (k : Int) := by omega
        have m3 : s + k ≤ 4611686018427387904 := by
          have q := upto_add l k (by rw [L.out]; exact Nat.le_refl _)
          have q2 := PM.tot_take l k
          have := hs.out
          omega
        have m2 : max ((k : Int) - 1) 0 = (k : Int) - 1 := by omega
        cases a <;> cases d
        all_goals
          go_wp2
          go_ret
          exact ⟨ret_int (by rw [hend.out]; simp [h0']; have := hs.out; omega), bb⟩

/-- What is asked of a path's names: as many as memory bears, each no longer than a string may be. -/
def Fit (n : Nat) (l : List ByteArray) : Prop := n ≤ 17592186044416 ∧ ∀ x ∈ l, x.size ≤ maxLen

theorem valid_of {a d : Bool} {l : List ByteArray} (h : l ≠ []) (hc : ∀ x ∈ l, PM.comp x = true) : PM.valid a l d = decide (PM.plen a l d ≤ 256) := by
  unfold PM.valid
  rw [if_neg h]
  have : l.all PM.comp = true := by rw [List.all_eq_true]; exact hc
  rw [this, Bool.true_and]
theorem valid_no {a d : Bool} {l : List ByteArray} (x : ByteArray) (hx : x ∈ l) (hc : PM.comp x = false) : PM.valid a l d = false := by
  unfold PM.valid
  rw [if_neg (fun h => by rw [h] at hx; simp at hx)]
  have : l.all PM.comp = false := by rw [List.all_eq_false]; exact ⟨x, hx, by rw [hc]; decide⟩
  rw [this, Bool.false_and]

set_option maxHeartbeats 1000000 in
theorem valid_any (a d : Bool) (ao : Option Addr) (n cap : Nat) (l : List ByteArray) (w : World) (h : SS w ao n cap l) (hf : Fit n l) :
    Calls Try.prog 24 #[.agg #[.bool a, .slice ao n cap, .bool d]] w fun e w' => e = .returned (.bool (PM.valid a l d)) ∧ Below w.heap.size w w' := by
  have bb : Below w.heap.size w (w.alloc (.cells #[.bool a, .slice ao n cap, .bool d] 25)) := (Below.refl _ _).alloc (Nat.le_refl _) _
  have L := W_hid h.1
  obtain ⟨hn, hsz⟩ := hf
  have hcomp := W_hid (fun (x : ByteArray) (hx : x ∈ l) w => component_any x w (hsz x hx))
  have s1 := h.alloc (.cells #[.bool a, .slice ao n cap, .bool d] 25)
  by_cases hn0 : n = 0
  · subst hn0
    obtain rfl := List.eq_nil_of_length_eq_zero h.1
    have hv : Hid (PM.valid a [] d = (a && d)) := rfl
    clear h s1 hsz hcomp
    cases a <;> cases d
    all_goals
      go_enter Try.func24, Try.ntmps24
      go_wp2_with fail
      go_ret
      exact ⟨ret_bool (by rw [hv.out]; rfl), bb⟩
  have hn1 : 0 < n := by omega
  have hsize : Hid ((∀ x ∈ l, PM.comp x = true) → Calls Try.prog 28 #[.agg #[.bool a, .slice ao n cap, .bool d]] (w.alloc (.cells #[.bool a, .slice ao n cap, .bool d] 25)) fun e w' => e = .returned (.int .i64 (PM.plen a l d)) ∧ Below (w.alloc (.cells #[.bool a, .slice ao n cap, .bool d] 25)).heap.size (w.alloc (.cells #[.bool a, .slice ao n cap, .bool d] 25)) w') :=
    fun hc => size_any a d ao n cap l _ s1 (by have := PM.tot_le l hc; have := h.1; omega)
  have hpl : Hid (∀ x ∈ l, PM.comp x = true) → PM.plen a l d ≤ 4611686018427387904 := fun hc => by
    have := PM.tot_le l hc.out; have := h.1
    unfold PM.plen; split <;> split <;> omega
  have hpl := W_hid hpl
  have hno := W_hid (fun x hx hc => @valid_no a d l x hx hc)
  have hyes := W_hid (fun hc => @valid_of a d l (fun e => by rw [e] at h; have := h.1; simp at this; omega) hc)
  have e0 : ((n : Int) == 0) = false := by simp; omega
  obtain ⟨b1, o1, rfl, g1⟩ := s1.at_ hn1
  have G1 := W_hid g1
  clear h hsz hn0 g1
  go_enter Try.func24, Try.ntmps24
  go_wp2_with fail
  go_loop [18] (fun i => ∃ k : Nat, k ≤ n ∧ i = .int .i64 k ∧ Hid (∀ x ∈ l.take k, PM.comp x = true)) (fun i => n - (intOf i).toNat)
  case atStart => exact ⟨0, Nat.zero_le _, rfl, (fun x hx => by simp at hx)⟩
  case round =>
    obtain ⟨k, hk, rfl, hall⟩ := hrel
    by_cases hlt : k < n
    · have k1 : k < l.length := by rw [L.out]; exact hlt
      have e1 := G1.out k hlt
      obtain ⟨p, hp1⟩ : ∃ p, l[k] = p := ⟨_, rfl⟩
      rw [hp1] at e1
      have hpm : Hid (p ∈ l) := by rw [← hp1]; exact List.getElem_mem k1
      have hc := W_hid (hcomp.out p hpm.out)
      have hnext : Hid (PM.comp p = true → ∀ x ∈ l.take (k + 1), PM.comp x = true) := by
        intro hcp x hx
        rw [PM.take_snoc l k k1, hp1] at hx
        rcases List.mem_append.1 hx with hx | hx
        · exact hall.out x hx
        · rw [List.mem_singleton.1 hx]; exact hcp
      clear hp1 hall
      cases hcp : PM.comp p with
      | true =>
        have hc' : Hid (∀ w, Calls Try.prog 22 #[.string p] w fun e w' => e = .returned (.bool true) ∧ w = w') := by
          have := hc.out; rw [hcp] at this; exact this
        have hnext' := W_hid (hnext.out hcp)
        clear hcp hc hnext
        go_wp2_with fail
        refine (hc'.out _).mono ?_
        rintro e w' ⟨rfl, rfl⟩
        go_wp2_with fail
        go_round
        case rel => exact ⟨k + 1, by omega, by go_num, hnext'⟩
        case measure => simp [intOf]; omega
      | false =>
        have hc' : Hid (∀ w, Calls Try.prog 22 #[.string p] w fun e w' => e = .returned (.bool false) ∧ w = w') := by
          have := hc.out; rw [hcp] at this; exact this
        have hv := W_hid (hno.out p hpm.out hcp)
        clear hcp hc hnext
        go_wp2_with fail
        refine (hc'.out _).mono ?_
        rintro e w' ⟨rfl, rfl⟩
        go_wp2_with fail
        go_ret
        exact ⟨ret_bool hv.out.symm, bb⟩
    · obtain rfl : k = n := by omega
      have hall' : Hid (∀ x ∈ l, PM.comp x = true) := by
        have := hall.out
        rw [List.take_of_length_le (by rw [L.out]; exact Nat.le_refl _)] at this
        exact this
      have hv := W_hid (hyes.out hall'.out)
      have hs := W_hid (hsize.out hall'.out)
      have hpl' := hpl.out hall'
      clear hall hyes hsize hpl hno hcomp
      generalize PM.plen a l d = m at *
      go_wp2_with fail
      refine hs.out.mono ?_
      rintro e w' ⟨rfl, bel⟩
      go_wp2_with fail
      go_ret
      exact ⟨ret_bool (by rw [hv.out]; exact decide_eq_decide.2 (by omega)), bb.trans (bel.mono bb.size)⟩

/-- A path's text up to some names. -/
def headT (a : Bool) (l : List ByteArray) : List UInt8 := (if a then [47] else []) ++ PM.body l
theorem headT_snoc (a : Bool) (l : List ByteArray) (x : ByteArray) : headT a (l ++ [x]) = headT a l ++ ((if 0 < l.length then [47] else []) ++ x.data.toList) := by
  unfold headT; rw [PM.body_snoc, List.append_assoc]
theorem headT_length (a : Bool) (l : List ByteArray) : (headT a l).length ≤ PM.tot l + 1 := by
  unfold headT; rw [List.length_append, PM.body_length]; split <;> simp <;> omega
theorem text_headT (a : Bool) (l : List ByteArray) (d : Bool) : PM.text a l d = headT a l ++ (if d && decide (0 < l.length) then [47] else []) := rfl
theorem slash_list : (⟨#[47]⟩ : ByteArray).data.toList = [47] := rfl
theorem cat_list (x y : ByteArray) : (x ++ y).data.toList = x.data.toList ++ y.data.toList := by rw [ByteArray.data_append, Array.toList_append]
theorem ret_string {a b : ByteArray} (h : a.data.toList = b.data.toList) : Ending.returned (.string a) = .returned (.string b) := by
  rw [← PM.str_of a, ← PM.str_of b, h]
theorem mem_tot {l : List ByteArray} {x : ByteArray} (h : x ∈ l) : x.size ≤ PM.tot l := by
  induction l with
  | nil => simp at h
  | cons y r ih =>
    rw [PM.tot_cons]
    rcases List.mem_cons.1 h with rfl | h
    · omega
    · have := ih h; omega

set_option maxHeartbeats 1000000 in
theorem form_any (a d : Bool) (ao : Option Addr) (n cap : Nat) (l : List ByteArray) (w : World) (h : SS w ao n cap l) (ht : PM.tot l ≤ 1000000) :
    Calls Try.prog 26 #[.agg #[.bool a, .slice ao n cap, .bool d]] w fun e w' => e = .returned (.string (PM.str (PM.text a l d))) ∧ Below w.heap.size w w' := by
  have bb : Below w.heap.size w (w.alloc (.cells #[.bool a, .slice ao n cap, .bool d] 25)) := (Below.refl _ _).alloc (Nat.le_refl _) _
  have L := W_hid h.1
  have hn : n ≤ 1000000 := by have := PM.tot_len l; have := h.1; omega
  have s1 := h.alloc (.cells #[.bool a, .slice ao n cap, .bool d] 25)
  obtain ⟨A, hA⟩ : ∃ A, A = a := ⟨a, rfl⟩
  have HA := W_hid hA
  have hlen := W_hid (fun k => Nat.le_trans (headT_length A (l.take k)) (Nat.add_le_add_right (PM.tot_take l k) 1))
  have hmem := W_hid (fun x hx => @mem_tot l x hx)
  have hend : Hid (PM.text a l d = headT A l ++ (if d && decide (0 < n) then [47] else [])) := by
    show _ = _
    rw [text_headT, h.1, hA]
  have hstart : Hid (∀ x : ByteArray, x = (if a then ⟨#[47]⟩ else ⟨#[]⟩) → x.data.toList = headT A (l.take 0)) := by
    rintro x rfl
    subst hA
    cases A <;> rfl
  clear h hA
  cases a
  all_goals
    go_enter Try.func26, Try.ntmps26
    go_wp2_with fail
    go_loop [3, 4] (fun v i => ∃ (k : Nat) (t : ByteArray), k ≤ n ∧ i = .int .i64 k ∧ v = .string t ∧ Hid (t.data.toList = headT A (l.take k))) (fun _ i => n - (intOf i).toNat)
    case atStart => exact ⟨0, _, Nat.zero_le _, rfl, rfl, hstart.out _ rfl⟩
    case round =>
      obtain ⟨k, t, hk, rfl, rfl, htx⟩ := hrel
      have hts : t.size ≤ 1000001 := by
        have := congrArg List.length htx.out
        rw [PM.list_size] at this
        have := hlen.out k
        omega
      by_cases hlt : k < n
      · obtain ⟨b1, o1, rfl, g1⟩ := s1.at_ (by omega)
        have k1 : k < l.length := by rw [L.out]; exact hlt
        have e1 := g1 k hlt
        obtain ⟨p, hp1⟩ : ∃ p, l[k] = p := ⟨_, rfl⟩
        rw [hp1] at e1
        have hps : p.size ≤ 1000000 := by
          have := hmem.out p (by rw [← hp1]; exact List.getElem_mem k1)
          omega
        have hnext : Hid (∀ x : ByteArray, x.data.toList = t.data.toList ++ ((if 0 < k then [47] else []) ++ p.data.toList) → x.data.toList = headT A (l.take (k + 1))) := by
          intro x hx
          rw [PM.take_snoc l k k1, headT_snoc, hp1, hx, htx.out, List.length_take]
          congr 2
          rw [Nat.min_eq_left (by omega)]
        clear htx hp1 g1 s1
        by_cases h0 : k = 0
        · subst h0
          rw [Nat.add_zero] at e1
          go_wp2
          go_round
          case rel => exact ⟨1, t ++ p, by omega, rfl, rfl, hnext.out _ (by rw [cat_list]; rfl)⟩
          case measure => simp [intOf]; omega
        · have h0' : 0 < k := by omega
          have h1' : 0 < (k : Int) := by omega
          go_wp2
          go_round
          case rel => exact ⟨k + 1, t ++ ⟨#[47]⟩ ++ p, by omega, by go_num, rfl, hnext.out _ (by rw [cat_list, cat_list, if_pos h0', slash_list, List.append_assoc])⟩
          case measure => simp [intOf]; omega
      · obtain rfl : k = n := by omega
        have hfin : Hid (t.data.toList = headT A l) := by
          have := htx.out
          rw [List.take_of_length_le (by rw [L.out]; exact Nat.le_refl _)] at this
          exact this
        by_cases h0 : k = 0
        · subst h0
          cases d
          all_goals
            go_wp2
            go_ret
            exact ⟨ret_string (by rw [PM.str_list, hend.out]; simp [hfin.out]), bb⟩
        · have h0' : 0 < k := by omega
          have h1' : 0 < (k : Int) := by omega
          cases d
          all_goals
            go_wp2
            go_ret
            exact ⟨ret_string (by rw [PM.str_list, hend.out]; simp [hfin.out, h0', cat_list]), bb⟩

theorem comp_tot {l : List ByteArray} (h : ∀ x ∈ l, PM.comp x = true) : 2 * l.length ≤ PM.tot l := by
  induction l with
  | nil => simp
  | cons x r ih =>
    have h1 := ((PM.comp_iff x).1 (h x (by simp))).1.1
    have h2 := ih fun y hy => h y (by simp [hy])
    rw [PM.tot_cons, List.length_cons]; omega
theorem valid_many {a d : Bool} {l : List ByteArray} (h : 257 < l.length) : PM.valid a l d = false := by
  cases hv : PM.valid a l d with
  | false => rfl
  | true =>
    have h1 := comp_tot (PM.valid_comp hv)
    have h2 := PM.valid_tot hv
    omega

set_option maxHeartbeats 1000000 in
theorem Right_any (a d : Bool) (ao : Option Addr) (n cap : Nat) (l : List ByteArray) (w : World) (h : SS w ao n cap l) (hf : Fit n l) :
    Calls Try.prog 25 #[.agg #[.bool a, .slice ao n cap, .bool d]] w fun e w' => e = .returned (.bool (PM.valid a l d)) ∧ Below w.heap.size w w' := by
  have bb : Below w.heap.size w (w.alloc (.cells #[.bool a, .slice ao n cap, .bool d] 25)) := (Below.refl _ _).alloc (Nat.le_refl _) _
  have L := W_hid h.1
  obtain ⟨hn, hsz⟩ := hf
  have hcomp := W_hid (fun (x : ByteArray) (hx : x ∈ l) w => word_any x w (hsz x hx))
  have s1 := h.alloc (.cells #[.bool a, .slice ao n cap, .bool d] 25)
  by_cases hn0 : n = 0
  · subst hn0
    obtain rfl := List.eq_nil_of_length_eq_zero h.1
    have hv : Hid (PM.valid a [] d = (a && d)) := rfl
    clear h s1 hsz hcomp
    cases a <;> cases d
    all_goals
      go_enter Try.func25, Try.ntmps25
      go_wp2_with fail
      go_loop [3, 4] (fun v i => v = .int .i64 1 ∧ i = .int .i64 0) (fun _ _ => 0)
      case atStart => exact ⟨rfl, rfl⟩
      case round =>
        obtain ⟨rfl, rfl⟩ := hrel
        go_wp2_with fail
        go_ret
        exact ⟨ret_bool (by rw [hv.out]; rfl), bb⟩
  have hn1 : 0 < n := by omega
  have hform : Hid (PM.tot l ≤ 1000000 → Calls Try.prog 26 #[.agg #[.bool a, .slice ao n cap, .bool d]] (w.alloc (.cells #[.bool a, .slice ao n cap, .bool d] 25)) fun e w' => e = .returned (.string (PM.str (PM.text a l d))) ∧ Below (w.alloc (.cells #[.bool a, .slice ao n cap, .bool d] 25)).heap.size (w.alloc (.cells #[.bool a, .slice ao n cap, .bool d] 25)) w') :=
    fun hc => form_any a d ao n cap l _ s1 hc
  have hno := W_hid (fun x hx hc => @valid_no a d l x hx hc)
  have hmany := W_hid (@valid_many a d l)
  have hyes := W_hid (fun hc => @valid_of a d l (fun e => by rw [e] at h; have := h.1; simp at this; omega) hc)
  have e0 : ((n : Int) == 0) = false := by simp; omega
  obtain ⟨b1, o1, rfl, g1⟩ := s1.at_ hn1
  have G1 := W_hid g1
  clear h hsz hn0 g1
  go_enter Try.func25, Try.ntmps25
  go_wp2_with fail
  go_loop [3, 4] (fun v i => ∃ k s : Nat, k ≤ n ∧ k ≤ 257 ∧ i = .int .i64 k ∧ v = .int .i64 s ∧ s ≤ 1 + 32 * k ∧ Hid (∀ x ∈ l.take k, PM.comp x = true)) (fun _ i => n - (intOf i).toNat)
  case atStart => exact ⟨0, 1, Nat.zero_le _, Nat.zero_le _, rfl, rfl, by omega, (fun x hx => by simp at hx)⟩
  case round =>
    obtain ⟨k, s, hk, hk2, rfl, rfl, hs, hall⟩ := hrel
    by_cases hlt : k < n
    · have k1 : k < l.length := by rw [L.out]; exact hlt
      have e1 := G1.out k hlt
      obtain ⟨p, hp1⟩ : ∃ p, l[k] = p := ⟨_, rfl⟩
      rw [hp1] at e1
      have hpm : Hid (p ∈ l) := by rw [← hp1]; exact List.getElem_mem k1
      have hc := W_hid (hcomp.out p hpm.out)
      have hnext : Hid (PM.comp p = true → ∀ x ∈ l.take (k + 1), PM.comp x = true) := by
        intro hcp x hx
        rw [PM.take_snoc l k k1, hp1] at hx
        rcases List.mem_append.1 hx with hx | hx
        · exact hall.out x hx
        · rw [List.mem_singleton.1 hx]; exact hcp
      clear hp1 hall
      cases hcp : PM.comp p with
      | true =>
        have hc' : Hid (∀ w, Calls Try.prog 23 #[.string p] w fun e w' => e = .returned (.bool true) ∧ w = w') := by
          have := hc.out; rw [hcp] at this; exact this
        have hnext' := W_hid (hnext.out hcp)
        have hps : p.size ≤ 32 := ((PM.comp_iff p).1 hcp).1.2
        clear hcp hc hnext
        by_cases h257 : k = 257
        · have hv := W_hid (hmany.out (by omega))
          subst h257
          go_wp2_with fail
          refine (hc'.out _).mono ?_
          rintro e w' ⟨rfl, rfl⟩
          go_wp2_with fail
          go_ret
          exact ⟨ret_bool hv.out.symm, bb⟩
        · have hk3 : k ≤ 256 := by omega
          have hk4 : decide (256 < (k : Int)) = false := by simp; omega
          go_wp2_with fail
          refine (hc'.out _).mono ?_
          rintro e w' ⟨rfl, rfl⟩
          go_wp2_with fail
          go_round
          case rel => exact ⟨k + 1, s + p.size, by omega, by omega, by go_num, by go_num, by omega, hnext'⟩
          case measure => simp [intOf]; omega
      | false =>
        have hc' : Hid (∀ w, Calls Try.prog 23 #[.string p] w fun e w' => e = .returned (.bool false) ∧ w = w') := by
          have := hc.out; rw [hcp] at this; exact this
        have hv := W_hid (hno.out p hpm.out hcp)
        clear hcp hc hnext
        go_wp2_with fail
        refine (hc'.out _).mono ?_
        rintro e w' ⟨rfl, rfl⟩
        go_wp2_with fail
        go_ret
        exact ⟨ret_bool hv.out.symm, bb⟩
    · obtain rfl : k = n := by omega
      have hall' : Hid (∀ x ∈ l, PM.comp x = true) := by
        have := hall.out
        rw [List.take_of_length_le (by rw [L.out]; exact Nat.le_refl _)] at this
        exact this
      have hv := W_hid (hyes.out hall'.out)
      have hs := W_hid (hform.out (by have := PM.tot_le l hall'.out; have := L.out; omega))
      have hl : Hid ((PM.str (PM.text a l d)).size = PM.plen a l d) := by rw [PM.str_size]; exact PM.text_length a l d
      have hl2 : (PM.str (PM.text a l d)).size ≤ 100000 := by
        have := hl.out
        have := PM.tot_le l hall'.out; have := L.out
        have h3 : PM.plen a l d ≤ PM.tot l + 2 := by unfold PM.plen; split <;> split <;> omega
        omega
      clear hall hyes hform hno hcomp hmany
      generalize PM.str (PM.text a l d) = t at *
      go_wp2_with fail
      refine hs.out.mono ?_
      rintro e w' ⟨rfl, bel⟩
      go_wp2_with fail
      go_ret
      exact ⟨ret_bool (by rw [hv.out, ← hl.out]; exact decide_eq_decide.2 (by omega)), bb.trans (bel.mono bb.size)⟩

end Go.Proofs.Ytfageibidikppaa

/- Extents in memory: a slice value that reads as a list of extents; a struct's two cells; contracts of end, fits, valid, endsBy, count. -/
import Derived.Test.YtieneehpijilpaaOwn
import Derived.Test.YtieneehpijilpaaExtMath
namespace Go.Proofs.Ytieneehpijilpaa
open Go.ChangeShapes Go.WideShapes Go.ChangeAt Go.RowKit
set_option linter.unusedVariables false
set_option linter.unusedSimpArgs false


/-- A list of extents, as cells. -/
def ecl (l : List (Int × ByteArray)) : List Value := l.flatMap fun x => [Value.int .i64 x.1, Value.string x.2]
theorem ecl_cons (x : Int × ByteArray) (r : List (Int × ByteArray)) : ecl (x :: r) = .int .i64 x.1 :: .string x.2 :: ecl r := by simp [ecl]
theorem ecl_length (l : List (Int × ByteArray)) : (ecl l).length = l.length * 2 := by
  induction l with
  | nil => rfl
  | cons x r ih => rw [ecl_cons]; simp only [List.length_cons, ih]; omega
theorem ecl_append (a b : List (Int × ByteArray)) : ecl (a ++ b) = ecl a ++ ecl b := by simp [ecl]
theorem ecl_one (l : List (Int × ByteArray)) : ∀ u ∈ ecl l, u.oneCell' = true := by
  intro u hu
  obtain ⟨x, _, hx⟩ := List.mem_flatMap.1 hu
  simp only [List.mem_cons, List.not_mem_nil, or_false] at hx
  rcases hx with rfl | rfl <;> rfl
theorem ecl_take (l : List (Int × ByteArray)) (k : Nat) : (ecl l).take (k * 2) = ecl (l.take k) := by
  induction l generalizing k with
  | nil => simp [ecl]
  | cons x r ih =>
    cases k with
    | zero => simp [ecl]
    | succ k => rw [Nat.succ_mul, ecl_cons, List.take_succ_cons, List.take_succ_cons, List.take_succ_cons, ecl_cons, ih]
theorem ecl_get (l : List (Int × ByteArray)) (j : Nat) (h : j < l.length) : (ecl l)[j * 2]? = some (.int .i64 l[j].1) ∧ (ecl l)[j * 2 + 1]? = some (.string l[j].2) := by
  induction l generalizing j with
  | nil => simp at h
  | cons x r ih =>
    cases j with
    | zero => rw [ecl_cons]; exact ⟨rfl, rfl⟩
    | succ j =>
      have := ih j (by simpa using h)
      rw [Nat.succ_mul, ecl_cons]
      exact this

/-- A slice value of length n reads as the extents l in world w. -/
def XS (w : World) (ao : Option Addr) (n cap : Nat) (l : List (Int × ByteArray)) : Prop :=
  l.length = n ∧ n ≤ cap ∧ cap ≤ maxLen ∧ (ao = none → cap = 0) ∧ ∀ a, ao = some a → ∀ j u, (ecl l)[j]? = some u → w.cell? (a.add j) = some u
section
variable {w w' : World} {ao : Option Addr} {n cap : Nat} {l : List (Int × ByteArray)}
theorem XS.below (h : XS w ao n cap l) {B : Nat} (hb : Below B w w') (hB : w.heap.size ≤ B) : XS w' ao n cap l := by
  refine ⟨h.1, h.2.1, h.2.2.1, h.2.2.2.1, fun a ha j u hu => ?_⟩
  have hc := h.2.2.2.2 a ha j u hu
  rw [hb.cell (Nat.lt_of_lt_of_le (World.block_lt_of_cell? w _ hc) hB)]
  exact hc
theorem XS.nil (w : World) : XS w none 0 0 [] := ⟨rfl, Nat.le_refl _, Nat.zero_le _, fun _ => rfl, fun _ h => by cases h⟩
theorem XS.alloc (h : XS w ao n cap l) (o : Obj) : XS (w.alloc o) ao n cap l := h.below (Below.alloc (Below.refl _ _) (Nat.le_refl _) o) (Nat.le_refl _)
/-- What is owned reads so. -/
theorem XS_own {base e : Nat} (h : w.ownsRow base e 2 (.slice ao n cap) n (ecl l)) : XS w ao n cap l := by
  have hl : l.length = n := by have := h.1; rw [ecl_length] at this; omega
  rcases h.2 with ⟨h', h''⟩ | ⟨g', cap', cur, h', hb, hg, hnc, hcm, _⟩
  · simp only [Value.slice.injEq] at h'
    obtain ⟨rfl, rfl, rfl⟩ := h'
    obtain rfl := List.eq_nil_of_length_eq_zero hl
    exact XS.nil w
  · simp only [Value.slice.injEq, true_and] at h'
    obtain ⟨rfl, rfl⟩ := h'
    refine ⟨hl, hnc, hcm, (fun h => by cases h), fun a ha j u hu => ?_⟩
    obtain rfl := Option.some.inj ha
    exact h.cells (g := g') rfl j u hu
theorem XS.at_ (h : XS w ao n cap l) (hn : 0 < n) : ∃ blk off, ao = some ⟨blk, off, none⟩ ∧ ∀ j, (hj : j < n) → w.cell? ⟨blk, off + j * 2, none⟩ = some (.int .i64 (l[j]'(by rw [h.1]; exact hj)).1) ∧ w.cell? ⟨blk, off + j * 2 + 1, none⟩ = some (.string (l[j]'(by rw [h.1]; exact hj)).2) := by
  obtain ⟨hl, h1, h2, h3, h4⟩ := h
  cases ao with
  | none => have := h3 rfl; omega
  | some a =>
    have hcell : ∀ j, (hj : j < n) → w.cell? (a.add (j * 2)) = some (.int .i64 (l[j]'(by rw [hl]; exact hj)).1) ∧ w.cell? (a.add (j * 2 + 1)) = some (.string (l[j]'(by rw [hl]; exact hj)).2) := fun j hj => by
      obtain ⟨e1, e2⟩ := ecl_get l j (by rw [hl]; exact hj)
      exact ⟨h4 a rfl _ _ e1, h4 a rfl _ _ e2⟩
    obtain ⟨b, off, spot⟩ := a
    have h0 := (hcell 0 hn).1
    have hs : spot = none := by simpa [Addr.add] using World.cell?_spot h0
    subst hs
    exact ⟨b, off, rfl, fun j hj => by have := hcell j hj; rwa [Addr.add_lit, Addr.add_lit, ← Nat.add_assoc] at this⟩
end

/-- A struct's two cells, in a block of their own. -/
def XB (w : World) (g : Nat) (x : Int × ByteArray) : Prop := w.heap[g]? = some (.cells #[.int .i64 x.1, .string x.2] 94 (0, 0))
section
variable {w w' : World} {g : Nat} {x : Int × ByteArray}
theorem XB.c0 (h : XB w g x) : w.cell? ⟨g, 0, none⟩ = some (.int .i64 x.1) := by rw [cell_of_row w g 0 _ _ _ h]; rfl
theorem XB.c1 (h : XB w g x) : w.cell? ⟨g, 1, none⟩ = some (.string x.2) := by rw [cell_of_row w g 1 _ _ _ h]; rfl
theorem XB.lt (h : XB w g x) : g < w.heap.size := by
  rcases Nat.lt_or_ge g w.heap.size with hlt | hge
  · exact hlt
  · unfold XB at h; rw [Array.getElem?_eq_none hge] at h; cases h
theorem XB.below {B : Nat} (h : XB w g x) (hb : Below B w w') (hg : g < B) : XB w' g x := (hb.block g hg).trans h
theorem XB.alloc (h : XB w g x) (o : Obj) : XB (w.alloc o) g x := (Below.heap_alloc w o g h.lt).trans h
theorem XB.grown {row : Option Nat} (h : XB w g x) (hb : w.grownBy w' row) (hg : some g ≠ row) : XB w' g x := (hb.block g h.lt hg).trans h
theorem XB.new {y : Nat} (w : World) (a : Int) (d : ByteArray) (hx : y = w.heap.size) : XB (w.alloc (.cells #[.int .i64 a, .string d] 94)) y (a, d) := by subst hx; exact heap_alloc_new w _
end

/-- A number between these is one that int64 holds. -/
def I64 (a : Int) : Prop := -9223372036854775808 ≤ a ∧ a ≤ 9223372036854775807

set_option maxRecDepth 100000 in
set_option maxHeartbeats 400000 in
theorem end_any (a : Int) (d : ByteArray) (w : World) (h1 : -9223372036854775808 ≤ a) (h2 : a + d.size ≤ 9223372036854775807) :
    Calls Try.prog 69 #[.agg #[.int .i64 a, .string d]] w fun e w' => e = .returned (.int .i64 (a + d.size)) ∧ Below w.heap.size w w' := by
  have bb : Below w.heap.size w (w.alloc (.cells #[.int .i64 a, .string d] 94)) := (Below.refl _ _).alloc (Nat.le_refl _) _
  go_enter Try.func69, Try.ntmps69
  go_wp2_with fail
  go_ret
  exact ⟨rfl, bb⟩

set_option maxRecDepth 100000 in
set_option maxHeartbeats 400000 in
theorem fits_any (a : Int) (d : ByteArray) (w : World) (h1 : I64 a) (h2 : d.size ≤ maxLen) :
    Calls Try.prog 67 #[.int .i64 a, .string d] w fun e w' => e = .returned (.bool (decide (a + d.size ≤ 1048576))) ∧ w = w' := by
  obtain ⟨h3, h4⟩ := h1
  unfold maxLen at h2
  go_enter Try.func67, Try.ntmps67
  go_wp2_with fail
  go_ret
  exact ⟨ret_bool (decide_eq_decide.2 (by omega)), rfl⟩

theorem xempty {s : ByteArray} (h : s.size = 0) : s.toList = [] ∧ s.toList.isEmpty = true := by
  have : s.data.toList = [] := List.eq_nil_of_length_eq_zero (by rw [EM.list_size]; exact h)
  rw [ByteArray.toList_eq, this]; exact ⟨rfl, rfl⟩
theorem xfull {s : ByteArray} (h : s.size ≠ 0) : (s.toList = []) = False ∧ s.toList.isEmpty = false := by
  have hl := EM.list_size s
  rw [ByteArray.toList_eq]
  cases he : s.data.toList with
  | nil => rw [he] at hl; exact absurd hl.symm h
  | cons c r => exact ⟨by simp, rfl⟩

/-- What is asked of extents: numbers that int64 holds, bytes that memory holds. -/
def XFit (l : List (Int × ByteArray)) : Prop := ∀ x ∈ l, I64 x.1 ∧ x.2.size ≤ maxLen

set_option maxRecDepth 100000 in
set_option maxHeartbeats 1000000 in
theorem xvalid_any (ao : Option Addr) (n cap : Nat) (l : List (Int × ByteArray)) (w : World) (h : XS w ao n cap l) (hf : XFit l) :
    Calls Try.prog 64 #[.slice ao n cap] w fun e w' => e = .returned (.bool (EM.ok 0 l)) ∧ Below w.heap.size w w' := by
  have hn : n ≤ 9223372036854775807 := by have := h.2.1; have := h.2.2.1; unfold maxLen at *; omega
  have L := W_hid h.1
  have hfit := W_hid hf
  have hno := W_hid (fun k hk h => @EM.ok_no 0 l k hk h)
  have hgo := W_hid (fun k hk h => @EM.ok_next 0 l k hk h)
  have hle := W_hid (fun k (h : EM.ok 0 (l.take k) = true) => EM.nxt_le h (by decide))
  have H := W_hid h
  clear h hf
  go_enter Try.func64, Try.ntmps64
  go_wp2_with fail
  go_loopw [3, 8] (fun f i wr => ∃ (k : Nat) (b : Int), k ≤ n ∧ i = .int .i64 k ∧ f = .int .i64 b ∧ Hid (EM.ok 0 (l.take k) = true ∧ EM.nxt 0 (l.take k) = b) ∧ Below w.heap.size w wr) (fun _ i _ => n - (intOf i).toNat)
  case atStart => exact ⟨0, 0, Nat.zero_le _, rfl, rfl, W_hid ⟨rfl, rfl⟩, Below.refl _ _⟩
  case round =>
    obtain ⟨k, b, hk, rfl, rfl, hok, bel⟩ := hrel
    obtain ⟨hb0, hb1⟩ : 0 ≤ b ∧ b ≤ 1048577 := by have := hle.out k hok.out.1; rw [hok.out.2] at this; exact this
    by_cases hlt : k < n
    · obtain ⟨b1, o1, rfl, g1⟩ := (H.out.below bel (Nat.le_refl _)).at_ (by omega)
      have k1 : k < l.length := by rw [L.out]; exact hlt
      obtain ⟨e1, e2⟩ := g1 k hlt
      have hft := hfit.out l[k] (List.getElem_mem k1)
      have hno := W_hid (hno.out k k1)
      have hgo := W_hid (hgo.out k k1)
      obtain ⟨⟨a, d⟩, hx⟩ : ∃ x, l[k] = x := ⟨_, rfl⟩
      simp only [hx] at e1 e2 hft hno hgo
      obtain ⟨⟨ha1, ha2⟩, hd⟩ := hft
      clear hx g1 k1
      by_cases h0 : d.size = 0
      · obtain ⟨s1, s2⟩ := xempty h0
        have hh : Hid (EM.ok 0 l = false) := hno.out (.inl h0)
        clear hno hgo h0
        go_wp2_with fail
        go_ret
        exact ⟨ret_bool hh.out.symm, bel.alloc bel.size _⟩
      obtain ⟨s1, s2⟩ := xfull h0
      by_cases h1 : a < b
      · have hh : Hid (EM.ok 0 l = false) := hno.out (.inr (.inl (by rw [hok.out.2]; exact h1)))
        clear hno hgo h0
        go_wp2_with fail
        go_ret
        exact ⟨ret_bool hh.out.symm, bel.alloc bel.size _⟩
      by_cases h2 : a + d.size ≤ 1048576
      · have hc : Hid (∀ w, Calls Try.prog 67 #[.int .i64 a, .string d] w fun e w' => e = .returned (.bool true) ∧ w = w') := by
          intro w
          have := fits_any a d w ⟨ha1, ha2⟩ hd
          rwa [decide_eq_true h2] at this
        have hend := W_hid (fun w => end_any a d w ha1 (by omega))
        have hnx := W_hid (hgo.out hok.out.1 (by omega) (by rw [hok.out.2]; show b ≤ a; omega) h2)
        clear hno hgo h0
        go_wp2_with fail
        refine (hc.out _).mono ?_
        rintro e w' ⟨rfl, rfl⟩
        go_wp2_with fail
        refine (hend.out _).mono ?_
        rintro e w2 ⟨rfl, bel2⟩
        have bel3 := bel.alloc bel.size (.cells #[.int .i64 a, .string d] 94)
        go_wp2_with fail
        go_roundw
        case rel => exact ⟨k + 1, a + d.size + 1, by omega, by go_num, rfl, hnx, bel3.trans (bel2.mono bel3.size)⟩
        case measure => simp [intOf]; omega
      · have hc : Hid (∀ w, Calls Try.prog 67 #[.int .i64 a, .string d] w fun e w' => e = .returned (.bool false) ∧ w = w') := by
          intro w
          have := fits_any a d w ⟨ha1, ha2⟩ hd
          rwa [decide_eq_false h2] at this
        have hh : Hid (EM.ok 0 l = false) := hno.out (.inr (.inr (by show (1048576 : Int) < a + d.size; omega)))
        clear hno hgo h0
        go_wp2_with fail
        refine (hc.out _).mono ?_
        rintro e w' ⟨rfl, rfl⟩
        go_wp2_with fail
        go_ret
        exact ⟨ret_bool hh.out.symm, bel.alloc bel.size _⟩
    · obtain rfl : k = n := by omega
      have hh : Hid (EM.ok 0 l = true) := by
        have := hok.out.1
        rwa [List.take_of_length_le (by rw [L.out]; exact Nat.le_refl _)] at this
      clear hok hno hgo
      go_wp2_with fail
      go_ret
      exact ⟨ret_bool hh.out.symm, bel⟩

set_option maxRecDepth 100000 in
set_option maxHeartbeats 1000000 in
theorem count_any (ao : Option Addr) (n cap : Nat) (l : List (Int × ByteArray)) (w : World) (h : XS w ao n cap l) (hc : EM.cnt l ≤ 4611686018427387904) :
    Calls Try.prog 89 #[.slice ao n cap] w fun e w' => e = .returned (.int .i64 (EM.cnt l)) ∧ Below w.heap.size w w' := by
  have hn : n ≤ 9223372036854775807 := by have := h.2.1; have := h.2.2.1; unfold maxLen at *; omega
  have L := W_hid h.1
  have H := W_hid h
  have hle := W_hid (fun k => Nat.le_trans (EM.cnt_take l k) hc)
  clear h hc
  go_enter Try.func89, Try.ntmps89
  go_wp2_with fail
  go_loopw [3, 8] (fun f i wr => ∃ (k b : Nat), k ≤ n ∧ i = .int .i64 k ∧ f = .int .i64 b ∧ Hid (EM.cnt (l.take k) = b) ∧ Below w.heap.size w wr) (fun _ i _ => n - (intOf i).toNat)
  case atStart => exact ⟨0, 0, Nat.zero_le _, rfl, rfl, W_hid rfl, Below.refl _ _⟩
  case round =>
    obtain ⟨k, b, hk, rfl, rfl, hok, bel⟩ := hrel
    by_cases hlt : k < n
    · obtain ⟨b1, o1, rfl, g1⟩ := (H.out.below bel (Nat.le_refl _)).at_ (by omega)
      have k1 : k < l.length := by rw [L.out]; exact hlt
      obtain ⟨e1, e2⟩ := g1 k hlt
      have hnext : Hid (EM.cnt (l.take (k + 1)) = b + l[k].2.size) := by
        show _ = _
        rw [EM.take_snoc l k k1, EM.cnt_append, EM.cnt_one, hok.out]
      have hbb : b + l[k].2.size ≤ 4611686018427387904 := by rw [← hnext.out]; exact hle.out _
      obtain ⟨⟨a, d⟩, hx⟩ : ∃ x, l[k] = x := ⟨_, rfl⟩
      simp only [hx] at e1 e2 hnext hbb
      clear hx g1 k1 hok
      have bel3 := bel.alloc bel.size (.cells #[.int .i64 a, .string d] 94)
      go_wp2_with fail
      go_roundw
      case rel => exact ⟨k + 1, b + d.size, by omega, by go_num, by go_num, hnext, bel3⟩
      case measure => simp [intOf]; omega
    · obtain rfl : k = n := by omega
      have hh : Hid (EM.cnt l = b) := by
        have := hok.out
        rwa [List.take_of_length_le (by rw [L.out]; exact Nat.le_refl _)] at this
      clear hok
      go_wp2_with fail
      go_ret
      exact ⟨ret_int (by rw [hh.out]), bel⟩

/-- Where a valid list ends: 0, if it is empty. -/
def ends : List (Int × ByteArray) → Int
  | [] => 0
  | x :: r => EM.nxt 0 (x :: r) - 1

set_option maxRecDepth 100000 in
set_option maxHeartbeats 1000000 in
theorem endsBy_any (ao : Option Addr) (n cap : Nat) (l : List (Int × ByteArray)) (s : Int) (w : World) (h : XS w ao n cap l) (hv : EM.ok 0 l = true) (hs : 0 ≤ s ∧ s ≤ 1048576) :
    Calls Try.prog 65 #[.slice ao n cap, .int .i64 s] w fun e w' => e = .returned (.bool (decide (ends l ≤ s))) ∧ Below w.heap.size w w' := by
  have hn : n ≤ 9223372036854775807 := by have := h.2.1; have := h.2.2.1; unfold maxLen at *; omega
  rcases List.eq_nil_or_concat l with rfl | ⟨q, ⟨a, d⟩, rfl⟩
  · have hl := h.1
    simp only [List.length_nil] at hl
    subst hl
    have hh : Hid (decide (ends [] ≤ s) = true) := W_hid (decide_eq_true (show ends [] ≤ s from hs.1))
    clear h hv hs
    go_enter Try.func65, Try.ntmps65
    go_wp2_with fail
    go_ret
    exact ⟨ret_bool hh.out.symm, Below.refl _ _⟩
  · rw [List.concat_eq_append] at *
    have hl := h.1
    rw [List.length_append, List.length_cons, List.length_nil] at hl
    subst hl
    obtain ⟨b1, o1, rfl, g1⟩ := h.at_ (by omega)
    obtain ⟨e1, e2⟩ := g1 q.length (by omega)
    simp only [List.getElem_append_right (Nat.le_refl q.length), Nat.sub_self, List.getElem_cons_zero] at e1 e2
    obtain ⟨-, o0, o2, o3⟩ := EM.ok_at hv q.length (by simp)
    simp only [List.getElem_append_right (Nat.le_refl q.length), Nat.sub_self, List.getElem_cons_zero, List.take_left'] at o0 o2 o3
    have o4 : 0 ≤ a := by
      have hq : EM.ok 0 q = true := by
        have := hv; rw [EM.ok_append, Bool.and_eq_true] at this; exact this.1
      have := (EM.nxt_le hq (by decide)).1
      have : EM.nxt 0 q ≤ a := o2
      omega
    have o5 : a + d.size ≤ 1048576 := o3
    have hh : Hid (decide (ends (q ++ [(a, d)]) ≤ s) = decide (a + d.size ≤ s)) := by
      have : ends (q ++ [(a, d)]) = a + d.size := by
        have e : EM.nxt 0 (q ++ [(a, d)]) = a + d.size + 1 := EM.nxt_snoc 0 q (a, d)
        cases hq : q ++ [(a, d)] with
        | nil => simp at hq
        | cons x r => rw [hq] at e; show EM.nxt 0 (x :: r) - 1 = _; omega
      show _ = _
      rw [this]
    have hend := W_hid (fun w => end_any a d w (by omega) (by omega))
    have n1 : ((q.length : Int) + 1 == 0) = false := by simp; omega
    have n2 : ((q.length : Int) + 1 - 1) = q.length := by omega
    clear h hv g1 o0 o2 o3
    go_enter Try.func65, Try.ntmps65
    go_wp2_with fail
    refine (hend.out _).mono ?_
    rintro e w2 ⟨rfl, bel2⟩
    go_wp2_with fail
    go_ret
    exact ⟨ret_bool (by rw [hh.out]), bel2⟩

end Go.Proofs.Ytieneehpijilpaa

/- Regions in memory: a slice value that reads as a list of regions; a struct's four cells; contracts of the small functions and of valid. -/
import Derived.Test.YtfbhcnamkojboaaBlk
import Derived.Test.YtfbhcnamkojboaaOwn
import Derived.Test.YtfbhcnamkojboaaRegMath
namespace Go.Proofs.Ytfbhcnamkojboaa
open Go.ChangeShapes Go.WideShapes Go.ChangeAt Go.RowKit
set_option linter.unusedVariables false
set_option linter.unusedSimpArgs false
open RG (Rg)

/-- A region's four cells. -/
def rv (r : Rg) : List Value := [.int .u64 (r.f : Int), .int .u64 (r.t : Int), .int .i64 r.p, .int .i64 r.k]
def ra (r : Rg) : Value := .agg #[.int .u64 (r.f : Int), .int .u64 (r.t : Int), .int .i64 r.p, .int .i64 r.k]
def rcl (l : List Rg) : List Value := l.flatMap rv
theorem rcl_cons (x : Rg) (r : List Rg) : rcl (x :: r) = rv x ++ rcl r := by simp [rcl]
theorem rcl_length (l : List Rg) : (rcl l).length = l.length * 4 := by
  induction l with
  | nil => rfl
  | cons x r ih => rw [rcl_cons]; simp only [List.length_cons, List.length_append, ih, rv, List.length_nil]; omega
theorem rcl_append (a b : List Rg) : rcl (a ++ b) = rcl a ++ rcl b := by simp [rcl]
theorem rcl_single (r : Rg) : rcl [r] = rv r := by simp [rcl]
theorem rcl_one (l : List Rg) : ∀ u ∈ rcl l, u.oneCell' = true := by
  intro u hu
  obtain ⟨x, _, hx⟩ := List.mem_flatMap.1 hu
  simp only [rv, List.mem_cons, List.not_mem_nil, or_false] at hx
  rcases hx with rfl | rfl | rfl | rfl <;> rfl
theorem rcl_take (l : List Rg) (k : Nat) : (rcl l).take (k * 4) = rcl (l.take k) := by
  induction l generalizing k with
  | nil => simp [rcl]
  | cons x r ih =>
    cases k with
    | zero => simp [rcl]
    | succ k => rw [Nat.succ_mul, Nat.add_comm, rcl_cons, List.take_succ_cons, rcl_cons, ← ih, show 4 + k * 4 = (rv x).length + k * 4 from rfl, List.take_length_add_append]
theorem rcl_get (l : List Rg) (j : Nat) (h : j < l.length) : (rcl l)[j * 4]? = some (.int .u64 (l[j].f : Int)) ∧ (rcl l)[j * 4 + 1]? = some (.int .u64 (l[j].t : Int)) ∧ (rcl l)[j * 4 + 2]? = some (.int .i64 l[j].p) ∧ (rcl l)[j * 4 + 3]? = some (.int .i64 l[j].k) := by
  induction l generalizing j with
  | nil => simp at h
  | cons x r ih =>
    cases j with
    | zero => rw [rcl_cons]; exact ⟨rfl, rfl, rfl, rfl⟩
    | succ j =>
      have := ih j (by simpa using h)
      rw [Nat.succ_mul, rcl_cons]
      exact this

/-- A slice value of length n reads as the regions l in world w. -/
def RS (w : World) (ao : Option Addr) (n cap : Nat) (l : List Rg) : Prop :=
  l.length = n ∧ n ≤ cap ∧ cap ≤ maxLen ∧ (ao = none → cap = 0) ∧ ∀ a, ao = some a → ∀ j u, (rcl l)[j]? = some u → w.cell? (a.add j) = some u
/-- Element j of a row that begins at a cell. -/
abbrev RE (w : World) (b o : Nat) (r : Rg) : Prop := w.cell? ⟨b, o, none⟩ = some (.int .u64 (r.f : Int)) ∧ w.cell? ⟨b, o + 1, none⟩ = some (.int .u64 (r.t : Int)) ∧ w.cell? ⟨b, o + 2, none⟩ = some (.int .i64 r.p) ∧ w.cell? ⟨b, o + 3, none⟩ = some (.int .i64 r.k)
section
variable {w w' : World} {ao : Option Addr} {n cap : Nat} {l : List Rg}
theorem RS.below (h : RS w ao n cap l) {B : Nat} (hb : Below B w w') (hB : w.heap.size ≤ B) : RS w' ao n cap l := by
  refine ⟨h.1, h.2.1, h.2.2.1, h.2.2.2.1, fun a ha j u hu => ?_⟩
  have hc := h.2.2.2.2 a ha j u hu
  rw [hb.cell (Nat.lt_of_lt_of_le (World.block_lt_of_cell? w _ hc) hB)]
  exact hc
theorem RS.nil (w : World) : RS w none 0 0 [] := ⟨rfl, Nat.le_refl _, Nat.zero_le _, fun _ => rfl, fun _ h => by cases h⟩
theorem RS.alloc (h : RS w ao n cap l) (o : Obj) : RS (w.alloc o) ao n cap l := h.below (Below.alloc (Below.refl _ _) (Nat.le_refl _) o) (Nat.le_refl _)
theorem RS_own {base e : Nat} (h : w.ownsRow base e 4 (.slice ao n cap) n (rcl l)) : RS w ao n cap l := by
  have hl : l.length = n := by have := h.1; rw [rcl_length] at this; omega
  rcases h.2 with ⟨h', h''⟩ | ⟨g', cap', cur, h', hb, hg, hnc, hcm, _⟩
  · simp only [Value.slice.injEq] at h'
    obtain ⟨rfl, rfl, rfl⟩ := h'
    obtain rfl := List.eq_nil_of_length_eq_zero hl
    exact RS.nil w
  · simp only [Value.slice.injEq, true_and] at h'
    obtain ⟨rfl, rfl⟩ := h'
    refine ⟨hl, hnc, hcm, (fun h => by cases h), fun a ha j u hu => ?_⟩
    obtain rfl := Option.some.inj ha
    exact h.cells (g := g') rfl j u hu
theorem RS.at_ (h : RS w ao n cap l) (hn : 0 < n) : ∃ blk off, ao = some ⟨blk, off, none⟩ ∧ blk < w.heap.size ∧ ∀ j, (hj : j < n) → RE w blk (off + j * 4) (l[j]'(by rw [h.1]; exact hj)) := by
  obtain ⟨hl, h1, h2, h3, h4⟩ := h
  cases ao with
  | none => have := h3 rfl; omega
  | some a =>
    have hcell : ∀ j, (hj : j < n) → w.cell? (a.add (j * 4)) = some (.int .u64 ((l[j]'(by rw [hl]; exact hj)).f : Int)) ∧ w.cell? (a.add (j * 4 + 1)) = some (.int .u64 ((l[j]'(by rw [hl]; exact hj)).t : Int)) ∧
        w.cell? (a.add (j * 4 + 2)) = some (.int .i64 (l[j]'(by rw [hl]; exact hj)).p) ∧ w.cell? (a.add (j * 4 + 3)) = some (.int .i64 (l[j]'(by rw [hl]; exact hj)).k) := fun j hj => by
      obtain ⟨e1, e2, e3, e4⟩ := rcl_get l j (by rw [hl]; exact hj)
      exact ⟨h4 a rfl _ _ e1, h4 a rfl _ _ e2, h4 a rfl _ _ e3, h4 a rfl _ _ e4⟩
    obtain ⟨b, off, spot⟩ := a
    have h0 := (hcell 0 hn).1
    have hs : spot = none := by simpa [Addr.add] using World.cell?_spot h0
    subst hs
    refine ⟨b, off, rfl, cell_lt h0, fun j hj => ?_⟩
    obtain ⟨c0, c1, c2, c3⟩ := hcell j hj
    rw [Addr.add_lit] at c0 c1 c2 c3
    rw [← Nat.add_assoc] at c1 c2 c3
    exact ⟨c0, c1, c2, c3⟩
theorem RE.of {b o : Nat} {r : Rg} (h : RE w b o r) (he : w'.heap[b]? = w.heap[b]?) : RE w' b o r := by
  unfold RE at h ⊢
  rw [World.cell?_of_block (w := w) (a := ⟨b, o, none⟩) he, World.cell?_of_block (w := w) (a := ⟨b, o + 1, none⟩) he, World.cell?_of_block (w := w) (a := ⟨b, o + 2, none⟩) he, World.cell?_of_block (w := w) (a := ⟨b, o + 3, none⟩) he]
  exact h
end
/-- A struct's four cells, in a block of their own. -/
abbrev RB (w : World) (g : Nat) (r : Rg) : Prop := Blk w g 25 (rv r)
theorem RB.re {w : World} {g : Nat} {r : Rg} (h : RB w g r) : RE w g 0 r := ⟨h.cell (j := 0) rfl, h.cell (j := 1) rfl, h.cell (j := 2) rfl, h.cell (j := 3) rfl⟩

/-- What is asked of regions: numbers that their types hold. -/
def RFit1 (r : Rg) : Prop := r.f < 18446744073709551616 ∧ r.t < 18446744073709551616 ∧ (-9223372036854775808 ≤ r.p ∧ r.p ≤ 9223372036854775807) ∧ -9223372036854775808 ≤ r.k ∧ r.k ≤ 9223372036854775807
def RFit (l : List Rg) : Prop := ∀ r ∈ l, RFit1 r
theorem good_fit {r : Rg} (h : RG.good r) : RFit1 r := by
  obtain ⟨⟨h1, h2, h3, h4⟩, ⟨h5, h6⟩, h7, h8⟩ := h
  unfold RFit1
  omega
theorem ok_fit {s : Bool} {x : Option Rg} {l : List Rg} (h : RG.Ok s x l) : RFit l := fun r hr => good_fit (h.good_of r hr)

/-- The call leaves all that was there, and gives v. -/
abbrev Gv (f : FuncId) (args : Array Value) (v : Value) (w : World) : Prop := Calls Try.prog f args w fun e w' => e = .returned v ∧ Below w.heap.size w w'
theorem RE.keep {w w' : World} {b o : Nat} {r : Rg} (h : RE w b o r) (hb : Below w.heap.size w w') : RE w' b o r := h.of (hb.block b (cell_lt h.1))
/-- Such a call keeps what is read of regions. -/
theorem Gv.held {f : FuncId} {args : Array Value} {v : Value} {w : World} (h : Gv f args v w) {b o : Nat} {r : Rg} (hr : RE w b o r) : Calls Try.prog f args w fun e w' => e = .returned v ∧ Below w.heap.size w w' ∧ RE w' b o r :=
  h.mono fun e w' hh => ⟨hh.1, hh.2, hr.keep hh.2⟩
theorem Gv.held2 {f : FuncId} {args : Array Value} {v : Value} {w : World} (h : Gv f args v w) {b o b' o' : Nat} {r r' : Rg} (hr : RE w b o r) (hr' : RE w b' o' r') : Calls Try.prog f args w fun e w' => e = .returned v ∧ Below w.heap.size w w' ∧ RE w' b o r ∧ RE w' b' o' r' :=
  h.mono fun e w' hh => ⟨hh.1, hh.2, hr.keep hh.2, hr'.keep hh.2⟩

set_option maxRecDepth 100000 in
set_option maxHeartbeats 400000 in
theorem common_any (a b c d : Nat) (w : World) :
    Calls Try.prog 37 #[.int .u64 (a : Int), .int .u64 (b : Int), .int .u64 (c : Int), .int .u64 (d : Int)] w fun e w' => e = .returned (.tuple #[.int .u64 ((max a c : Nat) : Int), .int .u64 ((min b d : Nat) : Int)]) ∧ w = w' := by
  obtain ⟨A, hA⟩ : ∃ A : Int, (if (a : Int) < c then (c : Int) else a) = A := ⟨_, rfl⟩
  obtain ⟨B, hB⟩ : ∃ B : Int, (if (d : Int) < b then (d : Int) else b) = B := ⟨_, rfl⟩
  have HA : Hid (A = ((max a c : Nat) : Int)) := by show _ = _; rw [← hA]; split <;> omega
  have HB : Hid (B = ((min b d : Nat) : Int)) := by show _ = _; rw [← hB]; split <;> omega
  simp only [Int.ofNat_lt] at hA hB
  go_enter Try.func37, Try.ntmps37
  go_wp2_with fail
  go_ret2
  exact ⟨by rw [HA.out, HB.out]; rfl, rfl⟩

set_option maxRecDepth 100000 in
set_option maxHeartbeats 400000 in
theorem gPerm_any (p : Int) (w : World) :
    Calls Try.prog 30 #[.int .i64 p] w fun e w' => e = .returned (.bool (decide (RG.isPerm p))) ∧ w = w' := by
  by_cases h1 : 1 ≤ p
  · have hh : Hid (decide (RG.isPerm p) = decide (p ≤ 7)) := by
      show _ = _
      unfold RG.isPerm
      exact decide_eq_decide.2 ⟨fun h => h.2, fun h => ⟨h1, h⟩⟩
    go_enter Try.func30, Try.ntmps30
    go_wp2_with fail
    go_ret
    exact ⟨by rw [hh.out]; rfl, rfl⟩
  · have hh : Hid (decide (RG.isPerm p) = false) := decide_eq_false (fun h => h1 h.1)
    go_enter Try.func30, Try.ntmps30
    go_wp2_with fail
    go_ret
    exact ⟨by rw [hh.out]; rfl, rfl⟩

set_option maxRecDepth 100000 in
set_option maxHeartbeats 400000 in
theorem isRange_any (f t : Nat) (w : World) :
    Calls Try.prog 26 #[.int .u64 (f : Int), .int .u64 (t : Int)] w fun e w' => e = .returned (.bool (decide (RG.isRange f t))) ∧ w = w' := by
  obtain ⟨F, hF⟩ : ∃ F : Int, F = f := ⟨_, rfl⟩
  obtain ⟨T, hT⟩ : ∃ T : Int, T = t := ⟨_, rfl⟩
  obtain ⟨m, hm⟩ : ∃ m, F.tmod 4096 = m := ⟨_, rfl⟩
  obtain ⟨n, hn⟩ : ∃ n, T.tmod 4096 = n := ⟨_, rfl⟩
  have e1 : m = ((f % 4096 : Nat) : Int) := by rw [← hm, hF]; rfl
  have e2 : n = ((t % 4096 : Nat) : Int) := by rw [← hn, hT]; rfl
  rw [← hF, ← hT]
  have hh : Hid (RG.isRange f t ↔ m = 0 ∧ n = 0 ∧ F < T ∧ T ≤ 140737488355328) := by
    show _ ↔ _
    unfold RG.isRange
    omega
  clear e1 e2 hF hT
  by_cases h1 : m = 0
  · by_cases h2 : n = 0
    · by_cases h3 : F < T
      · have hd : Hid (decide (RG.isRange f t) = decide (T ≤ 140737488355328)) := decide_eq_decide.2 ⟨fun h => (hh.out.1 h).2.2.2, fun h => hh.out.2 ⟨h1, h2, h3, h⟩⟩
        clear hh
        go_enter Try.func26, Try.ntmps26
        go_wp2_with fail
        go_ret
        exact ⟨by rw [hd.out]; rfl, rfl⟩
      · have hd : Hid (decide (RG.isRange f t) = false) := decide_eq_false (fun h => h3 (hh.out.1 h).2.2.1)
        clear hh
        go_enter Try.func26, Try.ntmps26
        go_wp2_with fail
        go_ret
        exact ⟨by rw [hd.out]; rfl, rfl⟩
    · have hd : Hid (decide (RG.isRange f t) = false) := decide_eq_false (fun h => h2 (hh.out.1 h).2.1)
      have q2 : (n == 0) = false := by simpa using h2
      clear hh
      go_enter Try.func26, Try.ntmps26
      go_wp2_with fail
      go_ret
      exact ⟨by rw [hd.out]; rfl, rfl⟩
  · have hd : Hid (decide (RG.isRange f t) = false) := decide_eq_false (fun h => h1 (hh.out.1 h).1)
    have q1 : (m == 0) = false := by simpa using h1
    clear hh
    go_enter Try.func26, Try.ntmps26
    go_wp2_with fail
    go_ret
    exact ⟨by rw [hd.out]; rfl, rfl⟩

set_option maxRecDepth 100000 in
set_option maxHeartbeats 1000000 in
theorem isRegion_any (f t : Nat) (p k : Int) (w : World) :
    Calls Try.prog 18 #[.agg #[.int .u64 (f : Int), .int .u64 (t : Int), .int .i64 p, .int .i64 k]] w fun e w' => e = .returned (.bool (decide (RG.good ⟨f, t, p, k⟩))) ∧ Below w.heap.size w w' := by
  have bb : Below w.heap.size w (w.alloc (.cells #[.int .u64 (f : Int), .int .u64 (t : Int), .int .i64 p, .int .i64 k] 25)) := (Below.refl _ _).alloc (Nat.le_refl _) _
  have hR := W_hid (fun w => isRange_any f t w)
  have hh : Hid (RG.good ⟨f, t, p, k⟩ ↔ RG.isRange f t ∧ RG.isPerm p ∧ 0 ≤ k ∧ k ≤ 2) := Iff.rfl
  by_cases h1 : RG.isRange f t
  · rw [decide_eq_true h1] at hR
    by_cases h2 : RG.isPerm p
    · have hP := W_hid (fun w => gPerm_any p w)
      rw [decide_eq_true h2] at hP
      by_cases h3 : 0 ≤ k
      · have hd : Hid (decide (RG.good ⟨f, t, p, k⟩) = decide (k ≤ 2)) := decide_eq_decide.2 ⟨fun h => (hh.out.1 h).2.2.2, fun h => hh.out.2 ⟨h1, h2, h3, h⟩⟩

        clear hh h1 h2
        go_enter Try.func18, Try.ntmps18
        go_wp2_with fail
        refine (hR.out _).mono ?_
        rintro e w' ⟨rfl, rfl⟩
        go_wp2_with fail
        refine (hP.out _).mono ?_
        rintro e w' ⟨rfl, rfl⟩
        go_wp2_with fail
        go_ret
        exact ⟨by rw [hd.out]; rfl, bb⟩
      · have hd : Hid (decide (RG.good ⟨f, t, p, k⟩) = false) := decide_eq_false (fun h => h3 (hh.out.1 h).2.2.1)

        clear hh h1 h2
        go_enter Try.func18, Try.ntmps18
        go_wp2_with fail
        refine (hR.out _).mono ?_
        rintro e w' ⟨rfl, rfl⟩
        go_wp2_with fail
        refine (hP.out _).mono ?_
        rintro e w' ⟨rfl, rfl⟩
        go_wp2_with fail
        go_ret
        exact ⟨by rw [hd.out]; rfl, bb⟩
    · have hP := W_hid (fun w => gPerm_any p w)
      rw [decide_eq_false h2] at hP
      have hd : Hid (decide (RG.good ⟨f, t, p, k⟩) = false) := decide_eq_false (fun h => h2 (hh.out.1 h).2.1)
      clear hh h1 h2
      go_enter Try.func18, Try.ntmps18
      go_wp2_with fail
      refine (hR.out _).mono ?_
      rintro e w' ⟨rfl, rfl⟩
      go_wp2_with fail
      refine (hP.out _).mono ?_
      rintro e w' ⟨rfl, rfl⟩
      go_wp2_with fail
      go_ret
      exact ⟨by rw [hd.out]; rfl, bb⟩
  · rw [decide_eq_false h1] at hR
    have hd : Hid (decide (RG.good ⟨f, t, p, k⟩) = false) := decide_eq_false (fun h => h1 (hh.out.1 h).1)
    clear hh h1
    go_enter Try.func18, Try.ntmps18
    go_wp2_with fail
    refine (hR.out _).mono ?_
    rintro e w' ⟨rfl, rfl⟩
    go_wp2_with fail
    go_ret
    exact ⟨by rw [hd.out]; rfl, bb⟩

set_option maxRecDepth 100000 in
set_option maxHeartbeats 1000000 in
theorem joins_any (f t : Nat) (p k : Int) (f' t' : Nat) (p' k' : Int) (w : World) :
    Calls Try.prog 35 #[.agg #[.int .u64 (f : Int), .int .u64 (t : Int), .int .i64 p, .int .i64 k], .agg #[.int .u64 (f' : Int), .int .u64 (t' : Int), .int .i64 p', .int .i64 k']] w fun e w' =>
      e = .returned (.bool (decide (RG.joins ⟨f, t, p, k⟩ ⟨f', t', p', k'⟩))) ∧ Below w.heap.size w w' := by
  have bb : Below w.heap.size w ((w.alloc (.cells #[.int .u64 (f : Int), .int .u64 (t : Int), .int .i64 p, .int .i64 k] 25)).alloc (.cells #[.int .u64 (f' : Int), .int .u64 (t' : Int), .int .i64 p', .int .i64 k'] 25)) := ((Below.refl _ _).alloc (Nat.le_refl _) _).alloc (by simp) _
  have hh : Hid (RG.joins ⟨f, t, p, k⟩ ⟨f', t', p', k'⟩ ↔ t = f' ∧ p = p' ∧ k = k') := Iff.rfl
  obtain ⟨T, hT⟩ : ∃ T : Int, T = t := ⟨_, rfl⟩
  obtain ⟨F, hF⟩ : ∃ F : Int, F = f' := ⟨_, rfl⟩
  have hTF : t = f' ↔ T = F := by omega
  rw [hTF] at hh
  rw [← hT, ← hF] at bb ⊢
  clear hT hF hTF
  by_cases h1 : T = F
  · by_cases h2 : p = p'
    · by_cases h3 : k = k'
      · have hd : Hid (decide (RG.joins ⟨f, t, p, k⟩ ⟨f', t', p', k'⟩) = true) := decide_eq_true (hh.out.2 ⟨h1, h2, h3⟩)
        clear hh
        subst h1 h2 h3
        go_enter Try.func35, Try.ntmps35
        go_wp2_with fail
        go_ret
        exact ⟨by rw [hd.out]; rfl, bb⟩
      · have hd : Hid (decide (RG.joins ⟨f, t, p, k⟩ ⟨f', t', p', k'⟩) = false) := decide_eq_false (fun h => h3 (hh.out.1 h).2.2)
        have q : (k == k') = false := by simpa using h3
        clear hh
        subst h1 h2
        go_enter Try.func35, Try.ntmps35
        go_wp2_with fail
        go_ret
        exact ⟨by rw [hd.out]; rfl, bb⟩
    · have hd : Hid (decide (RG.joins ⟨f, t, p, k⟩ ⟨f', t', p', k'⟩) = false) := decide_eq_false (fun h => h2 (hh.out.1 h).2.1)
      have q : (p == p') = false := by simpa using h2
      clear hh
      subst h1
      go_enter Try.func35, Try.ntmps35
      go_wp2_with fail
      go_ret
      exact ⟨by rw [hd.out]; rfl, bb⟩
  · have hd : Hid (decide (RG.joins ⟨f, t, p, k⟩ ⟨f', t', p', k'⟩) = false) := decide_eq_false (fun h => h1 (hh.out.1 h).1)
    have q : (T == F) = false := by simpa using h1
    clear hh
    go_enter Try.func35, Try.ntmps35
    go_wp2_with fail
    go_ret
    exact ⟨by rw [hd.out]; rfl, bb⟩

set_option maxRecDepth 100000 in
set_option maxHeartbeats 400000 in
theorem fits_any (a e s : Nat) (w : World) (h1 : a < 18446744073709551616) (h2 : e < 18446744073709551616) :
    Calls Try.prog 33 #[.int .u64 (a : Int), .int .u64 (e : Int), .int .u64 (s : Int)] w fun r w' => r = .returned (.bool (decide (RG.fits a e s))) ∧ w = w' := by
  by_cases h : a ≤ e
  · obtain ⟨d, hd⟩ : ∃ d, e - a = d := ⟨_, rfl⟩
    have e1 : (e : Int) - (a : Int) = (d : Int) := by omega
    have hd1 : d < 18446744073709551616 := by omega
    have hh : Hid (decide (RG.fits a e s) = decide (s ≤ d)) := by
      show _ = _
      exact decide_eq_decide.2 (by unfold RG.fits; omega)
    clear hd
    go_enter Try.func33, Try.ntmps33
    go_wp2_with fail
    go_ret
    exact ⟨by rw [hh.out]; rfl, rfl⟩
  · have hh : Hid (decide (RG.fits a e s) = false) := decide_eq_false (fun hf => h hf.1)
    have hd : decide (a ≤ e) = false := decide_eq_false h
    clear h
    go_enter Try.func33, Try.ntmps33
    go_wp2_with fail
    go_ret
    exact ⟨by rw [hh.out]; rfl, rfl⟩

set_option maxRecDepth 100000 in
set_option maxHeartbeats 400000 in
theorem up_any (n st : Nat) (w : World) (h1 : n ≤ 140737488355328) (h2 : 0 < st) (h3 : st ≤ 2097152) :
    Calls Try.prog 34 #[.int .u64 (n : Int), .int .u64 (st : Int)] w fun r w' => r = .returned (.int .u64 ((RG.up n st : Nat) : Int)) ∧ w = w' := by
  have hu : Hid (RG.up n st = (n + st - 1) / st * st) := rfl
  obtain ⟨a, ha⟩ : ∃ a : Nat, n + st - 1 = a := ⟨_, rfl⟩
  have e1 : (n : Int) + (st : Int) - 1 = (a : Int) := by omega
  have e0 : 0 ≤ (n : Int) + (st : Int) ∧ (n : Int) + (st : Int) ≤ 18446744073709551615 := by omega
  have e2 : (a : Int).tdiv (st : Int) = ((a / st : Nat) : Int) := rfl
  have e3 : 0 ≤ (a : Int) ∧ (a : Int) ≤ 18446744073709551615 := by omega
  have e4 : ((a / st : Nat) : Int) * (st : Int) = ((a / st * st : Nat) : Int) := by simp
  have e5 : a / st * st ≤ a := Nat.div_mul_le_self _ _
  have e6 : a / st ≤ a := Nat.div_le_self _ _
  rw [ha] at hu
  obtain ⟨q, hq⟩ : ∃ q, a / st = q := ⟨_, rfl⟩
  rw [hq] at hu e2 e4 e5 e6
  obtain ⟨m, hm⟩ : ∃ m, q * st = m := ⟨_, rfl⟩
  rw [hm] at hu e4 e5
  clear ha hq hm
  go_enter Try.func34, Try.ntmps34
  go_wp2_with fail
  go_ret
  exact ⟨by rw [hu.out]; rfl, rfl⟩
end Go.Proofs.Ytfbhcnamkojboaa

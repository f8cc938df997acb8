/- Contracts of package inode's checks, and of first, which asks them one behind the other. -/
import Derived.Test.YtieneehpijilpaaInoMem
namespace Go.Proofs.Ytieneehpijilpaa
open Go.ChangeShapes Go.WideShapes Go.ChangeAt Go.RowKit Go.Maps
set_option linter.unusedVariables false
set_option linter.unusedSimpArgs false
namespace IN

set_option maxRecDepth 100000 in
set_option maxHeartbeats 1000000 in
theorem unless_any (b : Bool) (e : Int) (w : World) : Calls Try.prog 59 #[.bool b, .int .i64 e] w fun r w' => r = .returned (.int .i64 (if b = true then 0 else e)) ∧ w' = w := by
  go_enter Try.func59, Try.ntmps59
  cases b <;>
  · go_wp2
    go_ret
    exact ⟨rfl, rfl⟩

/-- What a check answers: its error, nothing turned. -/
def Ans (r : Int) (w : World) (e : Ending) (w' : World) : Prop := e = .returned (.int .i64 r) ∧ Below w.heap.size w w'
theorem ans_drew {r : Int} {w : World} (n : Nat) : Ans r w (.returned (.int .i64 r)) (w.drewN n) := ⟨rfl, ⟨rfl, rfl, rfl, Nat.le_refl _, fun _ _ => rfl⟩⟩
theorem ans_same {r : Int} {w : World} : Ans r w (.returned (.int .i64 r)) w := ⟨rfl, Below.refl _ _⟩

set_option maxRecDepth 100000 in
set_option maxHeartbeats 1000000 in
theorem made_nil (a : Value) (w : World) : Calls Try.prog 36 #[.pointer none, a] w (Ans 1 w) := by
  have cU := fun w => unless_any false 1 w
  go_enter Try.func36, Try.ntmps36
  go_wp2_with (go_at_call 59; refine (cU _).mono ?_; rintro e w' ⟨rfl, rfl⟩)
  go_ret
  exact ans_same
set_option maxRecDepth 100000 in
set_option maxHeartbeats 1000000 in
theorem isKind_any (k : Int) (w : World) : Calls Try.prog 40 #[.int .i64 k] w (Ans (if k = 1 ∨ k = 2 then 0 else 2) w) := by
  have cU := fun b w => unless_any b 2 w
  go_enter Try.func40, Try.ntmps40
  by_cases h1 : k = 1
  · subst h1
    go_wp2_with (go_at_call 59; refine (cU _ _).mono ?_; rintro e w' ⟨rfl, rfl⟩)
    go_ret
    exact ans_same
  · by_cases h2 : k = 2
    · subst h2
      go_wp2_with (go_at_call 59; refine (cU _ _).mono ?_; rintro e w' ⟨rfl, rfl⟩)
      go_ret
      exact ans_same
    · rw [if_neg (by omega)]
      go_wp2_with (go_at_call 59; refine (cU _ _).mono ?_; rintro e w' ⟨rfl, rfl⟩)
      go_ret
      exact ans_same

section
variable {base sg mb : Nat} {M : Int → Option Nat} {I L left : Int} {S : Int → Option Nd}
set_option maxRecDepth 100000 in
set_option maxHeartbeats 1000000 in
theorem made_some (a : Value) (w : World) (h : PM base w sg mb M I L left S) : Calls Try.prog 36 #[.pointer (some ⟨sg, 0, none⟩), a] w (Ans 0 w) := by
  have cU := fun w => unless_any true 1 w
  have c0 := h.box.cell (j := 0) rfl
  have qT : ∀ (w : World) (r : Option Nat), (binOp .neq 55 (.map r) (.map none)).run Try.prog w = .ok (.bool (!r.isNone)) w := fun w r => run_neq_map_nil w _ _ _ r IS.und_map
  clear h
  go_enter Try.func36, Try.ntmps36
  go_wp2_with (go_at_call 59; refine (cU _).mono ?_; rintro e w' ⟨rfl, rfl⟩)
  go_ret
  exact ans_same

/-- The answer of a check that asks for an inode. -/
theorem ptr_test (x : Option Nat) (w : World) : (binOp .neq 68 (IS.ptr x) (.pointer none)).run Try.prog w = .ok (.bool x.isSome) w := by
  cases x with
  | none => simp [IS.ptr, go_sem]
  | some g => simp [IS.ptr, go_sem]

set_option maxRecDepth 100000 in
set_option maxHeartbeats 2000000 in
theorem has_any (n : Int) (w : World) (h : PM base w sg mb M I L left S) (hn : IS.I64 n) : Calls Try.prog 42 #[.pointer (some ⟨sg, 0, none⟩), .int .i64 n] w (Ans (if (S n).isSome = true then 0 else 11) w) := by
  have cU := fun b w => unless_any b 11 w
  have c0 := h.box.cell (j := 0) rfl
  have hl := h.mp.look n hn
  have hd : (S n).isSome = (M n).isSome := by
    have := h.dom n
    cases hM : M n <;> cases hS : S n <;> simp_all
  rw [hd]
  clear h hd
  generalize M n = x at hl ⊢
  cases x with
  | none =>
    go_enter Try.func42, Try.ntmps42
    simp only [IS.ptr] at hl
    go_wp2_with (go_at_call 59; refine (cU _ _).mono ?_; rintro e w' ⟨rfl, rfl⟩)
    go_ret
    exact ans_same
  | some g =>
    go_enter Try.func42, Try.ntmps42
    simp only [IS.ptr] at hl
    go_wp2_with (go_at_call 59; refine (cU _ _).mono ?_; rintro e w' ⟨rfl, rfl⟩)
    go_ret
    exact ans_same

set_option maxRecDepth 100000 in
set_option maxHeartbeats 2000000 in
theorem room_any (n : Value) (ss : List Nat) (w : World) (h : PM base w sg mb M I L left S) (hs : IS.Nums M ss) : Calls Try.prog 41 #[.pointer (some ⟨sg, 0, none⟩), n] w (Ans (if (ss.length : Int) < I then 0 else 21) w) := by
  have cT := fun t => Calls.quiet_of_same (unless_any true 21 (w.drewN t))
  have cF := fun t => Calls.quiet_of_same (unless_any false 21 (w.drewN t))
  have c0 := h.box.cell (j := 0) rfl
  have c1 := h.box.cell (j := 1) rfl
  have hl := fun t ty => (h.mp.drew t).count hs ty
  have hl0 := fun ty => h.mp.count hs ty
  clear h
  by_cases hlt : (ss.length : Int) < I
  · rw [if_pos hlt]
    go_enter Try.func41, Try.ntmps41
    go_wp2_with fail
    go_quiet ((go_at_call 59; exact cT _))
    go_wp2_with fail
    go_ret
    exact ans_drew _
  · rw [if_neg hlt]
    have hd : decide ((ss.length : Int) < I) = false := decide_eq_false hlt
    go_enter Try.func41, Try.ntmps41
    go_wp2_with fail
    go_quiet ((go_at_call 59; exact cF _))
    go_wp2_with fail
    go_ret
    exact ans_drew _

set_option maxRecDepth 100000 in
set_option maxHeartbeats 2000000 in
theorem file_any (n : Int) (d : Nd) (w : World) (h : PM base w sg mb M I L left S) (hn : IS.I64 n) (hS : S n = some d) : Calls Try.prog 47 #[.pointer (some ⟨sg, 0, none⟩), .int .i64 n] w (Ans (if d.kind = 1 then 0 else 14) w) := by
  have cU := fun b w => unless_any b 14 w
  have c0 := h.box.cell (j := 0) rfl
  have hl := h.mp.look n hn
  obtain ⟨g, v, hM, hN, -⟩ := h.has hS
  have d0 := hN.1.cell (j := 0) rfl
  rw [hM] at hl
  simp only [IS.ptr] at hl
  clear h hN hM
  go_enter Try.func47, Try.ntmps47
  by_cases hk : d.kind = 1
  · rw [hk] at d0
    rw [if_pos hk]
    go_wp2_with (go_at_call 59; refine (cU _ _).mono ?_; rintro e w' ⟨rfl, rfl⟩)
    go_ret
    exact ans_same
  · rw [if_neg hk]
    go_wp2_with (go_at_call 59; refine (cU _ _).mono ?_; rintro e w' ⟨rfl, rfl⟩)
    go_ret
    simp [hk]
    exact ans_same

set_option maxRecDepth 100000 in
set_option maxHeartbeats 2000000 in
theorem linkable_any (n : Int) (d : Nd) (w : World) (h : PM base w sg mb M I L left S) (hn : IS.I64 n) (hS : S n = some d) : Calls Try.prog 43 #[.pointer (some ⟨sg, 0, none⟩), .int .i64 n] w (Ans (if d.links < L then 0 else 18) w) := by
  have cT := fun t => Calls.quiet_of_same (unless_any true 18 (w.drewN t))
  have cF := fun t => Calls.quiet_of_same (unless_any false 18 (w.drewN t))
  have cV := fun b w => unless_any b 18 w
  have c0 := h.box.cell (j := 0) rfl
  have c2 := h.box.cell (j := 2) rfl
  have hl := fun t => (h.mp.drew t).look n hn
  have hl0 := h.mp.look n hn
  obtain ⟨g, v, hM, hN, -⟩ := h.has hS
  have d1 := hN.1.cell (j := 1) rfl
  rw [hM] at hl hl0
  simp only [IS.ptr] at hl hl0
  clear h hN hM
  go_enter Try.func43, Try.ntmps43
  by_cases hk : d.links < L
  · rw [if_pos hk]
    go_wp2_with fail
    go_quiet ((go_at_call 59; exact cT _))
    go_wp2_with fail
    go_ret
    exact ans_drew _
  · rw [if_neg hk]
    have hd : decide (d.links < L) = false := decide_eq_false hk
    go_wp2_with fail
    go_quiet ((go_at_call 59; exact cF _))
    go_wp2_with fail
    go_ret
    exact ans_drew _

set_option maxRecDepth 100000 in
set_option maxHeartbeats 2000000 in
theorem linked_any (n : Int) (d : Nd) (w : World) (h : PM base w sg mb M I L left S) (hn : IS.I64 n) (hS : S n = some d) : Calls Try.prog 44 #[.pointer (some ⟨sg, 0, none⟩), .int .i64 n] w (Ans (if 0 < d.links then 0 else 2) w) := by
  have cU := fun b w => unless_any b 2 w
  have c0 := h.box.cell (j := 0) rfl
  have hl := h.mp.look n hn
  obtain ⟨g, v, hM, hN, -⟩ := h.has hS
  have d1 := hN.1.cell (j := 1) rfl
  rw [hM] at hl
  simp only [IS.ptr] at hl
  clear h hN hM
  go_enter Try.func44, Try.ntmps44
  by_cases hk : 0 < d.links
  · rw [if_pos hk]
    go_wp2_with (go_at_call 59; refine (cU _ _).mono ?_; rintro e w' ⟨rfl, rfl⟩)
    go_ret
    simp [hk]
    exact ans_same
  · rw [if_neg hk]
    go_wp2_with (go_at_call 59; refine (cU _ _).mono ?_; rintro e w' ⟨rfl, rfl⟩)
    go_ret
    simp [hk]
    exact ans_same
set_option maxRecDepth 100000 in
set_option maxHeartbeats 2000000 in
theorem opened_any (n : Int) (d : Nd) (w : World) (h : PM base w sg mb M I L left S) (hn : IS.I64 n) (hS : S n = some d) : Calls Try.prog 46 #[.pointer (some ⟨sg, 0, none⟩), .int .i64 n] w (Ans (if 0 < d.opens then 0 else 2) w) := by
  have cU := fun b w => unless_any b 2 w
  have c0 := h.box.cell (j := 0) rfl
  have hl := h.mp.look n hn
  obtain ⟨g, v, hM, hN, -⟩ := h.has hS
  have d1 := hN.1.cell (j := 2) rfl
  rw [hM] at hl
  simp only [IS.ptr] at hl
  clear h hN hM
  go_enter Try.func46, Try.ntmps46
  by_cases hk : 0 < d.opens
  · rw [if_pos hk]
    go_wp2_with (go_at_call 59; refine (cU _ _).mono ?_; rintro e w' ⟨rfl, rfl⟩)
    go_ret
    simp [hk]
    exact ans_same
  · rw [if_neg hk]
    go_wp2_with (go_at_call 59; refine (cU _ _).mono ?_; rintro e w' ⟨rfl, rfl⟩)
    go_ret
    simp [hk]
    exact ans_same
end

/-- The first that is an error. -/
def fst : List Int → Int
  | [] => 0
  | r :: rs => if r = 0 then fst rs else r

/-- A check as a function value, and what it answers in each world in which all of w is there. -/
def Chk (w : World) (arg : Value) (f : Value) (r : Int) : Prop := ∃ (k : Nat) (c : Array Value), f = .func (.func k) c #[] ∧ (∀ w, (callFunc k (c ++ #[arg])).run Try.prog w = .ok (.enter k (c ++ #[arg])) w) ∧ ∀ W, Below w.heap.size w W → Calls Try.prog k (c ++ #[arg]) W (Ans r W)
end IN
end Go.Proofs.Ytieneehpijilpaa

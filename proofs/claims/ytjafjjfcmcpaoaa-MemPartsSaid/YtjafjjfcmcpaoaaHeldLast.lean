/- Regions that draw their order and end in one operation that waits for all others (a store behind its phase): what the others read may be spoilt by that last one. Free of any program. -/
import Derived.Test.YtjafjjfcmcpaoaaHid
import Derived.Deep.RegionHeld3
import Derived.StillTail
import Derived.WalkKit
import Derived.ProofKit
namespace Go.Proofs.Ytjafjjfcmcpaoaa
open Go.ChangeShapes Go.WideShapes Go.ChangeAt Go.RowKit
set_option linter.unusedVariables false

section
variable {P : Program} {ops : Array Oper} {Q : Exit → Act → World → Prop} {md : Region.Mode} {S : World → Prop} {m : Nat}

/-- Whatever order is picked: S holds behind each operation but number m. -/
def UpTo (P : Program) (md : Region.Mode) (ops : Array Oper) (Q : Exit → Act → World → Prop) (S : World → Prop) (m : Nat) : Nat → Array Bool → Act → World → Prop
  | 0, ls, a, w => Region.ready md ops ls = [] ∧ Q .normal a w
  | k + 1, ls, a, w => (Region.ready md ops ls = [] → Q .normal a w) ∧ ∀ j ∈ Region.ready md ops ls, wpOp P ops Q j (fun a' w' => (j ≠ m → S w') ∧ UpTo P md ops Q S m k (ls.setIfInBounds j true) a' w') a w
theorem UpTo.any : ∀ (k : Nat) (ls : Array Bool) (a : Act) (w : World), UpTo P md ops Q S m k ls a w → wpAny P md ops Q k ls a w
  | 0, _, _, _, h => h
  | k + 1, _, _, _, h => ⟨h.1, fun j hj => wpOp_mono (fun a' w' h' => UpTo.any k _ a' w' h'.2) (h.2 j hj)⟩

/-- An operation for which m waits may be taken first. -/
theorem UpTo.first {i : Nat} {o : Oper} {v : Value} (hi : ops[i]? = some o) (hwait : Region.waitsFor md ops m i = true) (hne : i ≠ m) (hsel : ∀ (j : Nat) (o : Oper) cs b, ops[j]? = some o → o.op ≠ .select cs b)
    (hQ : ∀ c a w, Q (.panic c) (a.put o.dst v) w → Q (.panic c) a w) :
    ∀ (k : Nat) (ls : Array Bool) (a : Act) (w : World),
      (∀ j oj, ops[j]? = some oj → j ≠ i → ls.getD j true = false → (∀ e ∈ oj.after, Region.binds md e = true → e.on ≠ i) → o.apart ops oj = true) →
      i ∈ Region.ready md ops ls → YieldsIf P ops S o v a → S w →
      UpTo P md ops Q S m k (ls.setIfInBounds i true) (a.put o.dst v) w → UpTo P md ops Q S m (k + 1) ls a w := by
  have unl : ∀ {ls : Array Bool}, i ∈ Region.ready md ops ls → ls.getD i false = false := fun {ls} h => by
    have h0 := (mem_ready.1 h).1
    by_cases hlt : i < ls.size
    · simp [hlt] at h0 ⊢; exact h0
    · simp [Array.getElem?_eq_none (Nat.le_of_not_lt hlt)]
  intro k
  induction k with
  | zero =>
    intro ls a w _ hr hy hS H
    refine ⟨fun e => (by rw [e] at hr; cases hr), fun j hj => ?_⟩
    by_cases hji : j = i
    · subst hji; exact hy.wpOp hi hS ⟨fun _ => hS, H⟩
    · have h1 := ready_mono hj hji
      rw [H.1] at h1; cases h1
  | succ k ih =>
    intro ls a w hfr hr hy hS H
    refine ⟨fun e => (by rw [e] at hr; cases hr), fun j hj => ?_⟩
    by_cases hji : j = i
    · subst hji; exact hy.wpOp hi hS ⟨fun _ => hS, H⟩
    obtain ⟨hju, oj, hoj, hall⟩ := mem_ready.1 hj
    have hapart : ∀ e ∈ oj.after, Region.binds md e = true → e.on ≠ i := fun e he hb e2 => by
      have h1 := hall e he hb
      rw [e2, unl hr] at h1; cases h1
    have hjm : j ≠ m := by
      rintro rfl
      obtain ⟨o2, ho2, e, he, hb, hon⟩ := Region.waitsFor_spec hwait
      obtain rfl : o2 = oj := Option.some.inj (ho2.symm.trans hoj)
      exact hapart e he hb hon
    have h2 := wpOp_putIf hoj (hfr j oj hoj hji hju hapart) (fun cs b => hsel i o cs b hi) (fun cs b => hsel j oj cs b hoj) hQ hy (H.2 j (ready_mono hj hji))
    refine wpOp_mono (fun a' w' h3 => ⟨h3.2.1, ih (ls.setIfInBounds j true) a' w' (fun x ox hx hxi hun hno => hfr x ox hx hxi ?_ hno) (ready_mono hr (Ne.symm hji)) h3.1 (h3.2.1 hjm) ?_⟩) h2
    · by_cases e : j = x
      · subst e; exact hju
      · rw [getD_set_ne true e] at hun; exact hun
    · rw [Array.setIfInBounds_comm _ _ hji]
      exact h3.2.2
theorem UpTo.take {i : Nat} {o : Oper} {v : Value} {k : Nat} {ls : Array Bool} {a : Act} {w : World} (hi : ops[i]? = some o) (hwait : (Region.waitsFor md ops m i && decide (i ≠ m)) = true)
    (hs : Region.noSelect ops = true) (hf : Region.free md ops ls i = true) (hr : (Region.ready md ops ls).contains i = true)
    (hQ : ∀ c a w, Q (.panic c) (a.put o.dst v) w → Q (.panic c) a w) (hy : YieldsIf P ops S o v a) (hS : S w)
    (h : UpTo P md ops Q S m k (ls.setIfInBounds i true) (a.put o.dst v) w) : UpTo P md ops Q S m (k + 1) ls a w := by
  rw [Bool.and_eq_true, decide_eq_true_eq] at hwait
  exact UpTo.first hi hwait.1 hwait.2 (Region.noSelect_spec hs) hQ k ls a w (Region.free_spec hi hf) (by simpa using hr) hy hS h
/-- One operation alone may come up. -/
theorem UpTo.one {i : Nat} {o : Oper} {k : Nat} {ls : Array Bool} {a : Act} {w : World} (hr : Region.ready md ops ls = [i]) (ho : ops[i]? = some o) (hsel : o.guard = none)
    (h : ∀ K' : Act → World → Prop, Hid (∀ a' w', S w' → UpTo P md ops Q S m k (ls.setIfInBounds i true) a' w' → K' a' w') → if Region.wanted o (yielded ops a.tmps) = true then Oper.wp P o a w K' Q else K' (a.put o.dst undef) w) : UpTo P md ops Q S m (k + 1) ls a w := by
  refine ⟨fun e => (by rw [hr] at e; cases e), fun j hj => ?_⟩
  rw [hr] at hj
  obtain rfl : j = i := by simpa using hj
  have hw : Region.wanted o (yielded ops a.tmps) = true := by simp [Region.wanted, hsel]
  have h1 := h (fun a' w' => (j ≠ m → S w') ∧ UpTo P md ops Q S m k (ls.setIfInBounds j true) a' w') (W_hid (fun a' w' hS hU => ⟨fun _ => hS, hU⟩))
  rw [if_pos hw] at h1
  unfold wpOp
  simp only [ho, hw, if_true]
  exact .inl h1
/-- The last one. -/
theorem UpTo.last {o : Oper} {k : Nat} {ls : Array Bool} {a : Act} {w : World} (hr : Region.ready md ops ls = [m]) (ho : ops[m]? = some o) (hsel : o.guard = none) (hend : Region.ready md ops (ls.setIfInBounds m true) = [])
    (h : Oper.wp P o a w (Q .normal) Q) : UpTo P md ops Q S m (k + 1) ls a w := by
  refine ⟨fun e => (by rw [hr] at e; cases e), fun j hj => ?_⟩
  rw [hr] at hj
  obtain rfl : j = m := by simpa using hj
  have hw : Region.wanted o (yielded ops a.tmps) = true := by simp [Region.wanted, hsel]
  have key : ∀ a' w', Q .normal a' w' → (j ≠ j → S w') ∧ UpTo P md ops Q S j k (ls.setIfInBounds j true) a' w' := fun a' w' hq => ⟨fun e => absurd rfl e, by
    cases k with
    | zero => exact ⟨hend, hq⟩
    | succ k => exact ⟨fun _ => hq, fun x hx => by rw [hend] at hx; cases hx⟩⟩
  refine wpOp_mono key ?_
  unfold wpOp
  simp only [ho, hw, if_true]
  exact .inl h
theorem UpTo.region {id : Nat} {a : Act} {w : World} (hm : P.follows .mixedOrders = true) (hS : S w.drew) (h : S w.drew → UpTo P .any ops Q S m ops.size (Array.replicate ops.size false) a w.drew) : (Code.region id ops true).wp P Q a w :=
  wp_region_any hm (UpTo.any _ _ _ _ (h hS))
/-- UpTo.take, with what is always asked left to tactics. -/
theorem ut {i : Nat} {v : Value} {o : Oper} {k : Nat} {ls ls' : Array Bool} {a a' : Act} {w : World} (hS : S w) (h : UpTo P md ops Q S m k ls' a' w)
    (hi : ops[i]? = some o := by rfl) (hwait : (Region.waitsFor md ops m i && decide (i ≠ m)) = true := by kernel_rfl) (hs : Region.noSelect ops = true := by kernel_rfl) (hf : Region.free md ops ls i = true := by kernel_rfl) (hr : (Region.ready md ops ls).contains i = true := by kernel_rfl)
    (hQ : ∀ c a w, Q (.panic c) (a.put o.dst v) w → Q (.panic c) a w := by exact fun _ _ _ h => h)
    (hw : Region.wanted o (yielded ops a.tmps) = true := by rfl)
    (hv : ∀ w, S w → (execOp a.eval o).run P w = .ok (.value v) w := by (intro w0 hs; repeat (obtain ⟨hq, hs⟩ := hs)); go_simp)
    (hl : ls.setIfInBounds i true = ls' := by (first | (simp only [List.setIfInBounds_toArray, List.set_cons_zero, List.set_cons_succ]; try rfl) | rfl))
    (ha : a.put o.dst v = a' := by (first | (simp only [Act.put, List.setIfInBounds_toArray, List.set_cons_zero, List.set_cons_succ, List.getElem_toArray, List.getElem_cons_zero, List.getElem_cons_succ]; try rfl) | rfl)) : UpTo P md ops Q S m (k + 1) ls a w :=
  UpTo.take hi hwait hs hf hr hQ (.inl ⟨hw, hv⟩) hS (by rw [hl, ha]; exact h)
end
end Go.Proofs.Ytjafjjfcmcpaoaa

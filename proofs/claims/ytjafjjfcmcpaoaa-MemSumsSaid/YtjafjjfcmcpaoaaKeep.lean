/- What a call leaves, by which blocks, of which kinds, it may touch; free of any program's numbers. -/
import Derived.Test.YtjafjjfcmcpaoaaBlk
namespace Go.Proofs.Ytjafjjfcmcpaoaa
open Go.ChangeShapes Go.WideShapes Go.ChangeAt Go.RowKit
set_option linter.unusedVariables false
set_option linter.unusedSimpArgs false
namespace IN

/-- All blocks below B, and all that are not of the kinds T, are as they were. -/
structure Keeps (B : Nat) (T : Nat → Obj → Prop) (w w' : World) : Prop where
  os : w'.os = w.os
  tape : w'.tape = w.tape
  output : w'.output = w.output
  size : w.heap.size ≤ w'.heap.size
  low : ∀ (k : Nat), k < B → w'.heap[k]? = w.heap[k]?
  block : ∀ (k : Nat) (o : Obj), w.heap[k]? = some o → ¬ T k o → w'.heap[k]? = some o
section
variable {w w' w2 : World} {B : Nat} {T : Nat → Obj → Prop}
theorem Keeps.refl (B : Nat) (T : Nat → Obj → Prop) (w : World) : Keeps B T w w := ⟨rfl, rfl, rfl, Nat.le_refl _, fun _ _ => rfl, fun _ _ h _ => h⟩
theorem Keeps.trans (h : Keeps B T w w') (k : Keeps B T w' w2) : Keeps B T w w2 :=
  ⟨k.os.trans h.os, k.tape.trans h.tape, k.output.trans h.output, Nat.le_trans h.size k.size, fun i hi => (k.low i hi).trans (h.low i hi), fun i o ho hT => k.block i o (h.block i o ho hT) hT⟩
theorem lt_of_some {w : World} {k : Nat} {o : Obj} (h : w.heap[k]? = some o) : k < w.heap.size := by
  rcases Nat.lt_or_ge k w.heap.size with hlt | hge
  · exact hlt
  · rw [Array.getElem?_eq_none hge] at h; cases h
theorem Keeps.of {C : Nat} (h : Below C w w') (hB : B ≤ C) (hC : w.heap.size ≤ C) : Keeps B T w w' :=
  ⟨h.os, h.tape, h.output, h.size, fun k hk => h.block k (by omega), fun k o ho _ => (h.block k (Nat.lt_of_lt_of_le (lt_of_some ho) hC)).trans ho⟩
theorem Keeps.new (h : Below w.heap.size w w') (hB : B ≤ w.heap.size) : Keeps B T w w' := Keeps.of h hB (Nat.le_refl _)
theorem Keeps.drew (h : Keeps B T w w') (n : Nat) : Keeps B T w (w'.drewN n) := ⟨h.os, h.tape, h.output, h.size, h.low, h.block⟩
theorem Keeps.drew1 (h : Keeps B T w w') : Keeps B T w w'.drew := ⟨h.os, h.tape, h.output, h.size, h.low, h.block⟩
theorem Keeps.undrew (h : Keeps B T w.drew w') : Keeps B T w w' := ⟨h.os, h.tape, h.output, h.size, h.low, h.block⟩
theorem Keeps.alloc (h : Keeps B T w w') (hB : B ≤ w.heap.size) (o : Obj) : Keeps B T w (w'.alloc o) :=
  h.trans (Keeps.new ((Below.refl _ _).alloc (Nat.le_refl _) o) (Nat.le_trans hB h.size))
theorem Keeps.setCell (h : Keeps B T w w') {p : Addr} {o : Obj} (ho : w'.heap[p.block]? = some o) (hT : T p.block o) (hB : B ≤ p.block) (u : Value) : Keeps B T w (w'.setCell p u) :=
  h.trans ⟨rfl, rfl, rfl, by simp [World.setCell], fun k hk => Below.heap_setCell _ _ _ _ (by omega), fun k o' ho' hT' => by
    rw [Below.heap_setCell _ _ _ _ (fun e => hT' (by subst e; rw [ho] at ho'; cases ho'; exact hT))]
    exact ho'⟩
theorem Keeps.grown (h : Keeps B T w w') {b : Nat} {o : Obj} (ho : w'.heap[b]? = some o) (hT : T b o) (hB : B ≤ b) (hg : w'.grownBy w2 (some b)) : Keeps B T w w2 :=
  h.trans ⟨hg.os, hg.tape, hg.output, hg.size, fun k hk => hg.block k (Nat.lt_trans hk (by have := lt_of_some ho; omega)) (by intro e; cases e; omega), fun k o' ho' hT' => by
    rw [hg.block k (lt_of_some ho') (by intro e; cases e; rw [ho] at ho'; cases ho'; exact hT' hT)]
    exact ho'⟩
theorem Keeps.below (h : Keeps B T w w') {C : Nat} (hC : C ≤ B) : Below C w w' := ⟨h.os, h.tape, h.output, h.size, fun k hk => h.low k (by omega)⟩
theorem Keeps.mono (h : Keeps B T w w') {C : Nat} (hC : C ≤ B) : Keeps C T w w' := ⟨h.os, h.tape, h.output, h.size, fun k hk => h.low k (by omega), h.block⟩
end

end IN
end Go.Proofs.Ytjafjjfcmcpaoaa

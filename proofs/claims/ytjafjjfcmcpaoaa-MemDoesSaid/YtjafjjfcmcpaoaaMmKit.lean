/- Stage 18: a thread's step, kit. -/
import Derived.Test.YtjafjjfcmcpaoaaMmSound
import Derived.Test.YtjafjjfcmcpaoaaHeldTil
namespace Go.Proofs.Ytjafjjfcmcpaoaa
open Go.ChangeShapes Go.WideShapes Go.ChangeAt Go.RowKit
set_option linter.unusedVariables false
set_option linter.unusedSimpArgs false
set_option maxRecDepth 100000
namespace MC
open IN (lt_of_some)
section
variable {P : Program} {ops : Array Oper} {Q : Exit → Act → World → Prop} {md : Region.Mode} {S : World → Prop} {m : Nat}
/-- Two operations may come up: both orders are walked. -/
theorem UpTil.pair {i j : Nat} {oi oj : Oper} {k : Nat} {ls : Array Bool} {a : Act} {w : World} (hr : Region.ready md ops ls = [i, j]) (hoi : ops[i]? = some oi) (hoj : ops[j]? = some oj) (hgi : oi.guard = none) (hgj : oj.guard = none)
    (h1 : ∀ K' : Act → World → Prop, Hid (∀ a' w', (ls.getD m true = false → S w') → UpTil P md ops Q S m k (ls.setIfInBounds i true) a' w' → K' a' w') → if Region.wanted oi (yielded ops a.tmps) = true then Oper.wp P oi a w K' Q else K' (a.put oi.dst undef) w)
    (h2 : ∀ K' : Act → World → Prop, Hid (∀ a' w', (ls.getD m true = false → S w') → UpTil P md ops Q S m k (ls.setIfInBounds j true) a' w' → K' a' w') → if Region.wanted oj (yielded ops a.tmps) = true then Oper.wp P oj a w K' Q else K' (a.put oj.dst undef) w) : UpTil P md ops Q S m (k + 1) ls a w := by
  refine ⟨fun e => (by rw [hr] at e; cases e), fun x hx => ?_⟩
  rw [hr] at hx
  rcases List.mem_cons.1 hx with rfl | hx
  · have hw : Region.wanted oi (yielded ops a.tmps) = true := by simp [Region.wanted, hgi]
    have h3 := h1 (fun a' w' => (x ≠ m → ls.getD m true = false → S w') ∧ UpTil P md ops Q S m k (ls.setIfInBounds x true) a' w') (W_hid (fun a' w' hS hU => ⟨fun _ => hS, hU⟩))
    rw [if_pos hw] at h3
    unfold wpOp
    simp only [hoi, hw, if_true]
    exact .inl h3
  · obtain rfl : x = j := by simpa using hx
    have hw : Region.wanted oj (yielded ops a.tmps) = true := by simp [Region.wanted, hgj]
    have h3 := h2 (fun a' w' => (x ≠ m → ls.getD m true = false → S w') ∧ UpTil P md ops Q S m k (ls.setIfInBounds x true) a' w') (W_hid (fun a' w' hS hU => ⟨fun _ => hS, hU⟩))
    rw [if_pos hw] at h3
    unfold wpOp
    simp only [hoj, hw, if_true]
    exact .inl h3
end
theorem TCell.below {w w' : World} {g o : Nat} {v : Value} {t : Th} (h : TCell w g o v t) (hb : Below w.heap.size w w') : TCell w' g o v t := by
  have e := hb.block g h.lt
  have hc : ∀ j, w'.cell? ⟨g, j, none⟩ = w.cell? ⟨g, j, none⟩ := fun j => World.cell?_of_block (w := w) e
  refine ⟨by rw [hc]; exact h.p, fun k hk => by rw [hc]; exact h.r k hk, by rw [hc]; exact h.pc, fun j => ?_, Nat.lt_of_lt_of_le h.lt hb.size⟩
  have := h.fz j
  unfold World.frozen? at this ⊢
  rw [e]; exact this
end MC
end Go.Proofs.Ytjafjjfcmcpaoaa
/- Page tables, on plain numbers: the page that has an address is where the search ends. -/
import Derived.Test.YthiojnbnhagcgaaDoorRadGrow
namespace Go.Proofs.YthiojnbnhagcgaaDoor
namespace RX
set_option linter.unusedVariables false

/-- The page that has an address: its level, frame, permissions. -/
def pg (G : Pags) (va : Nat) : Option (Nat × Nat × Int) :=
  match G 1 (va / EN.sz 0) with
  | some (f, p) => some (1, f, p)
  | none => match G 2 (va / EN.sz 1) with
    | some (f, p) => some (2, f, p)
    | none => none

section
variable {F : Tabs} {G : Pags} {r n : Nat}

theorem up_to (I : Inv F G r n) (va : Nat) : ∀ (d k f : Nat), F k (va / EN.sz k) = some f → k + d ≤ 4 → ∃ f', F (k + d) (va / EN.sz (k + d)) = some f'
  | 0, k, f, h, _ => ⟨f, h⟩
  | d + 1, k, f, h, hd => by
    obtain ⟨f', h'⟩ := I.up h (by omega)
    have e : va / EN.sz k / 512 = va / EN.sz (k + 1) := by rw [EN.sz_succ, Nat.div_div_eq_div_mul]
    rw [e] at h'
    have := up_to I va d (k + 1) f' h' (by omega)
    rwa [show k + 1 + d = k + (d + 1) by omega] at this

theorem desc_page (I : Inv F G r n) {va L : Nat} {fr : Nat → Nat} (h : Desc F va 1 L fr) :
    (pres F G L (va / EN.sz (L - 1)) = true ∧ ∃ f p, pg G va = some (L, f, p) ∧ L ≤ 2 ∧ G L (va / EN.sz (L - 1)) = some (f, p) ∧ F (L - 1) (va / EN.sz (L - 1)) = none ∧ ent F G L (va / EN.sz (L - 1)) = (false, decide (L = 2), p, f)) ∨
    (pres F G L (va / EN.sz (L - 1)) = false ∧ pg G va = none) := by
  have hl1 := h.l1
  have hl4 := h.l4
  have hF0 : F (L - 1) (va / EN.sz (L - 1)) = none := by
    rcases h.stop with e | e
    · cases hc : F (L - 1) (va / EN.sz (L - 1)) with
      | none => rfl
      | some y => have := I.lev hc; omega
    · exact e
  have key : ∀ {k : Nat} {x : Nat × Int}, 1 ≤ k → k ≤ 2 → G k (va / EN.sz (k - 1)) = some x → L = k := by
    intro k x k1 k2 hx
    obtain ⟨y, hy⟩ := I.way hx
    rw [sz_down va k k1] at hy
    rcases Nat.lt_trichotomy L k with hlt | rfl | hgt
    · obtain rfl : k = 2 := by omega
      obtain rfl : L = 1 := by omega
      have := I.apart hx
      rw [h.on 1 (Nat.le_refl _) (by omega)] at this
      cases this
    · rfl
    · obtain ⟨y', hy'⟩ := up_to I va (L - 1 - k) k y hy (by omega)
      rw [show k + (L - 1 - k) = L - 1 by omega, hF0] at hy'
      cases hy'
  cases hG : G L (va / EN.sz (L - 1)) with
  | some x =>
    obtain ⟨f, p⟩ := x
    have hp := I.page hG
    refine .inl ⟨by unfold pres; rw [hG]; simp, f, p, ?_, hp.2.1, rfl, hF0, by unfold ent; rw [hF0, hG]⟩
    have : L = 1 ∨ L = 2 := by omega
    rcases this with rfl | rfl
    · unfold pg; rw [show (1 : Nat) - 1 = 0 from rfl] at hG; rw [hG]
    · have h1 : G 1 (va / EN.sz 0) = none := by
        cases hc : G 1 (va / EN.sz 0) with
        | none => rfl
        | some z => have := key (k := 1) (by omega) (by omega) hc; omega
      unfold pg
      rw [h1]
      rw [show (2 : Nat) - 1 = 1 from rfl] at hG
      rw [hG]
  | none =>
    refine .inr ⟨by unfold pres; rw [hF0, hG]; rfl, ?_⟩
    have h1 : G 1 (va / EN.sz 0) = none := by
      cases hc : G 1 (va / EN.sz 0) with
      | none => rfl
      | some z =>
        have := key (k := 1) (by omega) (by omega) hc
        subst this
        rw [show (1 : Nat) - 1 = 0 from rfl, hc] at hG
        cases hG
    have h2 : G 2 (va / EN.sz 1) = none := by
      cases hc : G 2 (va / EN.sz 1) with
      | none => rfl
      | some z =>
        have := key (k := 2) (by omega) (by omega) hc
        subst this
        rw [show (2 : Nat) - 1 = 1 from rfl, hc] at hG
        cases hG
    unfold pg
    rw [h1, h2]
end
end RX
end Go.Proofs.YthiojnbnhagcgaaDoor

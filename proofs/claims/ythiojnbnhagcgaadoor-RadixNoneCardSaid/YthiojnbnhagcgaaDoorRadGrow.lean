/- Page tables, on plain numbers: a way is lengthened by new tables. -/
import Derived.Test.YthiojnbnhagcgaaDoorRadStep
namespace Go.Proofs.YthiojnbnhagcgaaDoor
namespace RX
set_option linter.unusedVariables false

/-- New tables on the way to va, below level L. -/
def addT (F : Tabs) (va : Nat) : Nat → List Nat → Tabs
  | _, [] => F
  | L, f :: fs => addT (updF F (L - 1) (va / EN.sz (L - 1)) (some f)) va (L - 1) fs
def frT (fr : Nat → Nat) : Nat → List Nat → Nat → Nat
  | _, [] => fr
  | L, f :: fs => frT (fun k => if k = L - 1 then f else fr k) (L - 1) fs

/-- A way that ends at level L, where no word is. -/
structure Open (F : Tabs) (G : Pags) (va L : Nat) (fr : Nat → Nat) : Prop extends Way F va L fr where
  noF : F (L - 1) (va / EN.sz (L - 1)) = none
  noG : G L (va / EN.sz (L - 1)) = none

section
variable {F : Tabs} {G : Pags} {M : Nat → Option (Nat → Nat)} {r n : Nat}

theorem open_of {va lo L : Nat} {fr : Nat → Nat} (h : Desc F va lo L fr) (hp : pres F G L (va / EN.sz (L - 1)) = false) : Open F G va L fr := by
  unfold pres at hp
  simp only [Bool.or_eq_false_iff, Option.isSome_eq_false_iff, Option.isNone_iff_eq_none] at hp
  exact ⟨h.toWay, hp.1, hp.2⟩

theorem open_step (I : Inv F G r n) (R : Rep M F G) {va L f : Nat} {fr : Nat → Nat} (h : Open F G va L fr) (h2 : 2 ≤ L) (hfr : ∀ a b, F a b ≠ some f) (hf : f < n) :
    Inv (updF F (L - 1) (va / EN.sz (L - 1)) (some f)) G r n ∧
    Rep (upd (upd M (fr L) (some (wset ((M (fr L)).getD zero) (EN.idx va L) (EN.wd false 7 f)))) f (some zero)) (updF F (L - 1) (va / EN.sz (L - 1)) (some f)) G ∧
    Open (updF F (L - 1) (va / EN.sz (L - 1)) (some f)) G va (L - 1) (fun k => if k = L - 1 then f else fr k) := by
  have e1 := at_sz va L h.l1
  have hon := h.on L (Nat.le_refl _) h.l4
  have hi := EN.idx_lt va L
  have hn := h.noF
  have hg := h.noG
  have h4 := h.l4
  rw [← e1] at hn hg ⊢
  refine ⟨inv_table I hon h2 hi hn hg hfr hf, rep_table I R hon h2 hi hn hfr, ⟨by omega, by omega, fun k hk1 hk2 => ?_, fun k hk => ?_⟩, ?_, ?_⟩
  · by_cases e : k = L - 1
    · subst e
      rw [if_pos rfl, ← e1, updF_at]
    · rw [if_neg e, updF_ne (by omega)]
      exact h.on k (by omega) hk2
  · rw [if_neg (by omega)]
    exact h.off k (by omega)
  · rw [updF_ne (by omega)]
    cases hc : F (L - 1 - 1) (va / EN.sz (L - 1 - 1)) with
    | none => rfl
    | some y =>
      have h3 := I.lev hc
      obtain ⟨y', hy⟩ := I.up hc (by omega)
      rw [show L - 1 - 1 + 1 = L - 1 by omega, sz_down va (L - 1) (by omega), ← e1, hn] at hy
      cases hy
  · cases hc : G (L - 1) (va / EN.sz (L - 1 - 1)) with
    | none => rfl
    | some y =>
      obtain ⟨y', hy⟩ := I.way hc
      rw [sz_down va (L - 1) (by omega), ← e1, hn] at hy
      cases hy
end
end RX
end Go.Proofs.YthiojnbnhagcgaaDoor

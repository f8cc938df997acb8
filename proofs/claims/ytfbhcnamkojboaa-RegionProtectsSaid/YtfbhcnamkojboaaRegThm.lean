/- What follows of the program's answers alone: adding and cutting, in either order, in pieces. -/
import Derived.Test.YtfbhcnamkojboaaRegApi2
namespace Go.Proofs.Ytfbhcnamkojboaa
set_option linter.unusedVariables false
set_option linter.unusedSimpArgs false
open RG (Rg)

theorem adE_cases (l : List Rg) (r : Rg) : adE l r = 0 ∨ (adE l r = 2 ∧ adL l r = []) ∨ (adE l r = 102 ∧ adL l r = []) := by
  unfold adE adL
  by_cases h : RG.Ok true none l ∧ RG.good r
  · by_cases hp : RG.parts r.f r.t l = []
    · left; rw [if_pos h, if_pos hp]
    · right; right; rw [if_pos h, if_neg hp, if_neg (fun x => hp x.2.2)]; exact ⟨rfl, rfl⟩
  · right; left; rw [if_neg h, if_neg (fun x => h ⟨x.1, x.2.1⟩)]; exact ⟨rfl, rfl⟩
theorem adE_zero {l : List Rg} {r : Rg} (h : adE l r = 0) : RG.Ok true none l ∧ RG.good r ∧ RG.parts r.f r.t l = [] ∧ adL l r = RG.rep l r.f r.t [r] := by
  unfold adE at h
  by_cases h1 : RG.Ok true none l ∧ RG.good r
  · rw [if_pos h1] at h
    by_cases hp : RG.parts r.f r.t l = []
    · exact ⟨h1.1, h1.2, hp, by unfold adL; rw [if_pos ⟨h1.1, h1.2, hp⟩]⟩
    · rw [if_neg hp] at h; cases h
  · rw [if_neg h1] at h; cases h
theorem ok_one {r : Rg} (h : RG.good r) : RG.Ok false none [r] := ⟨⟨h, fun _ e => by cases e⟩, trivial⟩
theorem ad_rep {l : List Rg} {r : Rg} (h1 : RG.Ok true none l) (h2 : RG.good r) : RG.Ok true none (RG.rep l r.f r.t [r]) ∧ ∀ a, RG.D (RG.rep l r.f r.t [r]) a = if r.f ≤ a ∧ a < r.t then some (r.p, r.k) else RG.D l a := by
  obtain ⟨q1, q2⟩ := RG.rep_ok h1 h2.1 (ok_one h2) (fun x hx => by rw [List.mem_singleton.1 hx]; exact ⟨Nat.le_refl _, Nat.le_refl _⟩)
  refine ⟨q1, fun a => ?_⟩
  rw [q2]
  by_cases c : r.f ≤ a ∧ a < r.t
  · rw [if_pos c, if_pos c]
    simp only [RG.D]
    rw [if_pos c]
  · rw [if_neg c, if_neg c]

/-- What was added is there, alone in its range, and goes again. -/
theorem reg_back {l : List Rg} {r : Rg} (h : adE l r = 0) : ctE (adL l r) r.f r.t = 0 ∧ ctL (adL l r) r.f r.t = l ∧ ctO (adL l r) r.f r.t = [r] ∧
    ∃ (x : Rg), atV (adL l r) r.f = .tuple #[ra x, .bool true] ∧ x.p = r.p ∧ x.k = r.k := by
  obtain ⟨h1, h2, h3, h4⟩ := adE_zero h
  obtain ⟨m1, m2⟩ := ad_rep h1 h2
  rw [h4]
  have hfree := RG.parts_nil.1 h3
  have hft := h2.1.2.2.1
  refine ⟨by unfold ctE; rw [if_pos ⟨m1, h2.1⟩], ?_, ?_, ?_⟩
  · unfold ctL
    rw [if_pos ⟨m1, h2.1⟩]
    obtain ⟨n1, n2⟩ := RG.rep_ok (m := []) m1 h2.1 trivial (fun _ hx => by cases hx)
    refine RG.ok_unique _ _ none none n1 h1 (fun a => ?_)
    rw [n2]
    by_cases c : r.f ≤ a ∧ a < r.t
    · rw [if_pos c, hfree a c.1 c.2]; rfl
    · rw [if_neg c, m2, if_neg c]
  · unfold ctO
    rw [if_pos ⟨m1, h2.1⟩]
    refine RG.ok_unique _ _ none none (RG.ok_parts _ _ h2.1.1 h2.1.2.1 m1) ⟨⟨h2, fun _ e => by cases e⟩, trivial⟩ (fun a => ?_)
    rw [RG.D_parts, m2]
    simp only [RG.D]
    by_cases c : r.f ≤ a ∧ a < r.t
    · rw [if_pos c, if_pos c, if_pos c]
    · rw [if_neg c, if_neg c]
  · have hva : r.f < 140737488355328 := by have := h2.1.2.2.2; omega
    have hD := m2 r.f
    rw [if_pos ⟨Nat.le_refl _, hft⟩] at hD
    unfold atV
    rw [if_pos ⟨m1, hva⟩]
    have key : ∀ (L : List Rg), RG.D L r.f = some (r.p, r.k) → ∃ x X, RG.meeting r.f (r.f + 1) L = x :: X ∧ x.p = r.p ∧ x.k = r.k := by
      intro L
      induction L with
      | nil => intro e; cases e
      | cons y L ih =>
        intro e
        simp only [RG.D] at e
        rw [RG.meeting_cons]
        by_cases c : y.f ≤ r.f ∧ r.f < y.t
        · rw [if_pos c] at e
          rw [if_pos (show RG.meets r.f (r.f + 1) y by show max y.f r.f < min y.t (r.f + 1); omega)]
          simp only [Option.some.injEq, Prod.mk.injEq] at e
          exact ⟨y, _, rfl, e.1, e.2⟩
        · rw [if_neg c] at e
          rw [if_neg (show ¬ RG.meets r.f (r.f + 1) y by show ¬ max y.f r.f < min y.t (r.f + 1); omega)]
          exact ih e
    obtain ⟨x, X, e, e1, e2⟩ := key _ hD
    rw [e]
    exact ⟨x, rfl, e1, e2⟩

/-- In either order. -/
theorem reg_order {l : List Rg} {a b : Rg} (h1 : adE l a = 0) (h2 : adE (adL l a) b = 0) : adE l b = 0 ∧ adE (adL l b) a = 0 ∧ adL (adL l a) b = adL (adL l b) a := by
  obtain ⟨o1, g1, p1, e1⟩ := adE_zero h1
  obtain ⟨o2, g2, p2, e2⟩ := adE_zero h2
  rw [e1] at o2 p2 e2
  obtain ⟨m1, m2⟩ := ad_rep o1 g1
  have f1 := RG.parts_nil.1 p1
  have f2 := RG.parts_nil.1 p2
  have apart : ∀ x, ¬ ((a.f ≤ x ∧ x < a.t) ∧ (b.f ≤ x ∧ x < b.t)) := fun x hx => by
    have := f2 x hx.2.1 hx.2.2
    rw [m2, if_pos hx.1] at this
    cases this
  have p3 : RG.parts b.f b.t l = [] := RG.parts_nil.2 fun x hx1 hx2 => by
    have := f2 x hx1 hx2
    rwa [m2, if_neg (fun hx => apart x ⟨hx, hx1, hx2⟩)] at this
  obtain ⟨z1, z2⟩ := ad_rep o1 g2
  have e3 : adL l b = RG.rep l b.f b.t [b] := by unfold adL; rw [if_pos ⟨o1, g2, p3⟩]
  have p4 : RG.parts a.f a.t (RG.rep l b.f b.t [b]) = [] := RG.parts_nil.2 fun x hx1 hx2 => by
    rw [z2, if_neg (fun hx => apart x ⟨⟨hx1, hx2⟩, hx⟩)]
    exact f1 x hx1 hx2
  refine ⟨by unfold adE; rw [if_pos ⟨o1, g2⟩, if_pos p3], ?_, ?_⟩
  · rw [e3]
    unfold adE; rw [if_pos ⟨z1, g1⟩, if_pos p4]
  · rw [e1, e2, e3]
    unfold adL
    rw [if_pos ⟨z1, g1, p4⟩]
    obtain ⟨y1, y2⟩ := ad_rep m1 g2
    obtain ⟨w1, w2⟩ := ad_rep z1 g1
    refine RG.ok_unique _ _ none none y1 w1 (fun x => ?_)
    rw [y2, w2, m2, z2]
    have := apart x
    by_cases c1 : a.f ≤ x ∧ x < a.t
    · rw [if_neg (fun c2 => this ⟨c1, c2⟩), if_pos c1, if_pos c1]
    · rw [if_neg c1, if_neg c1]

theorem ctE_zero {l : List Rg} {lo hi : Nat} (h : ctE l lo hi = 0) : RG.Ok true none l ∧ RG.isRange lo hi ∧ ctL l lo hi = RG.rep l lo hi [] ∧ ctO l lo hi = RG.parts lo hi l := by
  unfold ctE at h
  by_cases h1 : RG.Ok true none l ∧ RG.isRange lo hi
  · exact ⟨h1.1, h1.2, by unfold ctL; rw [if_pos h1], by unfold ctO; rw [if_pos h1]⟩
  · rw [if_neg h1] at h; cases h
theorem ctE_cases (l : List Rg) (lo hi : Nat) : ctE l lo hi = 0 ∨ ctE l lo hi = 2 := by
  unfold ctE
  split
  · exact .inl rfl
  · exact .inr rfl
theorem ctO_ok (l : List Rg) (lo hi : Nat) : RG.Ok true none (ctO l lo hi) := by
  unfold ctO
  split
  · rename_i h; exact RG.ok_parts lo hi h.2.1 h.2.2.1 h.1
  · trivial
/-- In two pieces, or at once. -/
theorem reg_pieces {l : List Rg} {x y z : Nat} (h1 : ctE l x z = 0) (h2 : ctE l x y = 0) (h3 : ctE (ctL l x y) y z = 0) :
    ctL l x z = ctL (ctL l x y) y z ∧ RG.Sz (ctO l x z) = RG.Sz (ctO l x y) + RG.Sz (ctO (ctL l x y) y z) := by
  obtain ⟨o1, r1, e1, q1⟩ := ctE_zero h1
  obtain ⟨o2, r2, e2, q2⟩ := ctE_zero h2
  obtain ⟨o3, r3, e3, q3⟩ := ctE_zero h3
  rw [e2] at o3 e3 q3
  have hxy := r2.2.2.1
  have hyz := r3.2.2.1
  obtain ⟨a1, a2⟩ := RG.rep_ok (m := []) o1 r1 trivial (fun _ hx => by cases hx)
  obtain ⟨b1, b2⟩ := RG.rep_ok (m := []) o1 r2 trivial (fun _ hx => by cases hx)
  obtain ⟨c1, c2⟩ := RG.rep_ok (m := []) o3 r3 trivial (fun _ hx => by cases hx)
  have hp : RG.parts y z (RG.rep l x y []) = RG.parts y z l := by
    refine RG.ok_unique _ _ none none (RG.ok_parts y z r3.1 r3.2.1 o3) (RG.ok_parts y z r3.1 r3.2.1 o1) (fun a => ?_)
    rw [RG.D_parts, RG.D_parts]
    by_cases c : y ≤ a ∧ a < z
    · rw [if_pos c, if_pos c, b2, if_neg (by omega)]
    · rw [if_neg c, if_neg c]
  refine ⟨?_, ?_⟩
  · rw [e1, e2, e3]
    refine RG.ok_unique _ _ none none a1 c1 (fun a => ?_)
    rw [a2, c2, b2]
    by_cases c : x ≤ a ∧ a < y
    · rw [if_pos (by omega), if_neg (by omega), if_pos c]
    · by_cases d : y ≤ a ∧ a < z
      · rw [if_pos (by omega), if_pos d]
      · rw [if_neg (by omega), if_neg d, if_neg c]
  · rw [q1, q2, e2, q3, hp]
    exact RG.Sz_parts x y z (by omega) (by omega) l
end Go.Proofs.Ytfbhcnamkojboaa

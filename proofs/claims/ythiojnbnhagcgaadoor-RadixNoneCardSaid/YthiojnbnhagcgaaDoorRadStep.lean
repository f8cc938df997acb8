/- Page tables, on plain numbers: what a word that is laid does to tables and pages. -/
import Derived.Test.YthiojnbnhagcgaaDoorRadMath
import Derived.Test.YthiojnbnhagcgaaDoorRadMap
import Derived.Test.YthiojnbnhagcgaaDoorFrameMath
namespace Go.Proofs.YthiojnbnhagcgaaDoor
namespace RX
set_option linter.unusedVariables false

def updF (F : Tabs) (l c : Nat) (x : Option Nat) : Tabs := fun a b => if a = l ∧ b = c then x else F a b
def updG (G : Pags) (l c : Nat) (x : Option (Nat × Int)) : Pags := fun a b => if a = l ∧ b = c then x else G a b
theorem updF_at (F : Tabs) (l c : Nat) (x : Option Nat) : updF F l c x l c = x := by simp [updF]
theorem updF_ne {F : Tabs} {l c : Nat} {x : Option Nat} {a b : Nat} (h : ¬ (a = l ∧ b = c)) : updF F l c x a b = F a b := by simp [updF, h]
theorem updG_at (G : Pags) (l c : Nat) (x : Option (Nat × Int)) : updG G l c x l c = x := by simp [updG]
theorem updG_ne {G : Pags} {l c : Nat} {x : Option (Nat × Int)} {a b : Nat} (h : ¬ (a = l ∧ b = c)) : updG G l c x a b = G a b := by simp [updG, h]

theorem upd_at (M : Nat → Option (Nat → Nat)) (f : Nat) (x : Option (Nat → Nat)) : upd M f x f = x := by simp [upd]
theorem upd_ne {M : Nat → Option (Nat → Nat)} {f g : Nat} {x : Option (Nat → Nat)} (h : g ≠ f) : upd M f x g = M g := by simp [upd, h]
theorem wset_at (ws : Nat → Nat) (i v : Nat) : wset ws i v i = v := by simp [wset]
theorem wset_ne {ws : Nat → Nat} {i v j : Nat} (h : j ≠ i) : wset ws i v j = ws j := by simp [wset, h]

section
variable {F : Tabs} {G : Pags} {M : Nat → Option (Nat → Nat)} {r n : Nat}

theorem word_congr {F F' : Tabs} {G G' : Pags} {l c : Nat} (h1 : F' (l - 1) c = F (l - 1) c) (h2 : G' l c = G l c) : word F' G' l c = word F G l c := by unfold word; rw [h1, h2]

/-- A page's word is laid, or struck. -/
theorem rep_page (I : Inv F G r n) (R : Rep M F G) {l j f i : Nat} (hf : F l j = some f) (hi : i < 512) (x : Option (Nat × Int)) :
    Rep (upd M f (some (wset ((M f).getD zero) i (word F (updG G l (512 * j + i) x) l (512 * j + i))))) F (updG G l (512 * j + i) x) := by
  obtain ⟨ws, hM, hw⟩ := R.yes hf
  refine ⟨fun {l' j' f'} h' => ?_, fun {f'} h' => ?_⟩
  · by_cases e : f' = f
    · subst e
      obtain ⟨rfl, rfl⟩ := I.inj h' hf
      refine ⟨_, upd_at _ _ _, fun i' hi' => ?_⟩
      rw [hM]
      by_cases e2 : i' = i
      · subst e2; exact wset_at _ _ _
      · rw [wset_ne e2]
        show ws i' = _
        rw [hw i' hi']
        exact (word_congr rfl (updG_ne (by omega))).symm
    · obtain ⟨vs, hM', hv⟩ := R.yes h'
      refine ⟨vs, (upd_ne e).trans hM', fun i' hi' => ?_⟩
      rw [hv i' hi']
      refine (word_congr rfl (updG_ne ?_)).symm
      rintro ⟨rfl, e3⟩
      have : j' = j := by omega
      subst this
      rw [hf] at h'
      exact e (Option.some.inj h').symm
  · rw [upd_ne (fun e => h' l j (by rw [e]; exact hf))]
    exact R.no h'

/-- A table is laid. -/
theorem rep_table (I : Inv F G r n) (R : Rep M F G) {l j f i f' : Nat} (hf : F l j = some f) (h2 : 2 ≤ l) (hi : i < 512) (hn : F (l - 1) (512 * j + i) = none) (hfr : ∀ a b, F a b ≠ some f') :
    Rep (upd (upd M f (some (wset ((M f).getD zero) i (EN.wd false 7 f')))) f' (some zero)) (updF F (l - 1) (512 * j + i) (some f')) G := by
  obtain ⟨ws, hM, hw⟩ := R.yes hf
  have hff : f ≠ f' := fun e => hfr l j (by rw [← e]; exact hf)
  refine ⟨fun {l' j' g} h' => ?_, fun {g} h' => ?_⟩
  · by_cases e0 : l' = l - 1 ∧ j' = 512 * j + i
    · obtain ⟨rfl, rfl⟩ := e0
      rw [updF_at] at h'
      obtain rfl : f' = g := Option.some.inj h'
      refine ⟨_, upd_at _ _ _, fun i' hi' => ?_⟩
      have hd : (512 * (512 * j + i) + i') / 512 = 512 * j + i := by omega
      have hF0 : F (l - 1 - 1) (512 * (512 * j + i) + i') = none := by
        cases hc : F (l - 1 - 1) (512 * (512 * j + i) + i') with
        | none => rfl
        | some y =>
          have h3 := I.lev hc
          have := I.lev hf
          obtain ⟨y', hy⟩ := I.up hc (by omega)
          rw [show l - 1 - 1 + 1 = l - 1 by omega, hd, hn] at hy
          cases hy
      have hG0 : G (l - 1) (512 * (512 * j + i) + i') = none := by
        cases hc : G (l - 1) (512 * (512 * j + i) + i') with
        | none => rfl
        | some y =>
          obtain ⟨y', hy⟩ := I.way hc
          rw [hd, hn] at hy
          cases hy
      unfold word
      rw [updF_ne (by omega), hF0, hG0]
      rfl
    · rw [updF_ne e0] at h'
      have hl' := I.lev h'
      by_cases e : g = f
      · subst e
        obtain ⟨rfl, rfl⟩ := I.inj h' hf
        refine ⟨_, (upd_ne hff).trans (upd_at _ _ _), fun i' hi' => ?_⟩
        rw [hM]
        by_cases e2 : i' = i
        · subst e2
          rw [wset_at]
          unfold word
          rw [updF_at]
        · rw [wset_ne e2]
          show ws i' = _
          rw [hw i' hi']
          exact (word_congr (updF_ne (by omega)) rfl).symm
      · obtain ⟨vs, hM', hv⟩ := R.yes h'
        have hg' : g ≠ f' := fun e => hfr l' j' (by rw [← e]; exact h')
        refine ⟨vs, (upd_ne hg').trans ((upd_ne e).trans hM'), fun i' hi' => ?_⟩
        rw [hv i' hi']
        refine (word_congr (updF_ne ?_) rfl).symm
        rintro ⟨e1, e3⟩
        have e4 : j' = j := by omega
        have e5 : l' = l := by omega
        subst e4; subst e5
        rw [hf] at h'
        exact e (Option.some.inj h').symm
  · have hg' : g ≠ f' := fun e => h' (l - 1) (512 * j + i) (by rw [updF_at, e])
    have hgf : g ≠ f := fun e => h' l j (by rw [updF_ne (by omega), hf, e])
    rw [upd_ne hg', upd_ne hgf]
    refine R.no fun a b hab => h' a b ?_
    rw [updF_ne, hab]
    rintro ⟨rfl, rfl⟩
    rw [hn] at hab
    cases hab

theorem inv_table (I : Inv F G r n) {l j f i f' : Nat} (hf : F l j = some f) (h2 : 2 ≤ l) (hi : i < 512) (hn : F (l - 1) (512 * j + i) = none) (hg : G l (512 * j + i) = none) (hfr : ∀ a b, F a b ≠ some f') (hf' : f' < n) :
    Inv (updF F (l - 1) (512 * j + i) (some f')) G r n := by
  have hl := I.lev hf
  refine ⟨I.n2, ?_, fun {a b g} h => ?_, fun {a b a' b' g} h h' => ?_, I.page, fun {a b g} h h3 => ?_, fun {k c x} h => ?_, fun {c x} h => ?_⟩
  · rw [updF_ne (by omega)]; exact I.root
  · by_cases e : a = l - 1 ∧ b = 512 * j + i
    · rw [e.1, e.2, updF_at] at h
      have := Option.some.inj h
      omega
    · rw [updF_ne e] at h; exact I.lev h
  · by_cases e : a = l - 1 ∧ b = 512 * j + i
    · by_cases e' : a' = l - 1 ∧ b' = 512 * j + i
      · omega
      · rw [e.1, e.2, updF_at] at h
        rw [updF_ne e'] at h'
        obtain rfl := Option.some.inj h
        exact absurd h' (hfr _ _)
    · by_cases e' : a' = l - 1 ∧ b' = 512 * j + i
      · rw [e'.1, e'.2, updF_at] at h'
        rw [updF_ne e] at h
        obtain rfl := Option.some.inj h'
        exact absurd h (hfr _ _)
      · rw [updF_ne e] at h; rw [updF_ne e'] at h'; exact I.inj h h'
  · by_cases e : a = l - 1 ∧ b = 512 * j + i
    · obtain ⟨rfl, rfl⟩ := e
      have e1 : (512 * j + i) / 512 = j := by omega
      rw [updF_ne (by omega), e1, show l - 1 + 1 = l by omega]
      exact ⟨f, hf⟩
    · rw [updF_ne e] at h
      obtain ⟨y, hy⟩ := I.up h h3
      by_cases e2 : a + 1 = l - 1 ∧ b / 512 = 512 * j + i
      · rw [e2.1, e2.2, updF_at]; exact ⟨_, rfl⟩
      · rw [updF_ne e2]; exact ⟨y, hy⟩
  · obtain ⟨y, hy⟩ := I.way h
    by_cases e2 : k = l - 1 ∧ c / 512 = 512 * j + i
    · rw [e2.1, e2.2, updF_at]; exact ⟨_, rfl⟩
    · rw [updF_ne e2]; exact ⟨y, hy⟩
  · rw [updF_ne]
    · exact I.apart h
    · rintro ⟨e1, rfl⟩
      have : l = 2 := by omega
      subst this
      rw [hg] at h
      cases h

theorem inv_page (I : Inv F G r n) {k c f f0 : Nat} {P : Int} (hk : 1 ≤ k ∧ k ≤ 2) (hr : EN.right false (decide (k = 2)) P f k) (hc : c * EN.sz (k - 1) < 140737488355328) (h0 : F k (c / 512) = some f0) (h1 : k = 2 → F 1 c = none) : Inv F (updG G k c (some (f, P))) r n := by
  refine ⟨I.n2, I.root, I.lev, I.inj, fun {k' c' f' p'} h => ?_, I.up, fun {k' c' x} h => ?_, fun {c' x} h => ?_⟩
  · by_cases e : k' = k ∧ c' = c
    · obtain ⟨rfl, rfl⟩ := e
      rw [updG_at] at h
      obtain ⟨rfl, rfl⟩ := Prod.mk.inj (Option.some.inj h)
      exact ⟨hk.1, hk.2, hr, hc⟩
    · rw [updG_ne e] at h; exact I.page h
  · by_cases e : k' = k ∧ c' = c
    · obtain ⟨rfl, rfl⟩ := e; exact ⟨f0, h0⟩
    · rw [updG_ne e] at h; exact I.way h
  · by_cases e : 2 = k ∧ c' = c
    · rw [e.2]; exact h1 e.1.symm
    · rw [updG_ne e] at h; exact I.apart h

theorem inv_strike (I : Inv F G r n) (k c : Nat) : Inv F (updG G k c none) r n := by
  refine ⟨I.n2, I.root, I.lev, I.inj, fun {k' c' f' p'} h => ?_, I.up, fun {k' c' x} h => ?_, fun {c' x} h => ?_⟩
  · by_cases e : k' = k ∧ c' = c
    · rw [e.1, e.2, updG_at] at h; cases h
    · rw [updG_ne e] at h; exact I.page h
  · by_cases e : k' = k ∧ c' = c
    · rw [e.1, e.2, updG_at] at h; cases h
    · rw [updG_ne e] at h; exact I.way h
  · by_cases e : 2 = k ∧ c' = c
    · rw [e.1, e.2, updG_at] at h; cases h
    · rw [updG_ne e] at h; exact I.apart h

/-- A table that is empty is taken away. -/
theorem rep_drop (I : Inv F G r n) (R : Rep M F G) {l j f i f0 : Nat} (hf : F l j = some f) (hi : i < 512) (h0 : F (l - 1) (512 * j + i) = some f0) (hg : G l (512 * j + i) = none) :
    Rep (upd (upd M f0 none) f (some (wset (((upd M f0 none) f).getD zero) i 0))) (updF F (l - 1) (512 * j + i) none) G := by
  obtain ⟨ws, hM, hw⟩ := R.yes hf
  have hl0 := I.lev h0
  have hl := I.lev hf
  have hff : f ≠ f0 := fun e => by
    subst e
    have := I.inj hf h0
    omega
  refine ⟨fun {l' j' g} h' => ?_, fun {g} h' => ?_⟩
  · by_cases e0 : l' = l - 1 ∧ j' = 512 * j + i
    · rw [e0.1, e0.2, updF_at] at h'; cases h'
    · rw [updF_ne e0] at h'
      have hl' := I.lev h'
      by_cases e : g = f
      · subst e
        obtain ⟨rfl, rfl⟩ := I.inj h' hf
        refine ⟨_, upd_at _ _ _, fun i' hi' => ?_⟩
        rw [upd_ne hff, hM]
        by_cases e2 : i' = i
        · subst e2
          rw [wset_at]
          unfold word
          rw [updF_at, hg]
        · rw [wset_ne e2]
          show ws i' = _
          rw [hw i' hi']
          exact (word_congr (updF_ne (by omega)) rfl).symm
      · obtain ⟨vs, hM', hv⟩ := R.yes h'
        have hg0 : g ≠ f0 := fun e => by
          subst e
          have := I.inj h' h0
          omega
        refine ⟨vs, (upd_ne e).trans ((upd_ne hg0).trans hM'), fun i' hi' => ?_⟩
        rw [hv i' hi']
        refine (word_congr (updF_ne ?_) rfl).symm
        rintro ⟨e1, e3⟩
        have e4 : j' = j := by omega
        have e5 : l' = l := by omega
        subst e4; subst e5
        rw [hf] at h'
        exact e (Option.some.inj h').symm
  · have hgf : g ≠ f := fun e => h' l j (by rw [updF_ne (by omega), hf, e])
    rw [upd_ne hgf]
    by_cases e : g = f0
    · rw [e, upd_at]
    · rw [upd_ne e]
      refine R.no fun a b hab => h' a b ?_
      rw [updF_ne, hab]
      rintro ⟨rfl, rfl⟩
      rw [h0] at hab
      exact e (Option.some.inj hab).symm

theorem inv_drop (I : Inv F G r n) {l j : Nat} (hl : l ≤ 3) (he : ∀ i, i < 512 → pres F G l (512 * j + i) = false) : Inv (updF F l j none) G r n := by
  have hFn : ∀ c, c / 512 = j → F (l - 1) c = none ∧ G l c = none := fun c hc => by
    have := he (c % 512) (Nat.mod_lt _ (by decide))
    rw [show 512 * j + c % 512 = c by omega] at this
    unfold pres at this
    simpa using this
  refine ⟨I.n2, ?_, fun {a b g} h => ?_, fun {a b a' b' g} h h' => ?_, I.page, fun {a b g} h h3 => ?_, fun {k c x} h => ?_, fun {c x} h => ?_⟩
  · rw [updF_ne (by omega)]; exact I.root
  · by_cases e : a = l ∧ b = j
    · rw [e.1, e.2, updF_at] at h; cases h
    · rw [updF_ne e] at h; exact I.lev h
  · by_cases e : a = l ∧ b = j
    · rw [e.1, e.2, updF_at] at h; cases h
    · by_cases e' : a' = l ∧ b' = j
      · rw [e'.1, e'.2, updF_at] at h'; cases h'
      · rw [updF_ne e] at h; rw [updF_ne e'] at h'; exact I.inj h h'
  · by_cases e : a = l ∧ b = j
    · rw [e.1, e.2, updF_at] at h; cases h
    · rw [updF_ne e] at h
      rw [updF_ne]
      · exact I.up h h3
      · rintro ⟨e1, e2⟩
        have := (hFn b e2).1
        rw [show l - 1 = a by omega, h] at this
        cases this
  · rw [updF_ne]
    · exact I.way h
    · rintro ⟨rfl, e2⟩
      have := (hFn c e2).2
      rw [h] at this
      cases this
  · by_cases e : 1 = l ∧ c = j
    · rw [e.1, e.2, updF_at]
    · rw [updF_ne e]; exact I.apart h
end
end RX
end Go.Proofs.YthiojnbnhagcgaaDoor

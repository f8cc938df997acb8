/- Unmap and Protect of no tree, and of wrong arguments. -/
import Derived.Test.YtkomahekdcaiaaaGreatDoorZS01
import Derived.Deep.RegionLaw
import Derived.RegionTactic
import Derived.Deep.RegionHeld3
import Derived.Deep.OwnRows
import Derived.WalkKit
import Derived.ProofKit
import Derived.OpenShut
import Derived.Outline
import Derived.WalkLawsBesides
import Derived.Deep.QuietTactic
import Derived.BigQuiet
import Derived.Deep.RegionWith
import Derived.Deep.DeepAppendWide
import Derived.Laws.AppendOwnNone
import Derived.Maps.AppendAt
import Derived.WalkSmall
import Derived.Defers
import Derived.Recover
import Derived.Laws.Pointers
import Derived.Tactics2

/- Page tables, on plain numbers: what a word that is laid does to tables and pages. -/
namespace Go.Proofs.YtkomahekdcaiaaaGreatDoor
namespace RX
set_option linter.unusedVariables false

def updF (F : Tabs) (l c : Nat) (x : Option Nat) : Tabs := fun a b => if a = l ∧ b = c then x else F a b
def updG (G : Pags) (l c : Nat) (x : Option (Nat × Int)) : Pags := fun a b => if a = l ∧ b = c then x else G a b
theorem updF_at (F : Tabs) (l c : Nat) (x : Option Nat) : updF F l c x l c = x := by simp [updF]
theorem updF_ne {F : Tabs} {l c : Nat} {x : Option Nat} {a b : Nat} (h : ¬ (a = l ∧ b = c)) : updF F l c x a b = F a b := by simp [updF, h]
theorem updG_at (G : Pags) (l c : Nat) (x : Option (Nat × Int)) : updG G l c x l c = x := by simp [updG]
theorem updG_ne {G : Pags} {l c : Nat} {x : Option (Nat × Int)} {a b : Nat} (h : ¬ (a = l ∧ b = c)) : updG G l c x a b = G a b := by simp [updG, h]

theorem upd_at (M : Nat → Option (Nat → Nat)) (f : Nat) (x : Option (Nat → Nat)) : upd M f x f = x := by simp [upd]
theorem upd_ne {M : Nat → Option (Nat → Nat)} {f g : Nat} {x : Option (Nat → Nat)} (h : g ≠ f) : upd M f x g = M g := by simp [upd, h]
theorem wset_at (ws : Nat → Nat) (i v : Nat) : wset ws i v i = v := by simp [wset]
theorem wset_ne {ws : Nat → Nat} {i v j : Nat} (h : j ≠ i) : wset ws i v j = ws j := by simp [wset, h]

section
variable {F : Tabs} {G : Pags} {M : Nat → Option (Nat → Nat)} {r n : Nat}

theorem word_congr {F F' : Tabs} {G G' : Pags} {l c : Nat} (h1 : F' (l - 1) c = F (l - 1) c) (h2 : G' l c = G l c) : word F' G' l c = word F G l c := by unfold word; rw [h1, h2]

/-- A page's word is laid, or struck. -/
theorem rep_page (I : Inv F G r n) (R : Rep M F G) {l j f i : Nat} (hf : F l j = some f) (hi : i < 512) (x : Option (Nat × Int)) :
    Rep (upd M f (some (wset ((M f).getD zero) i (word F (updG G l (512 * j + i) x) l (512 * j + i))))) F (updG G l (512 * j + i) x) := by
  obtain ⟨ws, hM, hw⟩ := R.yes hf
  refine ⟨fun {l' j' f'} h' => ?_, fun {f'} h' => ?_⟩
  · by_cases e : f' = f
    · subst e
      obtain ⟨rfl, rfl⟩ := I.inj h' hf
      refine ⟨_, upd_at _ _ _, fun i' hi' => ?_⟩
      rw [hM]
      by_cases e2 : i' = i
      · subst e2; exact wset_at _ _ _
      · rw [wset_ne e2]
        show ws i' = _
        rw [hw i' hi']
        exact (word_congr rfl (updG_ne (by omega))).symm
    · obtain ⟨vs, hM', hv⟩ := R.yes h'
      refine ⟨vs, (upd_ne e).trans hM', fun i' hi' => ?_⟩
      rw [hv i' hi']
      refine (word_congr rfl (updG_ne ?_)).symm
      rintro ⟨rfl, e3⟩
      have : j' = j := by omega
      subst this
      rw [hf] at h'
      exact e (Option.some.inj h').symm
  · rw [upd_ne (fun e => h' l j (by rw [e]; exact hf))]
    exact R.no h'

/-- A table is laid. -/
theorem rep_table (I : Inv F G r n) (R : Rep M F G) {l j f i f' : Nat} (hf : F l j = some f) (h2 : 2 ≤ l) (hi : i < 512) (hn : F (l - 1) (512 * j + i) = none) (hfr : ∀ a b, F a b ≠ some f') :
    Rep (upd (upd M f (some (wset ((M f).getD zero) i (EN.wd false 7 f')))) f' (some zero)) (updF F (l - 1) (512 * j + i) (some f')) G := by
  obtain ⟨ws, hM, hw⟩ := R.yes hf
  have hff : f ≠ f' := fun e => hfr l j (by rw [← e]; exact hf)
  refine ⟨fun {l' j' g} h' => ?_, fun {g} h' => ?_⟩
  · by_cases e0 : l' = l - 1 ∧ j' = 512 * j + i
    · obtain ⟨rfl, rfl⟩ := e0
      rw [updF_at] at h'
      obtain rfl : f' = g := Option.some.inj h'
      refine ⟨_, upd_at _ _ _, fun i' hi' => ?_⟩
      have hd : (512 * (512 * j + i) + i') / 512 = 512 * j + i := by omega
      have hF0 : F (l - 1 - 1) (512 * (512 * j + i) + i') = none := by
        cases hc : F (l - 1 - 1) (512 * (512 * j + i) + i') with
        | none => rfl
        | some y =>
          have h3 := I.lev hc
          have := I.lev hf
          obtain ⟨y', hy⟩ := I.up hc (by omega)
          rw [show l - 1 - 1 + 1 = l - 1 by omega, hd, hn] at hy
          cases hy
      have hG0 : G (l - 1) (512 * (512 * j + i) + i') = none := by
        cases hc : G (l - 1) (512 * (512 * j + i) + i') with
        | none => rfl
        | some y =>
          obtain ⟨y', hy⟩ := I.way hc
          rw [hd, hn] at hy
          cases hy
      unfold word
      rw [updF_ne (by omega), hF0, hG0]
      rfl
    · rw [updF_ne e0] at h'
      have hl' := I.lev h'
      by_cases e : g = f
      · subst e
        obtain ⟨rfl, rfl⟩ := I.inj h' hf
        refine ⟨_, (upd_ne hff).trans (upd_at _ _ _), fun i' hi' => ?_⟩
        rw [hM]
        by_cases e2 : i' = i
        · subst e2
          rw [wset_at]
          unfold word
          rw [updF_at]
        · rw [wset_ne e2]
          show ws i' = _
          rw [hw i' hi']
          exact (word_congr (updF_ne (by omega)) rfl).symm
      · obtain ⟨vs, hM', hv⟩ := R.yes h'
        have hg' : g ≠ f' := fun e => hfr l' j' (by rw [← e]; exact h')
        refine ⟨vs, (upd_ne hg').trans ((upd_ne e).trans hM'), fun i' hi' => ?_⟩
        rw [hv i' hi']
        refine (word_congr (updF_ne ?_) rfl).symm
        rintro ⟨e1, e3⟩
        have e4 : j' = j := by omega
        have e5 : l' = l := by omega
        subst e4; subst e5
        rw [hf] at h'
        exact e (Option.some.inj h').symm
  · have hg' : g ≠ f' := fun e => h' (l - 1) (512 * j + i) (by rw [updF_at, e])
    have hgf : g ≠ f := fun e => h' l j (by rw [updF_ne (by omega), hf, e])
    rw [upd_ne hg', upd_ne hgf]
    refine R.no fun a b hab => h' a b ?_
    rw [updF_ne, hab]
    rintro ⟨rfl, rfl⟩
    rw [hn] at hab
    cases hab

theorem inv_table (I : Inv F G r n) {l j f i f' : Nat} (hf : F l j = some f) (h2 : 2 ≤ l) (hi : i < 512) (hn : F (l - 1) (512 * j + i) = none) (hg : G l (512 * j + i) = none) (hfr : ∀ a b, F a b ≠ some f') (hf' : f' < n) :
    Inv (updF F (l - 1) (512 * j + i) (some f')) G r n := by
  have hl := I.lev hf
  refine ⟨I.n2, ?_, fun {a b g} h => ?_, fun {a b a' b' g} h h' => ?_, I.page, fun {a b g} h h3 => ?_, fun {k c x} h => ?_, fun {c x} h => ?_⟩
  · rw [updF_ne (by omega)]; exact I.root
  · by_cases e : a = l - 1 ∧ b = 512 * j + i
    · rw [e.1, e.2, updF_at] at h
      have := Option.some.inj h
      omega
    · rw [updF_ne e] at h; exact I.lev h
  · by_cases e : a = l - 1 ∧ b = 512 * j + i
    · by_cases e' : a' = l - 1 ∧ b' = 512 * j + i
      · omega
      · rw [e.1, e.2, updF_at] at h
        rw [updF_ne e'] at h'
        obtain rfl := Option.some.inj h
        exact absurd h' (hfr _ _)
    · by_cases e' : a' = l - 1 ∧ b' = 512 * j + i
      · rw [e'.1, e'.2, updF_at] at h'
        rw [updF_ne e] at h
        obtain rfl := Option.some.inj h'
        exact absurd h (hfr _ _)
      · rw [updF_ne e] at h; rw [updF_ne e'] at h'; exact I.inj h h'
  · by_cases e : a = l - 1 ∧ b = 512 * j + i
    · obtain ⟨rfl, rfl⟩ := e
      have e1 : (512 * j + i) / 512 = j := by omega
      rw [updF_ne (by omega), e1, show l - 1 + 1 = l by omega]
      exact ⟨f, hf⟩
    · rw [updF_ne e] at h
      obtain ⟨y, hy⟩ := I.up h h3
      by_cases e2 : a + 1 = l - 1 ∧ b / 512 = 512 * j + i
      · rw [e2.1, e2.2, updF_at]; exact ⟨_, rfl⟩
      · rw [updF_ne e2]; exact ⟨y, hy⟩
  · obtain ⟨y, hy⟩ := I.way h
    by_cases e2 : k = l - 1 ∧ c / 512 = 512 * j + i
    · rw [e2.1, e2.2, updF_at]; exact ⟨_, rfl⟩
    · rw [updF_ne e2]; exact ⟨y, hy⟩
  · rw [updF_ne]
    · exact I.apart h
    · rintro ⟨e1, rfl⟩
      have : l = 2 := by omega
      subst this
      rw [hg] at h
      cases h

theorem inv_page (I : Inv F G r n) {k c f f0 : Nat} {P : Int} (hk : 1 ≤ k ∧ k ≤ 2) (hr : EN.right false (decide (k = 2)) P f k) (hc : c * EN.sz (k - 1) < 140737488355328) (h0 : F k (c / 512) = some f0) (h1 : k = 2 → F 1 c = none) : Inv F (updG G k c (some (f, P))) r n := by
  refine ⟨I.n2, I.root, I.lev, I.inj, fun {k' c' f' p'} h => ?_, I.up, fun {k' c' x} h => ?_, fun {c' x} h => ?_⟩
  · by_cases e : k' = k ∧ c' = c
    · obtain ⟨rfl, rfl⟩ := e
      rw [updG_at] at h
      obtain ⟨rfl, rfl⟩ := Prod.mk.inj (Option.some.inj h)
      exact ⟨hk.1, hk.2, hr, hc⟩
    · rw [updG_ne e] at h; exact I.page h
  · by_cases e : k' = k ∧ c' = c
    · obtain ⟨rfl, rfl⟩ := e; exact ⟨f0, h0⟩
    · rw [updG_ne e] at h; exact I.way h
  · by_cases e : 2 = k ∧ c' = c
    · rw [e.2]; exact h1 e.1.symm
    · rw [updG_ne e] at h; exact I.apart h

theorem inv_strike (I : Inv F G r n) (k c : Nat) : Inv F (updG G k c none) r n := by
  refine ⟨I.n2, I.root, I.lev, I.inj, fun {k' c' f' p'} h => ?_, I.up, fun {k' c' x} h => ?_, fun {c' x} h => ?_⟩
  · by_cases e : k' = k ∧ c' = c
    · rw [e.1, e.2, updG_at] at h; cases h
    · rw [updG_ne e] at h; exact I.page h
  · by_cases e : k' = k ∧ c' = c
    · rw [e.1, e.2, updG_at] at h; cases h
    · rw [updG_ne e] at h; exact I.way h
  · by_cases e : 2 = k ∧ c' = c
    · rw [e.1, e.2, updG_at] at h; cases h
    · rw [updG_ne e] at h; exact I.apart h

/-- A table that is empty is taken away. -/
theorem rep_drop (I : Inv F G r n) (R : Rep M F G) {l j f i f0 : Nat} (hf : F l j = some f) (hi : i < 512) (h0 : F (l - 1) (512 * j + i) = some f0) (hg : G l (512 * j + i) = none) :
    Rep (upd (upd M f0 none) f (some (wset (((upd M f0 none) f).getD zero) i 0))) (updF F (l - 1) (512 * j + i) none) G := by
  obtain ⟨ws, hM, hw⟩ := R.yes hf
  have hl0 := I.lev h0
  have hl := I.lev hf
  have hff : f ≠ f0 := fun e => by
    subst e
    have := I.inj hf h0
    omega
  refine ⟨fun {l' j' g} h' => ?_, fun {g} h' => ?_⟩
  · by_cases e0 : l' = l - 1 ∧ j' = 512 * j + i
    · rw [e0.1, e0.2, updF_at] at h'; cases h'
    · rw [updF_ne e0] at h'
      have hl' := I.lev h'
      by_cases e : g = f
      · subst e
        obtain ⟨rfl, rfl⟩ := I.inj h' hf
        refine ⟨_, upd_at _ _ _, fun i' hi' => ?_⟩
        rw [upd_ne hff, hM]
        by_cases e2 : i' = i
        · subst e2
          rw [wset_at]
          unfold word
          rw [updF_at, hg]
        · rw [wset_ne e2]
          show ws i' = _
          rw [hw i' hi']
          exact (word_congr (updF_ne (by omega)) rfl).symm
      · obtain ⟨vs, hM', hv⟩ := R.yes h'
        have hg0 : g ≠ f0 := fun e => by
          subst e
          have := I.inj h' h0
          omega
        refine ⟨vs, (upd_ne e).trans ((upd_ne hg0).trans hM'), fun i' hi' => ?_⟩
        rw [hv i' hi']
        refine (word_congr (updF_ne ?_) rfl).symm
        rintro ⟨e1, e3⟩
        have e4 : j' = j := by omega
        have e5 : l' = l := by omega
        subst e4; subst e5
        rw [hf] at h'
        exact e (Option.some.inj h').symm
  · have hgf : g ≠ f := fun e => h' l j (by rw [updF_ne (by omega), hf, e])
    rw [upd_ne hgf]
    by_cases e : g = f0
    · rw [e, upd_at]
    · rw [upd_ne e]
      refine R.no fun a b hab => h' a b ?_
      rw [updF_ne, hab]
      rintro ⟨rfl, rfl⟩
      rw [h0] at hab
      exact e (Option.some.inj hab).symm

theorem inv_drop (I : Inv F G r n) {l j : Nat} (hl : l ≤ 3) (he : ∀ i, i < 512 → pres F G l (512 * j + i) = false) : Inv (updF F l j none) G r n := by
  have hFn : ∀ c, c / 512 = j → F (l - 1) c = none ∧ G l c = none := fun c hc => by
    have := he (c % 512) (Nat.mod_lt _ (by decide))
    rw [show 512 * j + c % 512 = c by omega] at this
    unfold pres at this
    simpa using this
  refine ⟨I.n2, ?_, fun {a b g} h => ?_, fun {a b a' b' g} h h' => ?_, I.page, fun {a b g} h h3 => ?_, fun {k c x} h => ?_, fun {c x} h => ?_⟩
  · rw [updF_ne (by omega)]; exact I.root
  · by_cases e : a = l ∧ b = j
    · rw [e.1, e.2, updF_at] at h; cases h
    · rw [updF_ne e] at h; exact I.lev h
  · by_cases e : a = l ∧ b = j
    · rw [e.1, e.2, updF_at] at h; cases h
    · by_cases e' : a' = l ∧ b' = j
      · rw [e'.1, e'.2, updF_at] at h'; cases h'
      · rw [updF_ne e] at h; rw [updF_ne e'] at h'; exact I.inj h h'
  · by_cases e : a = l ∧ b = j
    · rw [e.1, e.2, updF_at] at h; cases h
    · rw [updF_ne e] at h
      rw [updF_ne]
      · exact I.up h h3
      · rintro ⟨e1, e2⟩
        have := (hFn b e2).1
        rw [show l - 1 = a by omega, h] at this
        cases this
  · rw [updF_ne]
    · exact I.way h
    · rintro ⟨rfl, e2⟩
      have := (hFn c e2).2
      rw [h] at this
      cases this
  · by_cases e : 1 = l ∧ c = j
    · rw [e.1, e.2, updF_at]
    · rw [updF_ne e]; exact I.apart h
end
end RX
end Go.Proofs.YtkomahekdcaiaaaGreatDoor

/- How a pool lies in memory: the program's own, and the document's. -/
namespace Go.Proofs.YtkomahekdcaiaaaGreatDoor
open Go.ChangeShapes Go.WideShapes Go.ChangeAt Go.RowKit
set_option linter.unusedVariables false
set_option linter.unusedSimpArgs false

/-- Words of marks, as cells. -/
def wrow (T : Nat → Bool) (m : Nat) : List Value := (List.range m).map fun q => .int .u64 ((FR.wd T q : Nat) : Int)
theorem wrow_get (T : Nat → Bool) (m q : Nat) (hq : q < m) : (wrow T m)[q]? = some (.int .u64 ((FR.wd T q : Nat) : Int)) := by simp [wrow, hq]
theorem wrow_set (T : Nat → Bool) (m q r W : Nat) (h : Bool) (hq : q < m) (hr : r + W ≤ 64) :
    (wrow T m).set q (.int .u64 ((WM.put (FR.wd T q) r W (FR.want h W) : Nat) : Int)) = wrow (FR.st T (64 * q + r) W h) m := by
  apply List.ext_getElem?
  intro j
  rw [List.getElem?_set]
  by_cases hj : j < m
  · rw [wrow_get (FR.st T (64 * q + r) W h) m j hj]
    by_cases e : q = j
    · subst e
      rw [if_pos rfl, if_pos (by simpa [wrow] using hq), FR.put_wd _ _ _ _ _ hr]
    · rw [if_neg e, wrow_get _ _ _ hj, FR.wd_other _ _ _ _ _ _ hr (by omega)]
  · have e1 : (wrow (FR.st T (64 * q + r) W h) m)[j]? = none := by simp [wrow]; omega
    rw [e1, if_neg (by omega)]
    simp [wrow]; omega
theorem wrow_congr (T U : Nat → Bool) (m : Nat) (h : ∀ x, x < 64 * m → T x = U x) : wrow T m = wrow U m := by
  unfold wrow
  refine List.map_congr_left fun q hq => ?_
  have := List.mem_range.1 hq
  rw [FR.wd_congr T U q fun j hj => h _ (by omega)]

/-- A pool of the program's: n frames, of which those are taken that T says; m words. -/
structure PL (w : World) (g b n m : Nat) (T : Nat → Bool) : Prop where
  box : ∃ lf : Nat, lf + FR.cnt T 0 n = n ∧ Blk w g 87 [.slice (some ⟨b, 0, none⟩) m m, .int .i64 n, .int .i64 lf]
  row : Blk w b 36 (wrow T m)
  ne : g ≠ b
  n1 : 1 ≤ n
  n2 : n ≤ 65536
  nm : n ≤ 64 * m
  m8 : m % 8 = 0
  m2 : m ≤ 1024
  pad : ∀ x, n ≤ x → x < 64 * m → T x = true

/-- A pool of the document's. -/
def brow (T : Nat → Bool) (n : Nat) : List Value := (List.range n).map fun x => .bool (T x)
theorem brow_get (T : Nat → Bool) (n x : Nat) (hx : x < n) : (brow T n)[x]? = some (.bool (T x)) := by simp [brow, hx]
theorem brow_set (T : Nat → Bool) (n x : Nat) (h : Bool) (hx : x < n) : (brow T n).set x (.bool h) = brow (FR.st T x 1 h) n := by
  apply List.ext_getElem?
  intro j
  rw [List.getElem?_set]
  by_cases hj : j < n
  · rw [brow_get (FR.st T x 1 h) n j hj]
    by_cases e : x = j
    · subst e
      rw [if_pos rfl, if_pos (by simpa [brow] using hx)]
      unfold FR.st; rw [if_pos (by omega)]
    · rw [if_neg e, brow_get _ _ _ hj, FR.st_out _ _ _ _ _ (by omega)]
  · have e1 : (brow (FR.st T x 1 h) n)[j]? = none := by simp [brow]; omega
    rw [e1, if_neg (by omega)]
    simp [brow]; omega
theorem brow_congr (T U : Nat → Bool) (n : Nat) (h : ∀ x, x < n → T x = U x) : brow T n = brow U n := by
  unfold brow
  exact List.map_congr_left fun x hx => by rw [h x (List.mem_range.1 hx)]
structure RL (w : World) (g b n : Nat) (T : Nat → Bool) : Prop where
  box : Blk w g 81 [.slice (some ⟨b, 0, none⟩) n n]
  row : Blk w b 4 (brow T n)
  ne : g ≠ b
  n1 : 1 ≤ n
  n2 : n ≤ 65536

section
variable {w w' : World} {g b n m g2 b2 : Nat} {T : Nat → Bool}
theorem PL.keep (h : PL w g b n m T) (hb : Below w.heap.size w w') : PL w' g b n m T := ⟨h.box.elim fun lf e => ⟨lf, e.1, e.2.keep hb⟩, h.row.keep hb, h.ne, h.n1, h.n2, h.nm, h.m8, h.m2, h.pad⟩
theorem PL.two (h : PL w g b n m T) (t : Two g2 b2 w w') (h1 : g ≠ g2) (h2 : g ≠ b2) (h3 : b ≠ g2) (h4 : b ≠ b2) : PL w' g b n m T := ⟨h.box.elim fun lf e => ⟨lf, e.1, e.2.two t h1 h2⟩, h.row.two t h3 h4, h.ne, h.n1, h.n2, h.nm, h.m8, h.m2, h.pad⟩
theorem RL.keep (h : RL w g b n T) (hb : Below w.heap.size w w') : RL w' g b n T := ⟨h.box.keep hb, h.row.keep hb, h.ne, h.n1, h.n2⟩
theorem RL.two (h : RL w g b n T) (t : Two g2 b2 w w') (h1 : g ≠ g2) (h2 : g ≠ b2) (h3 : b ≠ g2) (h4 : b ≠ b2) : RL w' g b n T := ⟨h.box.two t h1 h2, h.row.two t h3 h4, h.ne, h.n1, h.n2⟩
/-- The facts that a walk over a pool wants. -/
theorem PL.gives (h : PL w g b n m T) : ∃ lf : Nat, lf + FR.cnt T 0 n = n ∧ w.cell? ⟨g, 0, none⟩ = some (.slice (some ⟨b, 0, none⟩) m m) ∧ w.cell? ⟨g, 1, none⟩ = some (.int .i64 n) ∧ w.cell? ⟨g, 2, none⟩ = some (.int .i64 lf) ∧
    (∀ i, w.frozen? ⟨g, i, none⟩ = false) := by
  obtain ⟨lf, e, hb⟩ := h.box
  exact ⟨lf, e, hb.cell rfl, hb.cell rfl, hb.cell rfl, hb.fz⟩
end
end Go.Proofs.YtkomahekdcaiaaaGreatDoor

/- Contracts of package frame's functions over marks: width, are, set; for every run of every row of marks. -/
namespace Go.Proofs.YtkomahekdcaiaaaGreatDoor
open Go.ChangeShapes Go.WideShapes Go.ChangeAt Go.RowKit
set_option linter.unusedVariables false
set_option linter.unusedSimpArgs false

set_option maxRecDepth 100000 in
set_option maxHeartbeats 400000 in
theorem width_any (k W : Nat) (hW : min k 64 = W) (w : World) :
    Calls Tryz.prog 83 #[.int .i64 k] w fun e w' => e = .returned (.int .i64 W) ∧ w = w' := by
  go_enter Tryz.func83, Tryz.ntmps83
  go_wp2
  all_goals
    go_ret
    exact ⟨ret_i64 (by omega), rfl⟩

theorem take_want_calls (h : Bool) (W : Nat) (hW : W ≤ 64) (H V : Nat) (hH : FR.want h 64 = H) (hV : FR.want h W = V) (w : World) :
    Calls Tryz.prog 84 #[.int .u64 H, .int .i64 0, .int .i64 W] w fun e w' => e = .returned (.tuple #[.int .u64 V, .int .i64 0]) ∧ Below w.heap.size w w' := by
  subst hH hV
  have := take_yes (FR.want h 64) 0 W (FR.want_64 h) (by omega) w
  rw [FR.take_all h W hW] at this
  exact this

set_option maxRecDepth 100000 in
set_option maxHeartbeats 1000000 in
theorem are_any (b m f k : Nat) (T : Nat → Bool) (h res : Bool) (how : Int) (w : World) (hhow : how = ((FR.want h 64 : Nat) : Int)) (hrow : Blk w b 36 (wrow T m)) (hm : m ≤ 1024) (hk : FR.Run k) (hf : f % k = 0) (hfm : f + k ≤ 64 * m)
    (hres : res = true ↔ FR.All T f k h) :
    Calls Tryz.prog 47 #[.slice (some ⟨b, 0, none⟩) m m, .int .i64 f, .int .i64 k, .int .u64 how] w fun e w' => e = .returned (.bool res) ∧ Below w.heap.size w w' := by
  subst hhow
  obtain ⟨W, R, hW, hW1, hW64, hR1, hR8, hkW, hkR, hlie⟩ := FR.run_lie hk
  obtain ⟨hin, hpart⟩ := hlie f hf
  obtain ⟨c, hc⟩ : ∃ c, f / 64 = c := ⟨_, rfl⟩
  obtain ⟨r, hr⟩ : ∃ r, f % 64 = r := ⟨_, rfl⟩
  rw [hr] at hin
  rw [hc, hr] at hpart
  obtain ⟨H, hH⟩ : ∃ H, FR.want h 64 = H := ⟨_, rfl⟩
  obtain ⟨V, hV⟩ : ∃ V, FR.want h W = V := ⟨_, rfl⟩
  have hwid := W_hid (width_any k W hW)
  have hT0 := W_hid (take_want_calls h W hW64 H V hH hV)
  have hparts := W_hid (FR.all_parts T f k W R h hkR)
  have hcR : Hid (∀ i, i < R → c + i < m) := by
    intro i hi
    have h1 := hpart i hi
    have h2 : i * W + W ≤ R * W := by
      have := Nat.mul_le_mul_right W (show i + 1 ≤ R from hi)
      rwa [Nat.add_mul, Nat.one_mul] at this
    omega
  have eq1 : (f : Int) / 64 = c := by omega
  have eq2 : (f : Int) % 64 = r := by omega
  have eq3 : (k : Int) / W = R := by rw [← Int.natCast_ediv, hkW]
  replace hpart := W_hid hpart
  have hf2 : f ≤ 65536 := by omega
  have hk2 := (FR.run_le hk).2
  replace hV := W_hid hV
  rw [hH]
  clear hW hkW hkR hlie hH hf hfm hk hc hr
  go_enter Tryz.func47, Tryz.ntmps47
  go_wp2_with fail
  refine (hwid.out _).mono ?_
  rintro e w1 ⟨rfl, rfl⟩
  go_wp2_with fail
  refine (hT0.out _).mono ?_
  rintro e w1 ⟨rfl, bel1⟩
  go_wp2_with fail
  replace hres := W_hid hres
  go_loopw [12, 13, 14, 26] (fun x1 x2 x3 i wr => ∃ j : Nat, j ≤ R ∧ i = .int .i64 j ∧ Hid (∀ t, t < j → FR.All T (f + t * W) W h) ∧ Below w.heap.size w wr) (fun _ _ _ i _ => R - (intOf i).toNat)
  case atStart => exact ⟨0, by omega, rfl, fun t ht => by omega, bel1⟩
  case round =>
    obtain ⟨j, hj, rfl, hall, bel⟩ := hrel
    by_cases hlt : j < R
    · have hrw := hrow.keep bel
      have hcell : wr.cell? ⟨b, c + j, none⟩ = some (.int .u64 ((FR.wd T (c + j) : Nat) : Int)) := hrw.cell (wrow_get T m _ (hcR.out j hlt))
      have hfz := hrw.fz
      have hidx : (c : Int) + j < m := by have := hcR.out j hlt; omega
      have hto : ((c : Int) + j).toNat = c + j := by omega
      have hTk := W_hid (take_yes (FR.wd T (c + j)) r W (FR.wd_lt _ _) hin)
      have htw := W_hid (FR.take_want T (c + j) r W h hin)
      obtain ⟨Z, hZ⟩ : ∃ Z, WM.take (FR.wd T (c + j)) r W = Z := ⟨_, rfl⟩
      rw [hZ] at hTk htw
      rw [hV.out, hpart.out j hlt] at htw
      clear hZ
      generalize FR.wd T (c + j) = X at *
      have hbb : Below w.heap.size wr wr := Below.refl _ _
      by_cases hZV : Z = V
      · have hnext : Hid (∀ t, t < j + 1 → FR.All T (f + t * W) W h) := by
          intro t ht
          rcases Nat.lt_or_ge t j with hlt2 | hge
          · exact hall.out t hlt2
          · obtain rfl : t = j := by omega
            exact htw.out.1 hZV
        have ht1 : ((Z : Int) != (V : Int)) = false := by rw [hZV]; simp
        clear hZV
        go_wp2_with fail
        refine (hTk.out _).mono ?_
        rintro e w2 ⟨rfl, bel2⟩
        go_wp2
        go_roundw
        case rel => exact ⟨j + 1, by omega, by go_num, hnext, bel.trans (bel2.mono bel.size)⟩
        case measure => simp [intOf]; omega
      · have hno : Hid (res = false) := by
          cases res
          · rfl
          · exact absurd (htw.out.2 (hparts.out.1 (hres.out.1 rfl) j hlt)) hZV
        have ht1 : ((Z : Int) != (V : Int)) = true := by simp; omega
        clear hZV
        go_wp2_with fail
        refine (hTk.out _).mono ?_
        rintro e w2 ⟨rfl, bel2⟩
        go_wp2
        go_ret
        exact ⟨by rw [hno.out]; rfl, bel.trans (bel2.mono bel.size)⟩
    · obtain rfl : j = R := by omega
      have hyes : Hid (res = true) := hres.out.2 (hparts.out.2 hall.out)
      go_wp2
      go_ret
      exact ⟨by rw [hyes.out]; rfl, bel⟩

set_option maxRecDepth 100000 in
set_option maxHeartbeats 1000000 in
theorem set_any (b m f k : Nat) (T : Nat → Bool) (h : Bool) (how : Int) (w : World) (hhow : how = ((FR.want h 64 : Nat) : Int)) (hrow : Blk w b 36 (wrow T m)) (hm : m ≤ 1024) (hk : FR.Run k) (hf : f % k = 0) (hfm : f + k ≤ 64 * m) :
    Calls Tryz.prog 110 #[.slice (some ⟨b, 0, none⟩) m m, .int .i64 f, .int .i64 k, .int .u64 how] w fun e w' => e = .returned (.tuple #[]) ∧ Blk w' b 36 (wrow (FR.st T f k h) m) ∧ Two b b w w' := by
  subst hhow
  obtain ⟨W, R, hW, hW1, hW64, hR1, hR8, hkW, hkR, hlie⟩ := FR.run_lie hk
  obtain ⟨hin, hpart⟩ := hlie f hf
  obtain ⟨c, hc⟩ : ∃ c, f / 64 = c := ⟨_, rfl⟩
  obtain ⟨r, hr⟩ : ∃ r, f % 64 = r := ⟨_, rfl⟩
  rw [hr] at hin
  rw [hc, hr] at hpart
  obtain ⟨H, hH⟩ : ∃ H, FR.want h 64 = H := ⟨_, rfl⟩
  obtain ⟨V, hV⟩ : ∃ V, FR.want h W = V := ⟨_, rfl⟩
  have hwid := W_hid (width_any k W hW)
  have hT0 := W_hid (take_want_calls h W hW64 H V hH hV)
  have hcR : Hid (∀ i, i < R → c + i < m) := by
    intro i hi
    have h1 := hpart i hi
    have h2 : i * W + W ≤ R * W := by
      have := Nat.mul_le_mul_right W (show i + 1 ≤ R from hi)
      rwa [Nat.add_mul, Nat.one_mul] at this
    omega
  have hend : Hid (FR.st T f k h = FR.st T f (R * W) h) := by show _ = _; rw [← hkR]
  have hVlt : Hid (V < 2 ^ W) := by show _ < _; rw [← hV]; exact FR.want_lt h W
  have eq1 : (f : Int) / 64 = c := by omega
  have eq2 : (f : Int) % 64 = r := by omega
  have eq3 : (k : Int) / W = R := by rw [← Int.natCast_ediv, hkW]
  replace hpart := W_hid hpart
  have hf2 : f ≤ 65536 := by omega
  have hk2 := (FR.run_le hk).2
  replace hV := W_hid hV
  rw [hH]
  clear hW hkW hkR hlie hH hf hfm hk hc hr
  go_enter Tryz.func110, Tryz.ntmps110
  go_wp2_with fail
  refine (hwid.out _).mono ?_
  rintro e w1 ⟨rfl, rfl⟩
  go_wp2_with fail
  refine (hT0.out _).mono ?_
  rintro e w1 ⟨rfl, bel1⟩
  go_wp2_with fail
  go_loopw [11, 12, 24] (fun x1 x2 i wr => ∃ j : Nat, j ≤ R ∧ i = .int .i64 j ∧ Blk wr b 36 (wrow (FR.st T f (j * W) h) m) ∧ Two b b w wr) (fun _ _ i _ => R - (intOf i).toNat)
  case atStart => exact ⟨0, by omega, rfl, by rw [Nat.zero_mul, FR.st_zero]; exact hrow.keep bel1, Two.of bel1⟩
  case round =>
    obtain ⟨j, hj, rfl, hrw, two⟩ := hrel
    by_cases hlt : j < R
    · have hq := hcR.out j hlt
      have hcell : wr.cell? ⟨b, c + j, none⟩ = some (.int .u64 ((FR.wd (FR.st T f (j * W) h) (c + j) : Nat) : Int)) := hrw.cell (wrow_get _ m _ hq)
      have hidx : (c : Int) + j < m := by omega
      have hto : ((c : Int) + j).toNat = c + j := by omega
      have hPt := W_hid (put_yes (FR.wd (FR.st T f (j * W) h) (c + j)) r W V (FR.wd_lt _ _) hin hVlt.out)
      have hset := wrow_set (FR.st T f (j * W) h) m (c + j) r W h hq hin
      rw [hV.out, hpart.out j hlt, FR.st_step] at hset
      have hj1 : j * W + W = (j + 1) * W := by rw [Nat.add_mul, Nat.one_mul]
      rw [hj1] at hset
      replace hset := W_hid hset
      clear hj1
      obtain ⟨U, hU⟩ : ∃ U, FR.st T f (j * W) h = U := ⟨_, rfl⟩
      rw [hU] at hcell hPt hset hrw
      obtain ⟨Z, hZ⟩ : ∃ Z, WM.put (FR.wd U (c + j)) r W V = Z := ⟨_, rfl⟩
      rw [hZ] at hPt hset
      clear hU hZ
      generalize FR.wd U (c + j) = X at *
      go_wp2_with fail
      refine (hPt.out _).mono ?_
      rintro e w2 ⟨rfl, bel2⟩
      have hrw2 := hrw.keep bel2
      have hcell2 : w2.cell? ⟨b, c + j, none⟩ = some (.int .u64 X) := by rw [bel2.cell (p := ⟨b, c + j, none⟩) hrw.lt]; exact hcell
      have hfz2 := hrw2.fz
      have hst := hrw2.set (c + j) (.int .u64 Z)
      rw [hset.out] at hst
      have two2 := (two.trans (Two.of bel2)).setCell (p := ⟨b, c + j, none⟩) (.inl rfl) (.int .u64 Z)
      go_wp2
      go_roundw
      case rel => exact ⟨j + 1, by omega, by go_num, hst, two2⟩
      case measure => simp [intOf]; omega
    · obtain rfl : j = R := by omega
      go_wp2
      go_end0
      exact ⟨rfl, by rw [hend.out]; exact hrw, two⟩

end Go.Proofs.YtkomahekdcaiaaaGreatDoor

/- Contract of package frame's lowest: the lowest run that is free, or that there is none; for every row of marks. -/
namespace Go.Proofs.YtkomahekdcaiaaaGreatDoor
open Go.ChangeShapes Go.WideShapes Go.ChangeAt Go.RowKit
set_option linter.unusedVariables false
set_option linter.unusedSimpArgs false

set_option maxRecDepth 100000 in
set_option maxHeartbeats 1000000 in
theorem lowest_any (b m k a : Nat) (T : Nat → Bool) (yes : Bool) (w : World) (hrow : Blk w b 36 (wrow T m)) (hm : m ≤ 1024) (hm8 : m % 8 = 0) (hk : FR.Run k) (hans : FR.Ans T (64 * m) k a yes) :
    Calls Tryz.prog 144 #[.slice (some ⟨b, 0, none⟩) m m, .int .i64 k] w fun e w' => e = .returned (.tuple #[.int .i64 a, .bool yes]) ∧ Below w.heap.size w w' := by
  obtain ⟨S, G, hS, hS1, hS2, hS64, hS512, hG1, hG64, hSG, hSk, hkS, hSm, hu1, hu2⟩ := FR.run_step hk
  obtain ⟨hk1, hk2⟩ := FR.run_le hk
  have hmx : (if (k : Int) < 64 then (64 : Int) else (k : Int)) = S := by split <;> omega
  obtain ⟨N, hN⟩ : ∃ N, 64 * m / S = N := ⟨_, rfl⟩
  have hSd : S ∣ 64 * m := by
    have h1 : S ∣ 512 := Nat.dvd_of_mod_eq_zero hS512
    have h2 : 512 ∣ 64 * m := ⟨m / 8, by omega⟩
    exact Nat.dvd_trans h1 h2
  have hNS : N * S = 64 * m := by rw [← hN]; exact Nat.div_mul_cancel hSd
  have eq1 : ((m : Int) * 64) / (S : Int) = N := by
    rw [show (m : Int) * 64 = ((64 * m : Nat) : Int) by omega, ← Int.natCast_ediv, hN]
  have eq2 : (S : Int) / (k : Int) = G := by rw [← Int.natCast_ediv, hSG]
  have hN2 : N ≤ 1024 := by
    rw [← hN]
    exact Nat.le_trans (Nat.div_le_div_left hS1 (by decide)) (by omega)
  have hare := W_hid (fun (f : Nat) (res : Bool) (w : World) (hr : Blk w b 36 (wrow T m)) (hf : f % k = 0) (hfm : f + k ≤ 64 * m) (hres : res = true ↔ FR.All T f k false) =>
    are_any b m f k T false res 0 w rfl hr hm hk hf hfm hres)
  replace hu1 := W_hid hu1
  replace hu2 := W_hid hu2
  replace hans := W_hid hans
  replace hNS := W_hid hNS
  replace hSk := W_hid hSk
  replace hS64 := W_hid hS64
  replace hSm := W_hid hSm
  replace hm8 := W_hid hm8
  clear hS hSG hS512 hSd hN
  go_enter Tryz.func144, Tryz.ntmps144
  go_wp2_with fail
  rw [eq1]
  go_loopw [7, 8, 9, 10, 18] (fun _ _ _ _ i wr => ∃ j : Nat, j ≤ N ∧ i = .int .i64 j ∧ Hid (FR.Non T k (j * S)) ∧ Below w.heap.size w wr) (fun _ _ _ _ i _ => N - (intOf i).toNat)
  case atStart => exact ⟨0, by omega, rfl, (by intro f hf; omega), Below.refl _ _⟩
  case round =>
    obtain ⟨j, hj, rfl, hnon, bel⟩ := hrel
    by_cases hlt : j < N
    · have hFS : j * S + S ≤ 64 * m := by
        have := Nat.mul_le_mul_right S (show j + 1 ≤ N from hlt)
        rw [Nat.add_mul, Nat.one_mul, hNS.out] at this
        exact this
      have hF64 : j * S % 64 = 0 := by rw [Nat.mul_mod, hS64.out, Nat.mul_zero]
      have hFk : Hid (j * S % k = 0) := by show _ = _; rw [Nat.mul_mod, hSm.out, Nat.mul_zero, Nat.zero_mod]
      have hFm : Hid (j * S % S = 0) := Nat.mul_mod_left _ _
      have hFj : Hid (FR.Non T k (j * S + S) → FR.Non T k ((j + 1) * S)) := by intro h; rw [Nat.add_mul, Nat.one_mul]; exact h
      have hFi : (j : Int) * (S : Int) = ((j * S : Nat) : Int) := (Int.natCast_mul j S).symm
      generalize hF : j * S = F at *
      clear hF
      obtain ⟨q, hq⟩ : ∃ q, F = 64 * q := ⟨F / 64, by omega⟩
      have hqi : (F : Int) / 64 = q := by omega
      have hqm : q < m := by omega
      have hrw := hrow.keep bel
      have hcell : wr.cell? ⟨b, q, none⟩ = some (.int .u64 ((FR.wd T q : Nat) : Int)) := hrw.cell (wrow_get T m q hqm)
      have hfull := W_hid (FR.wd_full T q)
      replace hq := W_hid hq
      clear hF64
      generalize FR.wd T q = X at *
      by_cases hX : X = 18446744073709551615
      · have hnext : Hid (FR.Non T k ((j + 1) * S)) := hFj.out (hnon.out.full hk1 hu1.out hFm.out (by rw [hq.out]; exact hfull.out.1 hX))
        have ht : ((X : Int) == 18446744073709551615) = true := by rw [hX]; rfl
        clear hX hfull
        go_wp2
        go_roundw
        case rel => exact ⟨j + 1, by omega, by go_num, hnext, bel⟩
        case measure => simp [intOf]; omega
      · have ht : ((X : Int) == 18446744073709551615) = false := by simp; omega
        clear hX hfull
        go_wp2_with fail
        obtain ⟨wa, rfl⟩ : ∃ wa, wa = wr := ⟨wr, rfl⟩
        clear hrw hcell
        go_loopw [9, 10, 33] (fun _ _ i wr => ∃ t : Nat, t ≤ G ∧ i = .int .i64 t ∧ Hid (FR.Non T k (F + t * k)) ∧ Below w.heap.size w wr) (fun _ _ i _ => G - (intOf i).toNat)
        case atStart => exact ⟨0, by omega, rfl, (by show FR.Non T k (F + 0 * k); rw [Nat.zero_mul]; exact hnon.out), bel⟩
        case round =>
          obtain ⟨t, htG, rfl, hnt, belr⟩ := hrel
          by_cases hlt2 : t < G
          · have hJS : F + t * k + k ≤ 64 * m := by
              have := Nat.mul_le_mul_right k (show t + 1 ≤ G from hlt2)
              rw [Nat.add_mul, Nat.one_mul, ← hSk.out] at this
              omega
            have hPk : Hid ((F + t * k) % k = 0) := by show _ = _; rw [Nat.add_mul_mod_self_right]; exact hFk.out
            have hPn : Hid (FR.Non T k (F + t * k + k) → FR.Non T k (F + (t + 1) * k)) := by intro h; rw [Nat.add_mul, Nat.one_mul, ← Nat.add_assoc]; exact h
            have hJi : (t : Int) * (k : Int) = ((t * k : Nat) : Int) := (Int.natCast_mul t k).symm
            have hPi : (F : Int) + ((t * k : Nat) : Int) = ((F + t * k : Nat) : Int) := (Int.natCast_add _ _).symm
            have hJle : t * k ≤ 65536 := by omega
            generalize hJ : t * k = J at *
            clear hJ
            generalize hP : F + J = P at *
            have hPle : P ≤ 65536 := by omega
            have hrw := hrow.keep belr
            replace hP := W_hid hP
            by_cases hall : FR.All T P k false
            · obtain ⟨hy, ha⟩ := hans.out.found hPk.out hJS hall hnt.out
              have hc := hare.out P true wr hrw hPk.out hJS ⟨fun _ => hall, fun _ => rfl⟩
              have hc := W_hid hc
              have hres : Hid (yes = true ∧ a = P) := ⟨hy, ha⟩
              clear hy ha hall hJS
              go_wp2_with fail
              refine hc.out.mono ?_
              rintro e w2 ⟨rfl, bel2⟩
              go_wp2
              go_ret2
              exact ⟨by rw [hres.out.1, hres.out.2]; rfl, belr.trans (bel2.mono belr.size)⟩
            · have hc := W_hid (hare.out P false wr hrw hPk.out hJS ⟨fun h => absurd h (by decide), fun h => absurd h hall⟩)
              have hnext : Hid (FR.Non T k (F + (t + 1) * k)) := hPn.out (hnt.out.step hu2.out hPk.out hall)
              clear hall hJS
              go_wp2_with fail
              refine hc.out.mono ?_
              rintro e w2 ⟨rfl, bel2⟩
              go_wp2
              go_roundw
              case rel =>
                exact ⟨t + 1, by omega, by go_num, hnext, belr.trans (bel2.mono belr.size)⟩
              case measure => simp [intOf]; omega
          · obtain rfl : t = G := by omega
            rw [← hSk.out] at hnt
            have hnext := hFj.out hnt.out
            replace hnext := W_hid hnext
            go_wp2
            go_roundw
            case rel => exact ⟨j + 1, by omega, by go_num, hnext, belr⟩
            case measure => simp [intOf]; omega
    · obtain rfl : j = N := by omega
      rw [hNS.out] at hnon
      have hres : Hid (yes = false ∧ a = 0) := hans.out.none hk1 hnon.out
      go_wp2
      go_ret2
      exact ⟨by rw [hres.out.1, hres.out.2]; rfl, bel⟩

end Go.Proofs.YtkomahekdcaiaaaGreatDoor

/- Contracts of package frame: none, length, holds, newMarks, New, Left, Taken, and all of a nil pool. -/
namespace Go.Proofs.YtkomahekdcaiaaaGreatDoor
open Go.ChangeShapes Go.WideShapes Go.ChangeAt Go.RowKit
set_option linter.unusedVariables false
set_option linter.unusedSimpArgs false

theorem info_u64 : (Tryz.prog.info? 36).map (fun i => (i.zero, i.size, i.bytes)) = some (some (.int .u64 0), 1, 8) := by kernel_rfl
theorem info_bool : (Tryz.prog.info? 4).map (fun i => (i.zero, i.size, i.bytes)) = some (some (.bool false), 1, 1) := by kernel_rfl
theorem wrow_free (m : Nat) : wrow (fun _ => false) m = List.replicate m (.int .u64 0) := by
  apply List.ext_getElem?
  intro j
  by_cases h : j < m
  · rw [wrow_get _ _ _ h, FR.wd_free, List.getElem?_replicate_of_lt h]; rfl
  · rw [List.getElem?_eq_none (by simp [wrow]; omega), List.getElem?_eq_none (by simp; omega)]
theorem brow_free (m : Nat) : brow (fun _ => false) m = List.replicate m (.bool false) := by
  apply List.ext_getElem?
  intro j
  by_cases h : j < m
  · rw [brow_get _ _ _ h, List.getElem?_replicate_of_lt h]
  · rw [List.getElem?_eq_none (by simp [brow]; omega), List.getElem?_eq_none (by simp; omega)]
theorem make_marks (m : Nat) (hm : m ≤ 65536) : ∃ X : Obj, (∀ w : World, (Instr.makeSlice 85 (.int .u64 (m : Int)) (.int .u64 (m : Int))).run Tryz.prog w = .ok (.slice (some ⟨w.heap.size, 0, none⟩) m m) (w.alloc X)) ∧
    ∀ w : World, Blk (w.alloc X) w.heap.size 36 (wrow (fun _ => false) m) := by
  refine ⟨_, fun w => run_make_row' (P := Tryz.prog) 85 36 (.int .u64 0) 8 Tryz.underlying85 info_u64 rfl .u64 .u64 m (by omega) (by omega) w, fun w => ?_⟩
  rw [made_list, wrow_free]
  exact Blk.new w _ _ rfl
theorem make_bools (m : Nat) (hm : m ≤ 65536) : ∃ X : Obj, (∀ w : World, (Instr.makeSlice 65 (.int .i64 (m : Int)) (.int .i64 (m : Int))).run Tryz.prog w = .ok (.slice (some ⟨w.heap.size, 0, none⟩) m m) (w.alloc X)) ∧
    ∀ w : World, Blk (w.alloc X) w.heap.size 4 (brow (fun _ => false) m) := by
  refine ⟨_, fun w => run_make_row' (P := Tryz.prog) 65 4 (.bool false) 1 Tryz.underlying65 info_bool rfl .i64 .i64 m (by omega) (by omega) w, fun w => ?_⟩
  rw [made_list, brow_free]
  exact Blk.new w _ _ rfl

set_option maxRecDepth 100000 in
set_option maxHeartbeats 400000 in
theorem none_nil (w : World) : Calls Tryz.prog 40 #[.pointer none] w fun e w' => e = .returned (.bool true) ∧ w = w' := by
  go_enter Tryz.func40, Tryz.ntmps40
  go_wp2
  go_ret
  exact ⟨rfl, rfl⟩

set_option maxRecDepth 100000 in
set_option maxHeartbeats 400000 in
theorem none_pool (g b n m : Nat) (T : Nat → Bool) (w : World) (h : PL w g b n m T) : Calls Tryz.prog 40 #[.pointer (some ⟨g, 0, none⟩)] w fun e w' => e = .returned (.bool false) ∧ w = w' := by
  obtain ⟨lf, hlf, c0, c1, c2, fz⟩ := h.gives
  have hn : ((n : Int) == 0) = false := by have := h.n1; simp; omega
  clear hlf h
  go_enter Tryz.func40, Tryz.ntmps40
  go_wp2
  go_ret
  exact ⟨rfl, rfl⟩

set_option maxRecDepth 100000 in
set_option maxHeartbeats 400000 in
theorem length_yes (k : Nat) (hk : FR.Run k) (w : World) : Calls Tryz.prog 143 #[.int .i64 k] w fun e w' => e = .returned (.bool true) ∧ w = w' := by
  obtain ⟨h1, h2⟩ := FR.run_le hk
  have ho := W_hid (ones_any k (by omega))
  rw [FR.run_ones hk] at ho
  have d1 : (1 : Int) ≤ k := by omega
  have d2 : decide ((k : Int) ≤ 512) = true := by simp; omega
  clear hk
  go_enter Tryz.func143, Tryz.ntmps143
  go_wp2_with fail
  refine (ho.out _).mono ?_
  rintro e w' ⟨rfl, rfl⟩
  go_wp2
  go_ret
  exact ⟨rfl, rfl⟩

set_option maxRecDepth 100000 in
set_option maxHeartbeats 400000 in
theorem length_no (k : Int) (hk : ¬ FR.RunI k) (w : World) : Calls Tryz.prog 143 #[.int .i64 k] w fun e w' => e = .returned (.bool false) ∧ w = w' := by
  by_cases h1 : 1 ≤ k
  · by_cases h2 : k ≤ 512
    · obtain ⟨q, rfl⟩ : ∃ q : Nat, k = q := ⟨k.toNat, by omega⟩
      have ho := W_hid (ones_any q (by omega))
      have hne : WM.ones q 64 ≠ 1 := fun h => hk ⟨q, rfl, FR.ones_run (by omega) (by omega) h⟩
      have d1 : decide ((1 : Int) ≤ q) = true := by simp; omega
      have d2 : decide ((q : Int) ≤ 512) = true := by simp; omega
      have d3 : (((WM.ones q 64 : Nat) : Int) == 1) = false := by simp; omega
      clear hk hne
      go_enter Tryz.func143, Tryz.ntmps143
      go_wp2_with fail
      refine (ho.out _).mono ?_
      rintro e w' ⟨rfl, rfl⟩
      go_wp2
      go_ret
      exact ⟨rfl, rfl⟩
    · have d1 : decide ((1 : Int) ≤ k) = true := by simp; omega
      have d2 : decide (k ≤ 512) = false := by simp; omega
      clear hk h2
      go_enter Tryz.func143, Tryz.ntmps143
      go_wp2
      go_ret
      exact ⟨rfl, rfl⟩
  · have d1 : decide ((1 : Int) ≤ k) = false := by simp; omega
    clear hk h1
    go_enter Tryz.func143, Tryz.ntmps143
    go_wp2
    go_ret
    exact ⟨rfl, rfl⟩

set_option maxRecDepth 100000 in
set_option maxHeartbeats 1000000 in
theorem holds_any (g b n m f q : Nat) (T : Nat → Bool) (res : Bool) (w : World) (h : PL w g b n m T) (hf : f < 18446744073709551616) (hq : FR.Run q) (hres : res = true ↔ f % q = 0 ∧ f + q ≤ n) :
    Calls Tryz.prog 155 #[.pointer (some ⟨g, 0, none⟩), .int .u64 f, .int .i64 q] w fun e w' => e = .returned (.bool res) ∧ w = w' := by
  obtain ⟨lf, hlf, c0, c1, c2, fz⟩ := h.gives
  obtain ⟨q1, q2⟩ := FR.run_le hq
  have hD := W_hid (down_yes f q hf (by omega) (FR.run_ones hq))
  have hn1 := h.n1
  have hn2 := h.n2
  clear hlf h
  by_cases h1 : f % q = 0
  · have e1 := WM.down_self f q h1
    rw [e1] at hD
    have d1 : ((f : Int) == (f : Int)) = true := by simp
    by_cases h2 : q ≤ n
    · have d2 : decide ((q : Int) ≤ n) = true := by simp; omega
      have d3 : decide ((f : Int) ≤ (n : Int) - q) = res := by
        cases hr : res
        · rw [hr] at hres
          have : ¬ (f % q = 0 ∧ f + q ≤ n) := fun hh => absurd (hres.2 hh) (by decide)
          simp; omega
        · rw [hr] at hres
          have := hres.1 rfl
          simp; omega
      clear hres hq h1 e1
      go_enter Tryz.func155, Tryz.ntmps155
      go_wp2_with fail
      refine (hD.out _).mono ?_
      rintro e w' ⟨rfl, rfl⟩
      go_wp2
      go_ret
      exact ⟨rfl, rfl⟩
    · have d2 : decide (q ≤ n) = false := by simp; omega
      have hr : Hid (res = false) := by
        cases res
        · rfl
        · have := (hres.1 rfl).2; omega
      clear hres hq h1 e1 h2
      go_enter Tryz.func155, Tryz.ntmps155
      go_wp2_with fail
      refine (hD.out _).mono ?_
      rintro e w' ⟨rfl, rfl⟩
      go_wp2
      go_ret
      exact ⟨by rw [hr.out]; rfl, rfl⟩
  · have e1 := WM.down_ne f q h1
    have d1 : (((WM.down f q : Nat) : Int) == (f : Int)) = false := by simp; omega
    have hr : Hid (res = false) := by
      cases res
      · rfl
      · exact absurd (hres.1 rfl).1 h1
    clear hres hq h1 e1
    go_enter Tryz.func155, Tryz.ntmps155
    go_wp2_with fail
    refine (hD.out _).mono ?_
    rintro e w' ⟨rfl, rfl⟩
    go_wp2
    go_ret
    exact ⟨by rw [hr.out]; rfl, rfl⟩

/-- How many words n frames have. -/
def words (n : Nat) : Nat := 8 * ((n + 511) / 512)
theorem up_512 (n : Nat) (hn : n ≤ 65536) (h1 : 1 ≤ n) (w : World) : Calls Tryz.prog 51 #[.int .u64 n, .int .u64 512] w fun e w' => e = .returned (.tuple #[.int .u64 ((64 * words n : Nat) : Int), .int .i64 0]) ∧ w = w' := by
  have ho : WM.ones 512 64 = 1 := by decide
  by_cases h : n % 512 = 0
  · have := up_same n 512 (by omega) (by decide) ho h w
    have e : 64 * words n = n := by unfold words; omega
    rw [e]
    exact this
  · have e0 : WM.down n 512 = n - n % 512 := rfl
    have := up_next n 512 (by omega) (by decide) ho h (by omega) w
    have e : 64 * words n = WM.down n 512 + 512 := by rw [e0]; unfold words; omega
    rw [e]
    exact this

/-- What is taken in a new pool. -/
def fresh (n : Nat) : Nat → Bool := FR.st (fun _ => false) n (64 * words n - n) true

set_option maxRecDepth 100000 in
set_option maxHeartbeats 1000000 in
theorem newMarks_any (n : Nat) (h1 : 1 ≤ n) (h2 : n ≤ 65536) (w : World) :
    Calls Tryz.prog 64 #[.int .i64 n] w fun e w' => e = .returned (.slice (some ⟨w.heap.size, 0, none⟩) (words n) (words n)) ∧ Blk w' w.heap.size 36 (wrow (fresh n) (words n)) ∧ Below w.heap.size w w' := by
  have hU := W_hid (up_512 n h2 h1)
  have hfr : Hid (fresh n = FR.st (fun _ => false) n (64 * words n - n) true) := rfl
  obtain ⟨m, hm⟩ : ∃ m, words n = m := ⟨_, rfl⟩
  have hm1 : n ≤ 64 * m := by rw [← hm]; unfold words; omega
  have hm2 : 64 * m < n + 512 := by rw [← hm]; unfold words; omega
  have hm3 : m ≤ 1024 := by rw [← hm]; unfold words; omega
  rw [hm] at hU hfr ⊢
  obtain ⟨A, hA⟩ : ∃ A, 64 * m = A := ⟨_, rfl⟩
  rw [hA] at hU hfr hm1 hm2
  have eA : (A : Int) / 64 = m := by omega
  obtain ⟨X, hmk, hX⟩ := make_marks m (by omega)
  have hx := hX w
  have belX : Below w.heap.size w (w.alloc X) := (Below.refl _ _).alloc (Nat.le_refl _) _
  obtain ⟨D, hD⟩ : ∃ D, A - n = D := ⟨_, rfl⟩
  rw [hD] at hfr
  have eD : (A : Int) - n = D := by omega
  clear hm hX
  go_enter Tryz.func64, Tryz.ntmps64
  go_wp2_with fail
  refine (hU.out _).mono ?_
  rintro e w' ⟨rfl, rfl⟩
  go_wp2_with fail
  go_loopw [6, 20] (fun _ i wr => ∃ t : Nat, t ≤ D ∧ i = .int .i64 t ∧ Blk wr w.heap.size 36 (wrow (FR.st (fun _ => false) n t true) m) ∧ Below w.heap.size w wr) (fun _ i _ => D - (intOf i).toNat)
  case atStart => exact ⟨0, by omega, rfl, by rw [FR.st_zero]; exact hx, belX⟩
  case round =>
    obtain ⟨t, ht, rfl, hrw, bel⟩ := hrel
    by_cases hlt : t < D
    · have hS := set_any w.heap.size m (n + t) 1 (FR.st (fun _ => false) n t true) true 18446744073709551615 wr rfl hrw hm3 ⟨0, by decide, rfl⟩ (Nat.mod_one _) (by omega)
      rw [FR.st_step, Int.natCast_add] at hS
      replace hS := W_hid hS
      go_wp2_with fail
      refine hS.out.mono ?_
      rintro e w2 ⟨rfl, hrw2, two⟩
      have bel2 := bel.trans (two.below bel.size (Nat.le_refl _) (Nat.le_refl _))
      go_wp2
      go_roundw
      case rel => exact ⟨t + 1, by omega, by go_num, hrw2, bel2⟩
      case measure => simp [intOf]; omega
    · obtain rfl : t = D := by omega
      go_wp2
      go_ret
      exact ⟨rfl, by rw [hfr.out]; exact hrw, bel⟩

theorem fresh_low (n x : Nat) (hx : x < n) : fresh n x = false := FR.st_out _ _ _ _ _ (by omega)
theorem fresh_pad (n x : Nat) (h1 : n ≤ x) (h2 : x < 64 * words n) : fresh n x = true := by
  have := FR.st_in (fun _ => false) n (64 * words n - n) true (x - n) (by omega)
  rwa [show n + (x - n) = x by omega] at this
theorem fresh_cnt (n : Nat) : FR.cnt (fresh n) 0 n = 0 := (FR.cnt_zero _ _ _).2 fun i hi => fresh_low n _ (by omega)

set_option maxRecDepth 100000 in
set_option maxHeartbeats 1000000 in
theorem New_yes (n : Nat) (h1 : 1 ≤ n) (h2 : n ≤ 65536) (w : World) :
    Calls Tryz.prog 33 #[.int .i64 n] w fun e w' => ∃ g, e = .returned (.tuple #[.pointer (some ⟨g, 0, none⟩), .int .i64 0]) ∧ w.heap.size < g ∧ PL w' g w.heap.size n (words n) (fresh n) ∧ Below w.heap.size w w' := by
  have hM := W_hid (newMarks_any n h1 h2)
  have i1 : (1 : Int) ≤ n := by omega
  have i2 : (n : Int) ≤ 65536 := by omega
  obtain ⟨m, hm⟩ : ∃ m, words n = m := ⟨_, rfl⟩
  obtain ⟨T, hT⟩ : ∃ T, fresh n = T := ⟨_, rfl⟩
  have hpl : Hid (n ≤ 64 * m ∧ m % 8 = 0 ∧ m ≤ 1024 ∧ (∀ x, n ≤ x → x < 64 * m → T x = true) ∧ FR.cnt T 0 n = 0) := by
    rw [← hm, ← hT]
    exact ⟨by unfold words; omega, by unfold words; omega, by unfold words; omega, fun x a b => fresh_pad n x a b, fresh_cnt n⟩
  rw [hm, hT] at hM ⊢
  clear hm hT
  go_enter Tryz.func33, Tryz.ntmps33
  go_wp2_with fail
  refine (hM.out _).mono ?_
  rintro e w1 ⟨rfl, hrw, bel⟩
  go_wp2
  go_ret2
  obtain ⟨p1, p2, p3, p4, p5⟩ := hpl.out
  have hlt := hrw.lt
  exact ⟨w1.heap.size, rfl, hlt, ⟨⟨n, by omega, Blk.new w1 _ [.slice (some ⟨w.heap.size, 0, none⟩) m m, .int .i64 n, .int .i64 n] rfl⟩, hrw.alloc _, by omega, h1, h2, p1, p2, p3, p4⟩, bel.alloc bel.size _⟩

set_option maxRecDepth 100000 in
set_option maxHeartbeats 400000 in
theorem New_no (n : Int) (h : ¬ (1 ≤ n ∧ n ≤ 65536)) (w : World) :
    Calls Tryz.prog 33 #[.int .i64 n] w fun e w' => e = .returned (.tuple #[.pointer none, .int .i64 2]) ∧ w = w' := by
  by_cases h1 : n < 1
  · have d1 : decide (n < 1) = true := by simpa using h1
    clear h h1
    go_enter Tryz.func33, Tryz.ntmps33
    go_wp2
    go_ret2
    exact ⟨rfl, rfl⟩
  · have d1 : decide (n < 1) = false := by simp; omega
    have d2 : decide (65536 < n) = true := by simp; omega
    clear h h1
    go_enter Tryz.func33, Tryz.ntmps33
    go_wp2
    go_ret2
    exact ⟨rfl, rfl⟩

end Go.Proofs.YtkomahekdcaiaaaGreatDoor

/- Contracts of package frame's calls: Left, Taken, Alloc, Free; of every pool, and of a nil one. -/
namespace Go.Proofs.YtkomahekdcaiaaaGreatDoor
open Go.ChangeShapes Go.WideShapes Go.ChangeAt Go.RowKit
set_option linter.unusedVariables false
set_option linter.unusedSimpArgs false

set_option maxRecDepth 100000 in
set_option maxHeartbeats 400000 in
theorem Left_any (g b n m : Nat) (T : Nat → Bool) (w : World) (h : PL w g b n m T) : Calls Tryz.prog 14 #[.pointer (some ⟨g, 0, none⟩)] w fun e w' => e = .returned (.int .i64 ((n - FR.cnt T 0 n : Nat) : Int)) ∧ w = w' := by
  obtain ⟨lf, hlf, c0, c1, c2, fz⟩ := h.gives
  have hN := W_hid (none_pool g b n m T w h)
  have e1 : n - FR.cnt T 0 n = lf := by omega
  rw [e1]
  clear hlf h e1
  go_enter Tryz.func14, Tryz.ntmps14
  go_wp2_with fail
  refine hN.out.mono ?_
  rintro e w' ⟨rfl, rfl⟩
  go_wp2
  go_ret
  exact ⟨rfl, rfl⟩
set_option maxRecDepth 100000 in
set_option maxHeartbeats 400000 in
theorem Left_nil (w : World) : Calls Tryz.prog 14 #[.pointer none] w fun e w' => e = .returned (.int .i64 0) ∧ w = w' := by
  go_enter Tryz.func14, Tryz.ntmps14
  go_wp2_with fail
  refine (none_nil _).mono ?_
  rintro e w' ⟨rfl, rfl⟩
  go_wp2
  go_ret
  exact ⟨rfl, rfl⟩

set_option maxRecDepth 100000 in
set_option maxHeartbeats 400000 in
theorem Taken_any (g b n m f : Nat) (T : Nat → Bool) (res : Bool) (w : World) (h : PL w g b n m T) (hf : f < 18446744073709551616) (hres : res = (decide (f < n) && T f)) :
    Calls Tryz.prog 25 #[.pointer (some ⟨g, 0, none⟩), .int .u64 f] w fun e w' => e = .returned (.bool res) ∧ Below w.heap.size w w' := by
  obtain ⟨lf, hlf, c0, c1, c2, fz⟩ := h.gives
  have hN := W_hid (none_pool g b n m T w h)
  have hn2 := h.n2
  by_cases hlt : f < n
  · have hA := W_hid (are_any b m f 1 T true res 18446744073709551615 w rfl h.row h.m2 ⟨0, by decide, rfl⟩ (Nat.mod_one _) (by have := h.nm; omega) (by
      rw [hres, decide_eq_true hlt, Bool.true_and]
      constructor
      · intro e i hi; rw [show f + i = f by omega]; exact e
      · intro e; have := e 0 (by omega); rwa [Nat.add_zero] at this))
    have hf2 : f ≤ 65536 := by omega
    clear hlf h hres
    go_enter Tryz.func25, Tryz.ntmps25
    go_wp2_with fail
    refine hN.out.mono ?_
    rintro e w' ⟨rfl, rfl⟩
    go_wp2_with fail
    refine hA.out.mono ?_
    rintro e w2 ⟨rfl, bel⟩
    go_wp2
    go_ret
    exact ⟨rfl, bel⟩
  · have d1 : decide (f < n) = false := by simpa using hlt
    have hr : Hid (res = false) := by rw [hres, d1]; rfl
    clear hlf h hres hlt
    go_enter Tryz.func25, Tryz.ntmps25
    go_wp2_with fail
    refine hN.out.mono ?_
    rintro e w' ⟨rfl, rfl⟩
    go_wp2
    go_ret
    exact ⟨by rw [hr.out]; rfl, Below.refl _ _⟩
set_option maxRecDepth 100000 in
set_option maxHeartbeats 400000 in
theorem Taken_nil (f : Int) (w : World) : Calls Tryz.prog 25 #[.pointer none, .int .u64 f] w fun e w' => e = .returned (.bool false) ∧ w = w' := by
  go_enter Tryz.func25, Tryz.ntmps25
  go_wp2_with fail
  refine (none_nil _).mono ?_
  rintro e w' ⟨rfl, rfl⟩
  go_wp2
  go_ret
  exact ⟨rfl, rfl⟩

set_option maxRecDepth 100000 in
set_option maxHeartbeats 400000 in
theorem Alloc_nil (k : Int) (w : World) : Calls Tryz.prog 109 #[.pointer none, .int .i64 k] w fun e w' => e = .returned (.tuple #[.int .u64 0, .int .i64 1]) ∧ w = w' := by
  go_enter Tryz.func109, Tryz.ntmps109
  go_wp2_with fail
  refine (none_nil _).mono ?_
  rintro e w' ⟨rfl, rfl⟩
  go_wp2
  go_ret2
  exact ⟨rfl, rfl⟩
set_option maxRecDepth 100000 in
set_option maxHeartbeats 400000 in
theorem Free_nil (f k : Int) (w : World) : Calls Tryz.prog 129 #[.pointer none, .int .u64 f, .int .i64 k] w fun e w' => e = .returned (.int .i64 1) ∧ w = w' := by
  go_enter Tryz.func129, Tryz.ntmps129
  go_wp2_with fail
  refine (none_nil _).mono ?_
  rintro e w' ⟨rfl, rfl⟩
  go_wp2
  go_ret
  exact ⟨rfl, rfl⟩

set_option maxRecDepth 100000 in
set_option maxHeartbeats 1000000 in
theorem Alloc_any (g b n m : Nat) (T T' : Nat → Bool) (k : Int) (a e : Nat) (w : World) (h : PL w g b n m T) (hs : FR.Gets T n k a e T') :
    Calls Tryz.prog 109 #[.pointer (some ⟨g, 0, none⟩), .int .i64 k] w fun r w' => r = .returned (.tuple #[.int .u64 a, .int .i64 e]) ∧ PL w' g b n m T' ∧ Two g b w w' := by
  have hN := W_hid (none_pool g b n m T w h)
  rcases hs with ⟨rfl, rfl, rfl, hk⟩ | ⟨rfl, rfl, rfl, q, rfl, hq, hno⟩ | ⟨rfl, q, rfl, hq, hlow, rfl⟩
  · have hL := W_hid (length_no k hk)
    clear hk
    go_enter Tryz.func109, Tryz.ntmps109
    go_wp2_with fail
    refine hN.out.mono ?_
    rintro e w' ⟨rfl, rfl⟩
    go_wp2_with fail
    refine (hL.out _).mono ?_
    rintro e w' ⟨rfl, rfl⟩
    go_wp2
    go_ret2
    exact ⟨rfl, h, Two.refl _ _ _⟩
  · have hL := W_hid (length_yes q hq)
    obtain ⟨lf, hlf, c0, c1, c2, fz⟩ := h.gives
    have hLow := W_hid (lowest_any b m q 0 T' false w h.row h.m2 h.m8 hq (.inr ⟨rfl, rfl, hno.wide (FR.run_le hq).1 h.pad⟩))
    have H := W_hid h
    clear hno hq hlf h
    go_enter Tryz.func109, Tryz.ntmps109
    go_wp2_with fail
    refine hN.out.mono ?_
    rintro e w' ⟨rfl, rfl⟩
    go_wp2_with fail
    refine (hL.out _).mono ?_
    rintro e w' ⟨rfl, rfl⟩
    go_wp2_with fail
    refine hLow.out.mono ?_
    rintro e w2 ⟨rfl, bel⟩
    go_wp2
    go_ret2
    exact ⟨rfl, H.out.keep bel, Two.of bel⟩
  · have hL := W_hid (length_yes q hq)
    obtain ⟨lf, hlf, hbox⟩ := h.box
    have c0 := hbox.cell (j := 0) rfl
    have hLow := W_hid (lowest_any b m q a T true w h.row h.m2 h.m8 hq (.inl ⟨rfl, hlow.wide h.nm⟩))
    have hpad := (FR.Gets.pad (m := 64 * m) (.inr (.inr ⟨rfl, q, rfl, hq, hlow, rfl⟩)) h.pad : ∀ x, n ≤ x → x < 64 * m → FR.st T a q true x = true)
    have hS := W_hid (fun w' (hr : Blk w' b 36 (wrow T m)) => set_any b m a q T true 18446744073709551615 w' rfl hr h.m2 hq hlow.1 (by have := hlow.2.1; have := h.nm; omega))
    have hcnt := FR.cnt_st T n a q true hlow.2.1
    rw [(FR.cnt_zero T a q).2 hlow.2.2.1, if_pos rfl] at hcnt
    have hcl := FR.cnt_le (FR.st T a q true) 0 n
    have hlq : q ≤ lf := by omega
    have ha : a ≤ 65536 := by have := hlow.2.1; have := h.n2; omega
    have hlf2 : lf ≤ 65536 := by have := h.n2; omega
    have hnew : lf - q + FR.cnt (FR.st T a q true) 0 n = n := by omega
    replace hnew := W_hid hnew
    replace hpad := W_hid hpad
    have H := W_hid h
    clear hlow hq hlf h hcnt hcl
    go_enter Tryz.func109, Tryz.ntmps109
    go_wp2_with fail
    refine hN.out.mono ?_
    rintro e w' ⟨rfl, rfl⟩
    go_wp2_with fail
    refine (hL.out _).mono ?_
    rintro e w' ⟨rfl, rfl⟩
    go_wp2_with fail
    refine hLow.out.mono ?_
    rintro e w2 ⟨rfl, bel⟩
    have c02 := (hbox.keep bel).cell (j := 0) rfl
    go_wp2_with fail
    refine (hS.out _ (H.out.row.keep bel)).mono ?_
    rintro e w3 ⟨rfl, hrw3, two3⟩
    have hbox3 := (hbox.keep bel).two two3 H.out.ne H.out.ne
    have c23 := hbox3.cell (j := 2) rfl
    have fz3 := hbox3.fz
    have hbox4 := hbox3.set 2 (.int .i64 ((lf : Int) - q))
    have hrw4 := hrw3.far (p := ⟨g, 2, none⟩) (fun e => H.out.ne e.symm) (.int .i64 ((lf : Int) - q))
    have two4 := (((Two.of (g := g) (b := b) bel).trans two3.wide)).setCell (p := ⟨g, 2, none⟩) (.inl rfl) (.int .i64 ((lf : Int) - q))
    go_wp2
    go_ret2
    have e1 : (lf : Int) - q = ((lf - q : Nat) : Int) := by omega
    refine ⟨rfl, ⟨⟨lf - q, hnew.out, ?_⟩, hrw4, H.out.ne, H.out.n1, H.out.n2, H.out.nm, H.out.m8, H.out.m2, hpad.out⟩, two4⟩
    rw [← e1]
    exact hbox4

set_option maxRecDepth 100000 in
set_option maxHeartbeats 1000000 in
theorem Free_any (g b n m f : Nat) (T T' : Nat → Bool) (k : Int) (e : Nat) (w : World) (h : PL w g b n m T) (hf : f < 18446744073709551616) (hs : FR.Puts T n f k e T') :
    Calls Tryz.prog 129 #[.pointer (some ⟨g, 0, none⟩), .int .u64 f, .int .i64 k] w fun r w' => r = .returned (.int .i64 e) ∧ PL w' g b n m T' ∧ Two g b w w' := by
  have hN := W_hid (none_pool g b n m T w h)
  rcases hs with ⟨rfl, rfl, hk⟩ | ⟨rfl, rfl, q, rfl, hq, hno⟩ | ⟨rfl, rfl, q, rfl, hq, h1, h2, hno⟩ | ⟨rfl, q, rfl, hq, h1, h2, hall, rfl⟩
  · have hL := W_hid (length_no k hk)
    clear hk
    go_enter Tryz.func129, Tryz.ntmps129
    go_wp2_with fail
    refine hN.out.mono ?_
    rintro e w' ⟨rfl, rfl⟩
    go_wp2_with fail
    refine (hL.out _).mono ?_
    rintro e w' ⟨rfl, rfl⟩
    go_wp2
    go_ret
    exact ⟨rfl, h, Two.refl _ _ _⟩
  · have hL := W_hid (length_yes q hq)
    have hH := W_hid (holds_any g b n m f q T' false w h hf hq ⟨fun e => absurd e (by decide), fun e => absurd e hno⟩)
    clear hno hq
    go_enter Tryz.func129, Tryz.ntmps129
    go_wp2_with fail
    refine hN.out.mono ?_
    rintro e w' ⟨rfl, rfl⟩
    go_wp2_with fail
    refine (hL.out _).mono ?_
    rintro e w' ⟨rfl, rfl⟩
    go_wp2_with fail
    refine hH.out.mono ?_
    rintro e w' ⟨rfl, rfl⟩
    go_wp2
    go_ret
    exact ⟨rfl, h, Two.refl _ _ _⟩
  · have hL := W_hid (length_yes q hq)
    have hH := W_hid (holds_any g b n m f q T' true w h hf hq ⟨fun _ => ⟨h1, h2⟩, fun _ => rfl⟩)
    have hA := W_hid (are_any b m f q T' true false 18446744073709551615 w rfl h.row h.m2 hq h1 (by have := h.nm; omega) ⟨fun e => absurd e (by decide), fun e => absurd e hno⟩)
    obtain ⟨lf, hlf, hbox⟩ := h.box
    have c0 := hbox.cell (j := 0) rfl
    have hf2 : f ≤ 65536 := by have := h.n2; omega
    have H := W_hid h
    clear hno hq hlf h
    go_enter Tryz.func129, Tryz.ntmps129
    go_wp2_with fail
    refine hN.out.mono ?_
    rintro e w' ⟨rfl, rfl⟩
    go_wp2_with fail
    refine (hL.out _).mono ?_
    rintro e w' ⟨rfl, rfl⟩
    go_wp2_with fail
    refine hH.out.mono ?_
    rintro e w' ⟨rfl, rfl⟩
    go_wp2_with fail
    refine hA.out.mono ?_
    rintro e w2 ⟨rfl, bel⟩
    go_wp2
    go_ret
    exact ⟨rfl, H.out.keep bel, Two.of bel⟩
  · have hL := W_hid (length_yes q hq)
    have hH := W_hid (holds_any g b n m f q T true w h hf hq ⟨fun _ => ⟨h1, h2⟩, fun _ => rfl⟩)
    have hA := W_hid (are_any b m f q T true true 18446744073709551615 w rfl h.row h.m2 hq h1 (by have := h.nm; omega) ⟨fun _ => hall, fun _ => rfl⟩)
    obtain ⟨lf, hlf, hbox⟩ := h.box
    have c0 := hbox.cell (j := 0) rfl
    have hpad := (FR.Puts.pad (m := 64 * m) (.inr (.inr (.inr ⟨rfl, q, rfl, hq, h1, h2, hall, rfl⟩))) h.pad : ∀ x, n ≤ x → x < 64 * m → FR.st T f q false x = true)
    have hS := W_hid (fun w' (hr : Blk w' b 36 (wrow T m)) => set_any b m f q T false 0 w' rfl hr h.m2 hq h1 (by have := h.nm; omega))
    have hcnt := FR.cnt_st T n f q false h2
    rw [(FR.cnt_full T f q).2 hall, if_neg (by decide)] at hcnt
    have hf2 : f ≤ 65536 := by have := h.n2; omega
    have hlf2 : lf ≤ 65536 := by have := h.n2; omega
    have hq2 := (FR.run_le hq).2
    have hnew : lf + q + FR.cnt (FR.st T f q false) 0 n = n := by omega
    replace hnew := W_hid hnew
    replace hpad := W_hid hpad
    have H := W_hid h
    clear hq hlf h hcnt hall
    go_enter Tryz.func129, Tryz.ntmps129
    go_wp2_with fail
    refine hN.out.mono ?_
    rintro e w' ⟨rfl, rfl⟩
    go_wp2_with fail
    refine (hL.out _).mono ?_
    rintro e w' ⟨rfl, rfl⟩
    go_wp2_with fail
    refine hH.out.mono ?_
    rintro e w' ⟨rfl, rfl⟩
    go_wp2_with fail
    refine hA.out.mono ?_
    rintro e w2 ⟨rfl, bel⟩
    have c02 := (hbox.keep bel).cell (j := 0) rfl
    go_wp2_with fail
    refine (hS.out _ (H.out.row.keep bel)).mono ?_
    rintro e w3 ⟨rfl, hrw3, two3⟩
    have hbox3 := (hbox.keep bel).two two3 H.out.ne H.out.ne
    have c23 := hbox3.cell (j := 2) rfl
    have fz3 := hbox3.fz
    have hbox4 := hbox3.set 2 (.int .i64 ((lf : Int) + q))
    have hrw4 := hrw3.far (p := ⟨g, 2, none⟩) (fun e => H.out.ne e.symm) (.int .i64 ((lf : Int) + q))
    have two4 := (((Two.of (g := g) (b := b) bel).trans two3.wide)).setCell (p := ⟨g, 2, none⟩) (.inl rfl) (.int .i64 ((lf : Int) + q))
    go_wp2
    go_ret
    refine ⟨rfl, ⟨⟨lf + q, hnew.out, ?_⟩, hrw4, H.out.ne, H.out.n1, H.out.n2, H.out.nm, H.out.m8, H.out.m2, hpad.out⟩, two4⟩
    rw [Int.natCast_add]
    exact hbox4

end Go.Proofs.YtkomahekdcaiaaaGreatDoor

/- A tree in memory, with its pool; frames are given back. -/
namespace Go.Proofs.YtkomahekdcaiaaaGreatDoor
open Go.ChangeShapes Go.WideShapes Go.ChangeAt Go.RowKit
set_option linter.unusedVariables false
set_option linter.unusedSimpArgs false

/-- A tree in memory: its own block g, its pool's blocks pg and pb, its map b. -/
structure TT (w : World) (g pg pb n m : Nat) (T : Nat → Bool) (r b : Nat) (M : Nat → Option (Nat → Nat)) : Prop where
  tm : TM w g pg r b M
  pl : PL w pg pb n m T
  g1 : g ≠ pg
  g2 : g ≠ pb
  g3 : g ≠ b
  b1 : b ≠ pg
  b2 : b ≠ pb
  k0 : 0 ≠ g
  k1 : 0 ≠ pg
  k2 : 0 ≠ pb
  k3 : 0 ≠ b

theorem KT.two {w w' : World} {x y : Nat} (h : KT w) (t : Two x y w w') (h1 : 0 ≠ x) (h2 : 0 ≠ y) : KT w' := by
  obtain ⟨e, fr, hk⟩ := h
  exact ⟨e, fr, (t.block _ (KT.lt ⟨e, fr, hk⟩) h1 h2).trans hk⟩
theorem MB.two {w w' : World} {x y b : Nat} {M : Nat → Option (Nat → Nat)} (h : MB w b M) (t : Two x y w w') (h1 : b ≠ x) (h2 : b ≠ y) : MB w' b M := h.heap (t.block _ h.lt h1 h2)
section
variable {w w' : World} {g pg pb n m r b : Nat} {T T' : Nat → Bool} {M M' : Nat → Option (Nat → Nat)}
theorem TT.keep (h : TT w g pg pb n m T r b M) (hb : Below w.heap.size w w') : TT w' g pg pb n m T r b M := ⟨h.tm.keep hb, h.pl.keep hb, h.g1, h.g2, h.g3, h.b1, h.b2, h.k0, h.k1, h.k2, h.k3⟩
/-- The pool was written. -/
theorem TT.pool (h : TT w g pg pb n m T r b M) (hp : PL w' pg pb n m T') (t : Two pg pb w w') : TT w' g pg pb n m T' r b M :=
  ⟨⟨h.tm.box.two t h.g1 h.g2, h.tm.mb.two t h.b1 h.b2, h.tm.kt.two t h.k1 h.k2⟩, hp, h.g1, h.g2, h.g3, h.b1, h.b2, h.k0, h.k1, h.k2, h.k3⟩
/-- The map was written. -/
theorem TT.map (h : TT w g pg pb n m T r b M) (hm : MB w' b M') (t : Two b b w w') : TT w' g pg pb n m T r b M' :=
  ⟨⟨h.tm.box.two t h.g3 h.g3, hm, h.tm.kt.two t h.k3 h.k3⟩, h.pl.two t (Ne.symm h.b1) (Ne.symm h.b1) (Ne.symm h.b2) (Ne.symm h.b2), h.g1, h.g2, h.g3, h.b1, h.b2, h.k0, h.k1, h.k2, h.k3⟩
/-- The map was written, and another block that is none of the tree's. -/
theorem TT.map2 {x : Nat} (h : TT w g pg pb n m T r b M) (hm : MB w' b M') (t : Two x b w w') (h1 : g ≠ x) (h2 : pg ≠ x) (h3 : pb ≠ x) (h4 : 0 ≠ x) : TT w' g pg pb n m T r b M' :=
  ⟨⟨h.tm.box.two t h1 h.g3, hm, h.tm.kt.two t h4 h.k3⟩, h.pl.two t h2 (Ne.symm h.b1) h3 (Ne.symm h.b2), h.g1, h.g2, h.g3, h.b1, h.b2, h.k0, h.k1, h.k2, h.k3⟩
end

theorem PL.below {w w' : World} {g b n m B : Nat} {T : Nat → Bool} (h : PL w g b n m T) (hb : Below B w w') (hg : g < B) (hbb : b < B) : PL w' g b n m T :=
  ⟨h.box.elim fun lf e => ⟨lf, e.1, e.2.below hb hg⟩, h.row.below hb hbb, h.ne, h.n1, h.n2, h.nm, h.m8, h.m2, h.pad⟩
theorem PL.lts {w : World} {g b n m : Nat} {T : Nat → Bool} (h : PL w g b n m T) : g < w.heap.size ∧ b < w.heap.size := ⟨h.box.elim fun lf e => e.2.lt, h.row.lt⟩
theorem Two.low {g b : Nat} {w w' w2 : World} (t : Two g b w w') (h : Below w.heap.size w' w2) : Two g b w w2 :=
  ⟨h.os.trans t.os, h.tape.trans t.tape, h.output.trans t.output, Nat.le_trans t.size h.size, fun k hk h1 h2 => (h.block k hk).trans (t.block k hk h1 h2)⟩
/-- All that was there is there, but for blocks of a list. -/
structure But (S : List Nat) (w w' : World) : Prop where
  os : w'.os = w.os
  tape : w'.tape = w.tape
  output : w'.output = w.output
  size : w.heap.size ≤ w'.heap.size
  block : ∀ k, k < w.heap.size → k ∉ S → w'.heap[k]? = w.heap[k]?
section
variable {S : List Nat} {w w' w2 : World}
theorem But.of (h : Below w.heap.size w w') : But S w w' := ⟨h.os, h.tape, h.output, h.size, fun k hk _ => h.block k hk⟩
theorem But.refl (S : List Nat) (w : World) : But S w w := But.of (Below.refl _ _)
theorem But.trans (h : But S w w') (k : But S w' w2) : But S w w2 :=
  ⟨k.os.trans h.os, k.tape.trans h.tape, k.output.trans h.output, Nat.le_trans h.size k.size, fun i hi hS => (k.block i (Nat.lt_of_lt_of_le hi h.size) hS).trans (h.block i hi hS)⟩
theorem But.two {x y : Nat} (t : Two x y w w') (hx : x ∈ S) (hy : y ∈ S) : But S w w' := ⟨t.os, t.tape, t.output, t.size, fun k hk hS => t.block k hk (fun e => hS (e ▸ hx)) (fun e => hS (e ▸ hy))⟩
theorem But.drew (h : But S w w') (n : Nat) : But S w (w'.drewN n) := ⟨h.os, h.tape, h.output, h.size, h.block⟩
theorem But.undrew {n : Nat} (h : But S (w.drewN n) w') : But S w w' := ⟨h.os, h.tape, h.output, h.size, h.block⟩
theorem But.set (h : But S w w') {p : Addr} (hp : p.block ∈ S ∨ w.heap.size ≤ p.block) (u : Value) : But S w (w'.setCell p u) :=
  ⟨h.os, h.tape, h.output, by simpa [World.setCell] using h.size, fun k hk hS => (Below.heap_setCell w' p u k (fun e => by
    rcases hp with hp | hp
    · exact hS (e ▸ hp)
    · omega)).trans (h.block k hk hS)⟩
theorem But.alloc (h : But S w w') (o : Obj) : But S w (w'.alloc o) := h.trans (But.of ((Below.refl _ _).alloc (Nat.le_refl _) o))
theorem But.keep (h : But S w w') (k : Below w'.heap.size w' w2) : But S w w2 := h.trans (But.of k)
theorem But.low (h : But S w w') (k : Below w.heap.size w' w2) : But S w w2 :=
  ⟨k.os.trans h.os, k.tape.trans h.tape, k.output.trans h.output, Nat.le_trans h.size k.size, fun i hi hS => (k.block i hi).trans (h.block i hi hS)⟩
theorem But.below {B : Nat} (h : But S w w') (hS : ∀ x ∈ S, B ≤ x) (hB : B ≤ w.heap.size) : Below B w w' :=
  ⟨h.os, h.tape, h.output, h.size, fun k hk => h.block k (by omega) (fun hm => by have := hS k hm; omega)⟩
/-- The world ahead of a call is given a letter. -/
theorem calls_world {P : Program} {f : FuncId} {args : Array Value} {Q : Ending → World → Prop} {W : World} (R : World → Prop) (h : R W) (k : ∀ W, R W → Calls P f args W Q) : Calls P f args W Q := k W h
theorem Blk.but {x : Nat} {e : TypeId} {l : List Value} (h : Blk w x e l) (t : But S w w') (hx : x ∉ S) : Blk w' x e l := (t.block x h.lt hx).trans h
theorem KT.but (h : KT w) (t : But S w w') (hx : 0 ∉ S) : KT w' := by
  obtain ⟨e, fr, hk⟩ := h
  exact ⟨e, fr, (t.block _ (KT.lt ⟨e, fr, hk⟩) hx).trans hk⟩
end

/-- Frames given back, one behind the other. -/
def freeAll (T : Nat → Bool) (fs : List Nat) : Nat → Bool := fun x => if x ∈ fs then false else T x
theorem free_nil (T : Nat → Bool) : freeAll T [] = T := by funext x; simp [freeAll]
theorem free_snoc (T : Nat → Bool) (fs : List Nat) (f : Nat) : FR.st (freeAll T fs) f 1 false = freeAll T (fs ++ [f]) := by
  funext x
  unfold FR.st freeAll
  by_cases h1 : x = f
  · subst h1; simp
  · by_cases h2 : x ∈ fs
    · simp [h2]
    · simp [h1, h2]; try omega
theorem puts_one {T : Nat → Bool} {n f : Nat} (h1 : f < n) (h2 : T f = true) : FR.Puts T n f 1 0 (FR.st T f 1 false) :=
  .inr (.inr (.inr ⟨rfl, 1, rfl, ⟨0, by omega, rfl⟩, by omega, by omega, fun i hi => by rw [show f + i = f by omega]; exact h2, rfl⟩))

/-- Numbers in a row of memory. -/
def Row (w : World) (blk off : Nat) (fs : List Nat) : Prop := ∀ (j : Nat) (hj : j < fs.length), w.cell? ⟨blk, off + j, none⟩ = some (.int .u64 ((fs[j] : Nat) : Int))

theorem give_nil (g : Nat) (a : Option Addr) (c : Nat) (w : World) :
    Calls Tryz.prog 87 #[.pointer (some ⟨g, 0, none⟩), .slice a 0 c] w fun e w' => e = .returned (.tuple #[]) ∧ w = w' := by
  go_enter Tryz.func87, Tryz.ntmps87
  go_wp2
  refine wp_loop_rounds 1 ?_
  rw [rounds_succ]
  go_wp2
  go_end0
  exact ⟨rfl, rfl⟩

set_option maxRecDepth 100000 in
set_option maxHeartbeats 2000000 in
theorem give_any (g pg pb n m r b blk off cap : Nat) (T : Nat → Bool) (M : Nat → Option (Nat → Nat)) (fs : List Nat) (w : World) (h : TT w g pg pb n m T r b M) (hr : Row w blk off fs) (hl : fs.length ≤ 65536) (hb : blk < w.heap.size) (h1 : blk ≠ pg) (h2 : blk ≠ pb)
    (hT : ∀ f ∈ fs, f < n ∧ T f = true) (hnd : fs.Nodup) :
    Calls Tryz.prog 87 #[.pointer (some ⟨g, 0, none⟩), .slice (some ⟨blk, off, none⟩) fs.length cap] w fun e w' =>
      e = .returned (.tuple #[]) ∧ PL w' pg pb n m (freeAll T fs) ∧ Two pg pb w w' := by
  obtain ⟨N, hN⟩ : ∃ N, fs.length = N := ⟨_, rfl⟩
  rw [hN]
  rw [hN] at hl
  have H := W_hid h
  have hn2 := h.pl.n2
  clear h
  go_enter Tryz.func87, Tryz.ntmps87
  go_wp2
  go_loopw [8] (fun i wr => ∃ k : Nat, k ≤ N ∧ i = .int .i64 (k : Int) ∧ PL wr pg pb n m (freeAll T (fs.take k)) ∧ Two pg pb w wr) (fun i _ => N - (intOf i).toNat)
  case atStart => exact ⟨0, by omega, rfl, by rw [List.take_zero, free_nil]; exact H.out.pl, Two.refl _ _ _⟩
  case round =>
    obtain ⟨k, hk, rfl, hP, t⟩ := hrel
    have c0 : wr.cell? ⟨g, 0, none⟩ = some (.pointer (some ⟨pg, 0, none⟩)) := (H.out.tm.box.two t H.out.g1 H.out.g2).cell rfl
    by_cases hlt : k < N
    · have hk2 : k < fs.length := by omega
      have hmem : fs[k] ∈ fs := List.getElem_mem hk2
      have hcell : wr.cell? ⟨blk, off + k, none⟩ = some (.int .u64 ((fs[k] : Nat) : Int)) := (cell_heap (t.block blk hb h1 h2) _).trans (hr k hk2)
      have hF := hT _ hmem
      have htk : freeAll T (fs.take k) fs[k] = true := by
        unfold freeAll
        rw [if_neg, hF.2]
        intro hm
        rw [List.nodup_iff_pairwise_ne] at hnd
        obtain ⟨j, hj, e⟩ := List.getElem_of_mem hm
        rw [List.length_take] at hj
        rw [List.getElem_take] at e
        exact (List.pairwise_iff_getElem.1 hnd j k (by omega) hk2 (by omega)) e
      have hFree := W_hid (fun w h => Free_any pg pb n m fs[k] _ _ 1 0 w h (by omega) (puts_one hF.1 htk))
      have hnext : Hid (FR.st (freeAll T (fs.take k)) fs[k] 1 false = freeAll T (fs.take (k + 1))) := by
        show _ = _
        rw [free_snoc, List.take_succ_eq_append_getElem hk2]
      generalize hfk : fs[k] = f at *
      have hlt3 : (k : Int) < N := by omega
      replace hP := W_hid hP
      replace t := W_hid t
      clear hfk hmem htk hF
      go_wp2_with fail
      refine (hFree.out _ hP.out).mono ?_
      rintro e w2 ⟨rfl, hP2, t2⟩
      rw [hnext.out] at hP2
      have hP2 := W_hid hP2
      have t3 := W_hid (t.out.trans t2)
      clear t2
      go_wp2
      go_roundw
      case rel => exact ⟨k + 1, by omega, by go_num, hP2.out, t3.out⟩
      case measure => simp [intOf]; omega
    · obtain rfl : k = N := by omega
      rw [List.take_of_length_le (by omega)] at hP
      replace hP := W_hid hP
      replace t := W_hid t
      go_wp2
      go_end0
      exact ⟨rfl, hP.out, t.out⟩
end Go.Proofs.YtkomahekdcaiaaaGreatDoor

/- Rows that a call owns, for elements of any size: cut, set, carried along; an append to one; free of any program's numbers. -/
namespace Go.Proofs.YtkomahekdcaiaaaGreatDoor
open Go.ChangeShapes Go.WideShapes Go.ChangeAt Go.RowKit
set_option linter.unusedVariables false
set_option linter.unusedSimpArgs false
namespace Own

section
variable {w w' : World} {base e size n : Nat} {v : Value} {xs : List Value}
theorem ge (hown : w.ownsRow base e size v n xs) (g : Nat) (hg : v.ownBlock = some g) : base ≤ g := by
  rcases hown.2 with ⟨rfl, _⟩ | ⟨g', cap, cur, rfl, hb, _⟩
  · cases hg
  · cases hg; exact hb
theorem low {base' : Nat} (h : base' ≤ base) (hown : w.ownsRow base e size v n xs) : w.ownsRow base' e size v n xs := by
  rcases hown.2 with h0 | ⟨g, cap, cur, h1, h2, h3⟩
  · exact ⟨hown.1, .inl h0⟩
  · exact ⟨hown.1, .inr ⟨g, cap, cur, h1, Nat.le_trans h h2, h3⟩⟩
theorem form (h : w.ownsRow base e size v n xs) : ∃ ao cap, v = .slice ao n cap := by
  rcases h.2 with ⟨rfl, rfl⟩ | ⟨g, cap, cur, rfl, _⟩
  · exact ⟨_, _, rfl⟩
  · exact ⟨_, _, rfl⟩
/-- A store below the row's blocks leaves the row. -/
theorem set (h : w.ownsRow base e size v n xs) {p : Addr} (hp : p.block < base) (u : Value) : (w.setCell p u).ownsRow base e size v n xs := by
  rcases h.2 with h0 | ⟨g, cap, cur, h1, h2, h3, h4⟩
  · exact ⟨h.1, .inl h0⟩
  · exact ⟨h.1, .inr ⟨g, cap, cur, h1, h2, (Below.heap_setCell w p u g (by omega)).trans h3, h4⟩⟩
/-- What leaves all that was there leaves the row. -/
theorem below (h : w.ownsRow base e size v n xs) (hb : Below w.heap.size w w') : w'.ownsRow base e size v n xs := by
  rcases h.2 with h0 | ⟨g, cap, cur, h1, h2, h3, h4⟩
  · exact ⟨h.1, .inl h0⟩
  · have hlt : g < w.heap.size := by
      rcases Nat.lt_or_ge g w.heap.size with hlt | hge
      · exact hlt
      · rw [Array.getElem?_eq_none hge] at h3; cases h3
    exact ⟨h.1, .inr ⟨g, cap, cur, h1, h2, (hb.block g hlt).trans h3, h4⟩⟩
/-- What is owned, cut at its end. -/
theorem cut {ao : Option Addr} {cap : Nat} (h : w.ownsRow base e size (.slice ao n cap) n xs) {k : Nat} (hk : k ≤ n) : w.ownsRow base e size (.slice ao k cap) k (xs.take (k * size)) := by
  have hks : k * size ≤ n * size := Nat.mul_le_mul_right _ hk
  rcases h.2 with ⟨h', h''⟩ | ⟨g, cap', cur, h', hb, hg, hnc, hcm, hcs, htake⟩
  · simp only [Value.slice.injEq] at h'
    obtain ⟨rfl, rfl, rfl⟩ := h'
    obtain rfl : k = 0 := by omega
    rw [Nat.zero_mul, List.take_zero]
    exact World.ownsRow_nil _ _ _ _
  · simp only [Value.slice.injEq, true_and] at h'
    obtain ⟨rfl, rfl⟩ := h'
    refine ⟨by rw [List.length_take, h.1]; omega, .inr ⟨g, cap, cur, rfl, hb, hg, by omega, hcm, hcs, ?_⟩⟩
    rw [← htake, List.take_take, Nat.min_eq_left hks]
end

/-- 'append' to an owned row, as one step of a region that draws its order. -/
theorem step_append {P : Program} {ops : Array Oper} {o : Oper} {a : Act} {w : World} {K : Act → World → Prop} {Q : Exit → Act → World → Prop} {E : Prop}
    (hg : o.guard = none) (s x : Operand) (t : TypeId) (hop : o.op = Op.call { callee := Callee.builtin Builtin.append, args := #[s, x], argTypes := #[t, t] })
    (base : Nat) (e : TypeId) (i : TypeInfo) (z : Value) (size bytes : Nat) (ht : P.underlying t = some (.slice e)) (hi : P.info? e = some i) (hz : i.zero = some z)
    (hsize : i.size = size) (hby : i.bytes = bytes) (hzs : z.cells.size = size) (hsz : 0 < size)
    (v : Value) (n : Nat) (xs : List Value) (hs : a.eval s = v) (hown : w.ownsRow base e size v n xs)
    (ad : Addr) (m c : Nat) (news : List Value) (hx : a.eval x = .slice (some ad) m c) (hl : news.length = m * size) (hnews : ∀ j u, news[j]? = some u → w.cell? (ad.add j) = some u) (h1 : ∀ u ∈ news, u.oneCell' = true)
    (h63 : n + m ≤ maxLen) (hbytes : ((n + m) + (n + m) / 4 + 192) * bytes ≤ 281474976710656) (hbase : base ≤ w.heap.size)
    (hK : ∀ v' w', w'.ownsRow base e size v' (n + m) (xs ++ news) → w.grownBy w' v.ownBlock → K (a.put o.dst v') w') :
    if Region.wanted o (yielded ops a.tmps) = true then Oper.wp P o a w K Q else E := by
  have hw : Region.wanted o (yielded ops a.tmps) = true := by simp [Region.wanted, hg]
  rw [if_pos hw]
  obtain ⟨v', w', hrun, r1, r2, -⟩ := run_append_own_wide (P := P) w base t o.type e i z size bytes ht hi hz hsize hby hzs hsz v n xs hown ad m c news hl hnews h1 h63 hbytes hbase
  unfold Oper.wp
  simp [execOp, hop, resolve, invoke, builtin, hs, hx, hrun, Result.andThen]
  exact hK v' w' r1 r2
theorem undrew {w w' : World} {row : Option Nat} (h : w.drew.grownBy w' row) : w.grownBy w' row := ⟨h.os, h.tape, h.output, h.size, h.block⟩
theorem bundrew {B : Nat} {w w' : World} (h : Below B w.drew w') : Below B w w' := ⟨h.os, h.tape, h.output, h.size, h.block⟩
/-- A cell of another block than the row that was written. -/
theorem cellg {w w' : World} {row : Option Nat} {p : Addr} {v : Value} (hg : w.grownBy w' row) (hc : w.cell? p = some v) (hp : some p.block ≠ row) : w'.cell? p = some v := by
  rw [World.cell?_of_block (w := w) (hg.block p.block (World.block_lt_of_cell? w _ hc) hp)]
  exact hc
/-- Two cells that were made last. -/
theorem cells_two (w : World) (a b : Value) (t : TypeId) (s : Nat × Nat) : ∀ j u, [a, b][j]? = some u → (w.alloc (.cells #[a, b] t s)).cell? ((⟨w.heap.size, 0, none⟩ : Addr).add j) = some u := by
  intro j u hu
  have hr := heap_alloc_new w (.cells #[a, b] t s)
  rw [Addr.add_lit, cell_of_row _ _ _ _ _ _ hr]
  match j, hu with
  | 0, hu => simpa using hu
  | 1, hu => simpa using hu
end Own
end Go.Proofs.YtkomahekdcaiaaaGreatDoor

/- Contract of package radix's take: so many frames out of the pool, or none. -/
namespace Go.Proofs.YtkomahekdcaiaaaGreatDoor
open Go.ChangeShapes Go.WideShapes Go.ChangeAt Go.RowKit
set_option linter.unusedVariables false
set_option linter.unusedSimpArgs false

def ucel (fs : List Nat) : List Value := fs.map fun f => .int .u64 ((f : Nat) : Int)
theorem ucel_length (fs : List Nat) : (ucel fs).length = fs.length := by simp [ucel]
theorem ucel_append (a b : List Nat) : ucel (a ++ b) = ucel a ++ ucel b := by simp [ucel]
theorem ucel_get (fs : List Nat) (j : Nat) (hj : j < fs.length) : (ucel fs)[j]? = some (.int .u64 ((fs[j] : Nat) : Int)) := by simp [ucel, hj]

/-- Frames taken, one behind the other, each the lowest that is free. -/
def takeAll (T : Nat → Bool) (fs : List Nat) : Nat → Bool := fun x => if x ∈ fs then true else T x
theorem take_nil (T : Nat → Bool) : takeAll T [] = T := by funext x; simp [takeAll]
theorem take_snoc' (T : Nat → Bool) (fs : List Nat) (f : Nat) : FR.st (takeAll T fs) f 1 true = takeAll T (fs ++ [f]) := by
  funext x
  unfold FR.st takeAll
  by_cases h1 : x = f
  · subst h1; simp
  · by_cases h2 : x ∈ fs
    · simp [h2]
    · simp [h1, h2]; try omega
def Takes (T : Nat → Bool) (n : Nat) (fs : List Nat) : Prop := ∀ (j : Nat) (hj : j < fs.length), FR.Low (takeAll T (fs.take j)) n 1 fs[j]
theorem low_one {T : Nat → Bool} {n f : Nat} (h : FR.Low T n 1 f) : f < n ∧ T f = false := ⟨by have := h.2.1; omega, h.2.2.1 0 (by omega)⟩
theorem gets_one {T : Nat → Bool} {n f : Nat} (h : FR.Low T n 1 f) : FR.Gets T n 1 f 0 (FR.st T f 1 true) := .inr (.inr ⟨rfl, 1, rfl, ⟨0, by omega, rfl⟩, h, rfl⟩)
theorem gets_none {T : Nat → Bool} {n : Nat} (h : FR.NoLow T n 1) : FR.Gets T n 1 0 24 T := .inr (.inl ⟨rfl, rfl, rfl, 1, rfl, ⟨0, by omega, rfl⟩, h⟩)
theorem Takes.upto {T : Nat → Bool} {n : Nat} {fs : List Nat} (h : Takes T n fs) (k : Nat) : Takes T n (fs.take k) := by
  intro j hj
  rw [List.length_take] at hj
  rw [List.getElem_take, List.take_take, Nat.min_eq_left (by omega)]
  exact h j (by omega)
theorem Takes.snoc {T : Nat → Bool} {n f : Nat} {fs : List Nat} (h : Takes T n fs) (hf : FR.Low (takeAll T fs) n 1 f) : Takes T n (fs ++ [f]) := by
  intro j hj
  rw [List.length_append, List.length_singleton] at hj
  by_cases e : j < fs.length
  · rw [List.getElem_append_left e, List.take_append_of_le_length (by omega)]
    exact h j e
  · obtain rfl : j = fs.length := by omega
    simpa using hf
theorem Takes.free {T : Nat → Bool} {n : Nat} {fs : List Nat} (h : Takes T n fs) : ∀ f ∈ fs, f < n ∧ T f = false := by
  intro f hf
  obtain ⟨j, hj, rfl⟩ := List.getElem_of_mem hf
  obtain ⟨h1, h2⟩ := low_one (h j hj)
  refine ⟨h1, ?_⟩
  unfold takeAll at h2
  by_cases e : fs[j] ∈ fs.take j
  · rw [if_pos e] at h2; cases h2
  · rw [if_neg e] at h2; exact h2
theorem Takes.nodup {T : Nat → Bool} {n : Nat} {fs : List Nat} (h : Takes T n fs) : fs.Nodup := by
  rw [List.nodup_iff_pairwise_ne, List.pairwise_iff_getElem]
  intro i j hi hj hij e
  have h2 := (low_one (h j hj)).2
  unfold takeAll at h2
  rw [if_pos (by rw [← e]; exact List.mem_take_iff_getElem.2 ⟨i, by omega, rfl⟩)] at h2
  cases h2
theorem take_free (T : Nat → Bool) (n : Nat) (fs : List Nat) (h : Takes T n fs) : freeAll (takeAll T fs) fs = T := by
  funext x
  unfold freeAll takeAll
  by_cases e : x ∈ fs
  · rw [if_pos e, (h.free x e).2]
  · rw [if_neg e, if_neg e]
theorem takes_or (T : Nat → Bool) (n : Nat) : ∀ k, (∃ fs, fs.length = k ∧ Takes T n fs) ∨ ∃ fs, fs.length < k ∧ Takes T n fs ∧ FR.NoLow (takeAll T fs) n 1
  | 0 => .inl ⟨[], rfl, fun j hj => by simp at hj⟩
  | k + 1 => by
    rcases takes_or T n k with ⟨fs, hl, h⟩ | ⟨fs, hl, h, hn⟩
    · rcases FR.low_or (takeAll T fs) n 1 with ⟨f, hf⟩ | hno
      · exact .inl ⟨fs ++ [f], by simp [hl], h.snoc hf⟩
      · exact .inr ⟨fs, by omega, h, hno⟩
    · exact .inr ⟨fs, by omega, h, hn⟩

def slen : Value → Nat
  | .slice _ n _ => n
  | _ => 0
theorem own_lt {w : World} {base e size n : Nat} {v : Value} {xs : List Value} (h : w.ownsRow base e size v n xs) (x : Nat) (hx : v.ownBlock = some x) : x < w.heap.size := by
  rcases h.2 with ⟨rfl, _⟩ | ⟨g, cap, cur, rfl, _, hg, _⟩
  · cases hx
  · obtain rfl : g = x := by simpa [Value.ownBlock] using hx
    rcases Nat.lt_or_ge g w.heap.size with hlt | hge
    · exact hlt
    · rw [Array.getElem?_eq_none hge] at hg; cases hg
theorem own_apart {v1 v2 : Value} (h : ∀ x, v1.ownBlock = some x → v2.ownBlock ≠ some x) : v2.ownBlock = none ∨ v2.ownBlock ≠ v1.ownBlock := by
  cases h2 : v2.ownBlock with
  | none => exact .inl rfl
  | some y => exact .inr fun e => h y e.symm h2
theorem own_apart' {v1 v2 : Value} (h : ∀ x, v1.ownBlock = some x → v2.ownBlock ≠ some x) : v1.ownBlock = none ∨ v1.ownBlock ≠ v2.ownBlock := by
  cases h2 : v1.ownBlock with
  | none => exact .inl rfl
  | some y => exact .inr fun e => h y h2 e.symm
theorem zero_cells : Tryz.zeroCells156.toList.length = 512 := by kernel_rfl

theorem look_none {w : World} {b f : Nat} {M : Nat → Option (Nat → Nat)} (h : MB w b M) (hf : f < 65536) (hM : M f = none) :
    (Instr.lookup 124 (.map (some b)) (.int .u64 (f : Int)) true).run Tryz.prog w = .ok (.tuple #[.agg (tw zero).toArray, .bool false]) w := by
  have := h.look_ok f (by omega)
  rw [hM] at this
  exact this
theorem zero_len (ws : Nat → Nat) : Tryz.zeroCells156.toList.toArray.size = (tw ws).toArray.size := by
  rw [List.size_toArray, List.size_toArray, tw_len, zero_cells]
theorem blk_zero (w : World) : Blk (w.alloc (.cells Tryz.zeroCells156 156)) w.heap.size 156 Tryz.zeroCells156.toList := by
  show _ = _
  rw [Array.toArray_toList]
  exact heap_alloc_new w _
/-- Two rows that a call owns, apart from one another. -/
structure Pair (w : World) (B j1 : Nat) (v1 : Value) (f1 : List Nat) (j2 : Nat) (v2 : Value) (f2 : List Nat) : Prop where
  o1 : w.ownsRow B 36 1 v1 j1 (ucel f1)
  o2 : w.ownsRow B 36 1 v2 j2 (ucel f2)
  ne : ∀ x, v1.ownBlock = some x → v2.ownBlock ≠ some x
section
variable {w w2 w3 : World} {B j1 j2 : Nat} {v1 v2 v' : Value} {f1 f2 f' : List Nat}
theorem own_two {g b : Nat} {base e size n : Nat} {v : Value} {xs : List Value} (h : w.ownsRow base e size v n xs) (t : Two g b w w2) (hg : g < base) (hb : b < base) : w2.ownsRow base e size v n xs := by
  rcases h.2 with h0 | ⟨y, cap, cur, h1, h2, h3, h4⟩
  · exact ⟨h.1, .inl h0⟩
  · have hy : y < w.heap.size := own_lt h y (by rw [h1]; rfl)
    exact ⟨h.1, .inr ⟨y, cap, cur, h1, h2, (t.block y hy (by omega) (by omega)).trans h3, h4⟩⟩
theorem Pair.two {g b : Nat} (h : Pair w B j1 v1 f1 j2 v2 f2) (t : Two g b w w2) (hg : g < B) (hb : b < B) : Pair w2 B j1 v1 f1 j2 v2 f2 := ⟨own_two h.o1 t hg hb, own_two h.o2 t hg hb, h.ne⟩
theorem Pair.keep (h : Pair w B j1 v1 f1 j2 v2 f2) (hb : Below w.heap.size w w2) : Pair w2 B j1 v1 f1 j2 v2 f2 := ⟨Own.below h.o1 hb, Own.below h.o2 hb, h.ne⟩
theorem Pair.grow1 (h : Pair w B j1 v1 f1 j2 v2 f2) (hB : B ≤ w.heap.size) {o : Obj} (ho : w3.ownsRow B 36 1 v' (j1 + 1) (ucel f')) (hg : (w.alloc o).grownBy w3 v1.ownBlock) (hat : v'.ownBlock = v1.ownBlock ∨ v'.ownBlock = some (w.alloc o).heap.size) :
    Pair w3 B (j1 + 1) v' f' j2 v2 f2 ∧ Below B w w3 := by
  refine ⟨⟨ho, (h.o2.alloc o).kept hg (own_apart h.ne), fun x hx => ?_⟩, ((Below.refl B w).alloc hB o).grown hg (by simp; omega) (fun y hy => Own.ge h.o1 y hy)⟩
  rcases hat with e | e
  · exact h.ne x (by rw [← e]; exact hx)
  · intro e2
    have := own_lt h.o2 x e2
    rw [e] at hx
    simp at hx
    omega
theorem Pair.grow2 (h : Pair w B j1 v1 f1 j2 v2 f2) (hB : B ≤ w.heap.size) {o : Obj} (ho : w3.ownsRow B 36 1 v' (j2 + 1) (ucel f')) (hg : (w.alloc o).grownBy w3 v2.ownBlock) (hat : v'.ownBlock = v2.ownBlock ∨ v'.ownBlock = some (w.alloc o).heap.size) :
    Pair w3 B j1 v1 f1 (j2 + 1) v' f' ∧ Below B w w3 := by
  refine ⟨⟨(h.o1.alloc o).kept hg (own_apart' h.ne), ho, fun x hx e2 => ?_⟩, ((Below.refl B w).alloc hB o).grown hg (by simp; omega) (fun y hy => Own.ge h.o2 y hy)⟩
  rcases hat with e | e
  · exact h.ne x hx (by rw [← e]; exact e2)
  · have := own_lt h.o1 x hx
    rw [e] at e2
    simp at e2
    omega
end

theorem own_row {w : World} {B : Nat} {a : Option Addr} {c : Nat} {fs : List Nat} (h : w.ownsRow B 36 1 (.slice a fs.length c) fs.length (ucel fs)) (hne : 0 < fs.length) :
    ∃ x, a = some ⟨x, 0, none⟩ ∧ B ≤ x ∧ x < w.heap.size ∧ Row w x 0 fs := by
  have hlt := fun x => own_lt h x
  rcases h.2 with ⟨e, _⟩ | ⟨x, cap, cur, e, hB, hg, _, _, hcs, htake⟩
  · simp only [Value.slice.injEq] at e
    omega
  · simp only [Value.slice.injEq, true_and] at e
    obtain ⟨rfl, rfl⟩ := e
    refine ⟨x, rfl, hB, hlt x rfl, fun j hj => ?_⟩
    rw [Nat.zero_add, cell_of_row w x j _ _ _ hg]
    have h1 := ucel_get fs j hj
    rw [← htake, List.getElem?_take_of_lt (by omega)] at h1
    simpa using h1

theorem give_own (g pg pb n m r b B c : Nat) (a : Option Addr) (T : Nat → Bool) (M : Nat → Option (Nat → Nat)) (fs : List Nat) (w : World) (h : TT w g pg pb n m T r b M) (ho : w.ownsRow B 36 1 (.slice a fs.length c) fs.length (ucel fs))
    (h1 : pg < B) (h2 : pb < B) (hl : fs.length ≤ 65536) (hT : ∀ f ∈ fs, f < n ∧ T f = true) (hnd : fs.Nodup) :
    Calls Tryz.prog 87 #[.pointer (some ⟨g, 0, none⟩), .slice a fs.length c] w fun e w' => e = .returned (.tuple #[]) ∧ PL w' pg pb n m (freeAll T fs) ∧ Two pg pb w w' := by
  rcases Nat.eq_zero_or_pos fs.length with e | hp
  · have e2 : fs = [] := List.length_eq_zero_iff.1 e
    subst e2
    refine (give_nil g a c w).mono ?_
    rintro e w' ⟨rfl, rfl⟩
    exact ⟨rfl, by rw [free_nil]; exact h.pl, Two.refl _ _ _⟩
  · obtain ⟨x, rfl, hB, hx, hr⟩ := own_row ho hp
    exact give_any g pg pb n m r b x 0 c T M fs w h hr hl hx (by omega) (by omega) hT hnd

set_option maxRecDepth 100000 in
set_option maxHeartbeats 4000000 in
theorem take_any (g pg pb n m r b k : Nat) (T : Nat → Bool) (M : Nat → Option (Nat → Nat)) (fs : List Nat) (w : World) (h : TT w g pg pb n m T r b M) (hk : fs.length = k ∨ fs.length < k ∧ FR.NoLow (takeAll T fs) n 1) (hk3 : k ≤ 1000) (hT : Takes T n fs) (hM : ∀ f ∈ fs, M f = none) :
    Calls Tryz.prog 168 #[.pointer (some ⟨g, 0, none⟩), .int .i64 (k : Int)] w fun e w' =>
      (fs.length = k ∧ ∃ ao cap, e = .returned (.slice ao k cap) ∧ w'.ownsRow w.heap.size 36 1 (.slice ao k cap) k (ucel fs) ∧ PL w' pg pb n m (takeAll T fs) ∧ Two pg pb w w') ∨
      (fs.length < k ∧ e = .panicked (fault 24) ∧ PL w' pg pb n m T ∧ Two pg pb w w') := by
  obtain ⟨i0, hi, hz0, hz1, hz2⟩ := info_parts info_u64
  have H := W_hid h
  have hn2 := h.pl.n2
  have hfk : fs.length ≤ k := by rcases hk with h | h <;> omega
  replace hk := W_hid hk
  have hblk := h.tm.box.lt
  have hpl := W_hid h.pl.lts
  clear h
  go_enter Tryz.func168, Tryz.ntmps168
  go_wp2_with fail
  go_loopw [5, 6] (fun v1 v2 wr => ∃ j : Nat, j ≤ fs.length ∧ slen v2 = j ∧ Pair wr w.heap.size j v1 (fs.take j) j v2 (fs.take j) ∧ PL wr pg pb n m (takeAll T (fs.take j)) ∧ Two pg pb w wr) (fun _ v2 _ => k - slen v2)
  case atStart => exact ⟨0, by omega, rfl, ⟨World.ownsRow_nil _ _ _ _, World.ownsRow_nil _ _ _ _, fun x hx => by cases hx⟩, by rw [List.take_zero, take_nil]; exact H.out.pl, Two.refl _ _ _⟩
  case round =>
    obtain ⟨j, hj, hsl, hp, hP, t⟩ := hrel
    obtain ⟨a1, c1, rfl⟩ := Own.form hp.o1
    obtain ⟨a2, c2, rfl⟩ := Own.form hp.o2
    have hlen : (fs.take j).length = j := by rw [List.length_take]; omega
    clear hsl hlen
    have HT := W_hid (H.out.pool hP t)
    have HT0 := HT
    have c0 : wr.cell? ⟨g, 0, none⟩ = some (.pointer (some ⟨pg, 0, none⟩)) := HT.out.tm.box.cell rfl
    by_cases hlt : j < fs.length
    · have hj2 : j < fs.length := hlt
      have hjk : j < k := by omega
      have hlow := hT j hj2
      have hA := W_hid (fun w h => Alloc_any pg pb n m _ _ 1 fs[j] 0 w h (gets_one hlow))
      have hnext : Hid (FR.st (takeAll T (fs.take j)) fs[j] 1 true = takeAll T (fs.take (j + 1))) := by
        show _ = _
        rw [take_snoc', List.take_succ_eq_append_getElem hj2]
      have hf := W_hid (low_one hlow).1
      have hMf := W_hid (hM _ (List.getElem_mem hj2))
      have hcell : Hid (ucel (fs.take j) ++ [.int .u64 ((fs[j] : Nat) : Int)] = ucel (fs.take (j + 1))) := by
        show _ = _
        rw [List.take_succ_eq_append_getElem hj2, ucel_append]; rfl
      generalize hfe : fs[j] = f at *
      have hlt3 : (j : Int) < k := by omega
      replace hp := W_hid hp
      replace hP := W_hid hP
      replace t := W_hid t
      clear hfe hlow
      go_wp2_with fail
      refine (hA.out _ hP.out).mono ?_
      rintro e w2 ⟨rfl, hP2, t2⟩
      rw [hnext.out] at hP2
      have t' := W_hid (t.out.trans t2)
      have hp2 := hp.out.two t2 hpl.out.1 hpl.out.2
      have hP2' := W_hid hP2
      have own1 := W_hid hp2.o1
      replace hp2 := W_hid hp2
      clear hP2 t2
      go_wp2_with (first
        | (at_builtin; refine wpList_append_own_at _ rfl (.tmp 29) (.tmp 31) 84 rfl w.heap.size 36 i0 (.int .u64 0) 1 8 Tryz.underlying84 hi hz0 hz1 hz2 rfl (by decide) (.slice a1 j c1) j (ucel (fs.take j)) rfl (own1.out.alloc _) ⟨w2.heap.size, 0, none⟩ 1 1 [.int .u64 f] rfl rfl (cell_one_new _ _ _) (by intro u hu; simp at hu; subst hu; rfl) (by unfold maxLen; omega) (by omega) (by have := t'.out.size; simp; omega) ?_; intro v1' w3 hown1 hgrow1 _ hat1; obtain ⟨hp3, bel3⟩ := hp2.out.grow1 t'.out.size (by rw [← hcell.out]; exact hown1) hgrow1 hat1; have hpp3 := W_hid hp3; have hbb3 := W_hid bel3; have hpp3b := W_hid (Nat.le_trans t'.out.size bel3.size); have d2 : w3.cell? ⟨g, 2, none⟩ = some (.map (some b)) := ((H.out.tm.box.two t'.out H.out.g1 H.out.g2).below bel3 hblk).cell rfl; have hlk : (Instr.lookup 124 (.map (some b)) (.int .u64 (f : Int)) true).run Tryz.prog w3 = .ok (.tuple #[.agg (tw zero).toArray, .bool false]) w3 := look_none (((H.out.tm.mb.two t'.out H.out.b1 H.out.b2).heap (bel3.block b H.out.tm.mb.lt))) (by have := hf.out; omega) hMf.out; clear hown1 hgrow1 hat1 hp3 bel3 own1 hp2)
        | (refine wpList_store_b rfl 156 _ _ rfl w3.heap.size (tw zero) rfl rfl _ _ (blk_zero w3) (table_info _) (zero_len zero) (table_one _) ?_; intro w4 hX4 hb4 he4; have bel4 := hb4 _ _ (Nat.le_refl _) ((Below.refl w3.heap.size w3).alloc (Nat.le_refl _) _); have hpp4 := W_hid (hpp3.out.keep bel4); have hbb4 := W_hid (hbb3.out.trans (bel4.mono hpp3b.out)); have own2 := W_hid hpp4.out.o2; clear hX4 hb4 he4 bel4)
        | (at_builtin; refine wpList_append_own_at _ rfl (.tmp 44) (.tmp 46) 84 rfl w.heap.size 36 i0 (.int .u64 0) 1 8 Tryz.underlying84 hi hz0 hz1 hz2 rfl (by decide) (.slice a2 j c2) j (ucel (fs.take j)) rfl (own2.out.alloc _) ⟨w4.heap.size, 0, none⟩ 1 1 [.int .u64 f] rfl rfl (cell_one_new _ _ _) (by intro u hu; simp at hu; subst hu; rfl) (by unfold maxLen; omega) (by omega) (by have := t'.out.size; have := hbb4.out.size; simp; omega) ?_; intro v2' w5 hown2 hgrow2 _ hat2; obtain ⟨hp5, bel5⟩ := hpp4.out.grow2 (Nat.le_trans t'.out.size hbb4.out.size) (by rw [← hcell.out]; exact hown2) hgrow2 hat2; have hpp5 := W_hid hp5; have hbb5 := W_hid (hbb4.out.trans bel5); clear hown2 hgrow2 hat2 hp5 bel5 own2))
      have hs2 : slen v2' = j + 1 := by
        obtain ⟨a', c', e⟩ := Own.form hpp5.out.o2
        rw [e]; rfl
      exact ⟨⟨j + 1, by omega, hs2, hpp5.out, hP2'.out.below hbb5.out hpl.out.1 hpl.out.2, t'.out.low hbb5.out⟩, by rw [hs2]; show _ < k - j; omega⟩
    · obtain rfl : j = fs.length := by omega
      rw [List.take_length] at hp hP
      rcases hk.out with hk | ⟨hk, hno⟩
      · subst hk
        have hres := W_hid (show fs.length = fs.length ∧ ∃ ao cap, Ending.returned (.slice a2 fs.length c2) = .returned (.slice ao fs.length cap) ∧ wr.ownsRow w.heap.size 36 1 (.slice ao fs.length cap) fs.length (ucel fs) ∧ PL wr pg pb n m (takeAll T fs) ∧ Two pg pb w wr from ⟨rfl, a2, c2, rfl, hp.o2, hP, t⟩)
        clear hp hP t hT hM
        go_wp2
        go_ret
        exact hres.out.2
      · have hA := W_hid (fun w h => Alloc_any pg pb n m _ _ 1 0 24 w h (gets_none hno))
        have hlt3 : (fs.length : Int) < k := by omega
        have hfr := W_hid (take_free T n fs hT)
        have hfree := W_hid hT.free
        have hnd := W_hid hT.nodup
        replace hp := W_hid hp
        replace hP := W_hid hP
        replace t := W_hid t
        clear hno hT
        go_wp2_with fail
        refine (hA.out _ hP.out).mono ?_
        rintro e w2 ⟨rfl, hP2, t2⟩
        have t' := W_hid (t.out.trans t2)
        have HT2 := W_hid (HT0.out.pool hP2 t2)
        have hp2 := W_hid (hp.out.two t2 hpl.out.1 hpl.out.2)
        clear hP2 t2
        have hgive := W_hid (give_own g pg pb n m r b w.heap.size c1 a1 _ M fs w2 HT2.out hp2.out.o1 hpl.out.1 hpl.out.2 (by omega) (fun f hf => ⟨(hfree.out f hf).1, by unfold takeAll; rw [if_pos hf]⟩) hnd.out)
        go_wp2_with fail
        refine hgive.out.mono ?_
        rintro e w3 ⟨rfl, hP3, t3⟩
        rw [hfr.out] at hP3
        have hres := W_hid (show PL w3 pg pb n m T ∧ Two pg pb w w3 from ⟨hP3, t'.out.trans t3⟩)
        clear hP3 t3
        go_wp2
        exact ⟨rfl, .inr ⟨hk, rfl, hres.out⟩⟩
end Go.Proofs.YtkomahekdcaiaaaGreatDoor

/- Page tables, on plain numbers: a way is lengthened by new tables. -/
namespace Go.Proofs.YtkomahekdcaiaaaGreatDoor
namespace RX
set_option linter.unusedVariables false

/-- New tables on the way to va, below level L. -/
def addT (F : Tabs) (va : Nat) : Nat → List Nat → Tabs
  | _, [] => F
  | L, f :: fs => addT (updF F (L - 1) (va / EN.sz (L - 1)) (some f)) va (L - 1) fs
def frT (fr : Nat → Nat) : Nat → List Nat → Nat → Nat
  | _, [] => fr
  | L, f :: fs => frT (fun k => if k = L - 1 then f else fr k) (L - 1) fs

/-- A way that ends at level L, where no word is. -/
structure Open (F : Tabs) (G : Pags) (va L : Nat) (fr : Nat → Nat) : Prop extends Way F va L fr where
  noF : F (L - 1) (va / EN.sz (L - 1)) = none
  noG : G L (va / EN.sz (L - 1)) = none

section
variable {F : Tabs} {G : Pags} {M : Nat → Option (Nat → Nat)} {r n : Nat}

theorem open_of {va lo L : Nat} {fr : Nat → Nat} (h : Desc F va lo L fr) (hp : pres F G L (va / EN.sz (L - 1)) = false) : Open F G va L fr := by
  unfold pres at hp
  simp only [Bool.or_eq_false_iff, Option.isSome_eq_false_iff, Option.isNone_iff_eq_none] at hp
  exact ⟨h.toWay, hp.1, hp.2⟩

theorem open_step (I : Inv F G r n) (R : Rep M F G) {va L f : Nat} {fr : Nat → Nat} (h : Open F G va L fr) (h2 : 2 ≤ L) (hfr : ∀ a b, F a b ≠ some f) (hf : f < n) :
    Inv (updF F (L - 1) (va / EN.sz (L - 1)) (some f)) G r n ∧
    Rep (upd (upd M (fr L) (some (wset ((M (fr L)).getD zero) (EN.idx va L) (EN.wd false 7 f)))) f (some zero)) (updF F (L - 1) (va / EN.sz (L - 1)) (some f)) G ∧
    Open (updF F (L - 1) (va / EN.sz (L - 1)) (some f)) G va (L - 1) (fun k => if k = L - 1 then f else fr k) := by
  have e1 := at_sz va L h.l1
  have hon := h.on L (Nat.le_refl _) h.l4
  have hi := EN.idx_lt va L
  have hn := h.noF
  have hg := h.noG
  have h4 := h.l4
  rw [← e1] at hn hg ⊢
  refine ⟨inv_table I hon h2 hi hn hg hfr hf, rep_table I R hon h2 hi hn hfr, ⟨by omega, by omega, fun k hk1 hk2 => ?_, fun k hk => ?_⟩, ?_, ?_⟩
  · by_cases e : k = L - 1
    · subst e
      rw [if_pos rfl, ← e1, updF_at]
    · rw [if_neg e, updF_ne (by omega)]
      exact h.on k (by omega) hk2
  · rw [if_neg (by omega)]
    exact h.off k (by omega)
  · rw [updF_ne (by omega)]
    cases hc : F (L - 1 - 1) (va / EN.sz (L - 1 - 1)) with
    | none => rfl
    | some y =>
      have h3 := I.lev hc
      obtain ⟨y', hy⟩ := I.up hc (by omega)
      rw [show L - 1 - 1 + 1 = L - 1 by omega, sz_down va (L - 1) (by omega), ← e1, hn] at hy
      cases hy
  · cases hc : G (L - 1) (va / EN.sz (L - 1 - 1)) with
    | none => rfl
    | some y =>
      obtain ⟨y', hy⟩ := I.way hc
      rw [sz_down va (L - 1) (by omega), ← e1, hn] at hy
      cases hy
end
end RX
end Go.Proofs.YtkomahekdcaiaaaGreatDoor

/- Contract of package radix's lengthen: the tables that a way lacks. -/
namespace Go.Proofs.YtkomahekdcaiaaaGreatDoor
open Go.ChangeShapes Go.WideShapes Go.ChangeAt Go.RowKit
set_option linter.unusedVariables false
set_option linter.unusedSimpArgs false

/-- All frames of tables are taken. -/
def Tk (F : RX.Tabs) (T : Nat → Bool) : Prop := ∀ l j f, F l j = some f → T f = true
theorem fresh_step {F : RX.Tabs} {l c f : Nat} {rest : List Nat} (h : ∀ f' ∈ f :: rest, ∀ a b, F a b ≠ some f') (hn : (f :: rest).Nodup) : ∀ f' ∈ rest, ∀ a b, RX.updF F l c (some f) a b ≠ some f' := by
  intro f' hf' a b e
  unfold RX.updF at e
  split at e
  · obtain rfl := Option.some.inj e
    exact (List.nodup_cons.1 hn).1 hf'
  · exact h f' (List.mem_cons_of_mem _ hf') a b e
theorem rep_none {F : RX.Tabs} {G : RX.Pags} {M : Nat → Option (Nat → Nat)} (R : RX.Rep M F G) {f : Nat} (h : ∀ a b, F a b ≠ some f) : M f = none := R.no h

theorem wl_put {va q f : Nat} {fr : Nat → Nat} {e : Bool × Bool × Int × Nat} {p : Bool} (hq : q ≤ 3) :
    ((wl va fr (q + 1) e p).set 6 (.int .i64 (q : Int))).set (1 + q) (.int .u64 (f : Int)) = wl va (fun k => if k = q then f else fr k) q e p := by
  have : q = 0 ∨ q = 1 ∨ q = 2 ∨ q = 3 := by omega
  rcases this with rfl | rfl | rfl | rfl <;> simp [wl]
/-- What stands behind j rounds. -/
structure LenAt (F : RX.Tabs) (G : RX.Pags) (va L : Nat) (fr : Nat → Nat) (fs : List Nat) (r n j : Nat) (F' : RX.Tabs) (M' : Nat → Option (Nat → Nat)) (fr' : Nat → Nat) : Prop where
  inv : RX.Inv F' G r n
  rep : RX.Rep M' F' G
  opn : RX.Open F' G va (L - j) fr'
  tab : RX.addT F' va (L - j) (fs.drop j) = RX.addT F va L fs
  frm : RX.frT fr' (L - j) (fs.drop j) = RX.frT fr L fs
  fresh : ∀ f ∈ fs.drop j, ∀ a b, F' a b ≠ some f

set_option maxRecDepth 100000 in
set_option maxHeartbeats 4000000 in
theorem lengthen_any (g pg pb n m r b va L lo : Nat) (E : Bool × Bool × Int × Nat) (p : Bool) (fr : Nat → Nat) (T : Nat → Bool) (M : Nat → Option (Nat → Nat)) (F : RX.Tabs) (G : RX.Pags) (fs : List Nat) (w : World) (h : TT w g pg pb n m T r b M)
    (I : RX.Inv F G r n) (R : RX.Rep M F G) (O : RX.Open F G va L fr) (hTk : Tk F T) (hva : va < 140737488355328) (hlo : 1 ≤ lo) (hlL : lo ≤ L) (hfs : fs.length = L - lo ∨ fs.length < L - lo ∧ FR.NoLow (takeAll T fs) n 1) (hT : Takes T n fs) :
    Calls Tryz.prog 161 #[.pointer (some ⟨g, 0, none⟩), .agg (wl va fr L E p).toArray, .int .i64 (lo : Int)] w fun e w' =>
      (fs.length = L - lo ∧ ∃ M', e = .returned (.agg (wl va (RX.frT fr L fs) lo E p).toArray) ∧ TT w' g pg pb n m (takeAll T fs) r b M' ∧ LenAt F G va L fr fs r n (L - lo) (RX.addT F va L fs) M' (RX.frT fr L fs) ∧ But [pg, pb, b] w w') ∨
      (fs.length < L - lo ∧ e = .panicked (fault 24) ∧ TT w' g pg pb n m T r b M ∧ But [pg, pb, b] w w') := by
  have hMn : ∀ f ∈ fs, ∀ a b, F a b ≠ some f := fun f hf a b e => by
    have h1 := hTk a b f e
    rw [(hT.free f hf).2] at h1
    cases h1
  have hl4 := O.l4
  have hTake := W_hid (fun w h => take_any g pg pb n m r b (L - lo) T M fs w h hfs (by omega) hT (fun f hf => rep_none R (hMn f hf)))
  have hS0 := W_hid (show LenAt F G va L fr fs r n 0 F M fr from ⟨I, R, O, rfl, rfl, hMn⟩)
  have hnd := W_hid hT.nodup
  have hfree := W_hid hT.free
  have hn2 := I.n2
  have H := W_hid h
  have q6 : (wl va fr L E p)[6]? = some (.int .i64 (L : Int)) := rfl
  have hgl := h.tm.box.lt
  have hkt := W_hid h.tm.kt.lt
  have hpl := h.pl.lts
  have hbl := h.tm.mb.lt
  obtain ⟨d, hd⟩ : ∃ d, d = L - lo := ⟨_, rfl⟩
  rw [← hd] at hTake hfs ⊢
  have ed : (L : Int) - lo = (d : Int) := by omega
  have hL4 := W_hid (show L - d = lo ∧ d + lo = L ∧ L ≤ 4 by omega)
  have hd9 : d ≤ 4 := by omega
  clear h hTk hMn R O I hT hfs hl4 hlL hd
  go_enter Tryz.func161, Tryz.ntmps161
  go_wp2_with fail
  refine (hTake.out _ (H.out.keep (((Below.refl _ _).alloc (Nat.le_refl _) _).alloc (by simp) _))).mono ?_
  have hx0 : Hid (Blk ((w.alloc (.cells (wl va fr L E p).toArray 133)).alloc (.cells wzero.toArray 133)) w.heap.size 133 (wl va fr L E p)) := W_hid (Blk.alloc (Blk.new w _ _ rfl) _)
  have hz0 : Hid (Blk ((w.alloc (.cells (wl va fr L E p).toArray 133)).alloc (.cells wzero.toArray 133)) (w.heap.size + 1) 133 wzero) := W_hid (Blk.new (w.alloc _) _ _ (by simp))
  have hb0 : Hid (But [pg, pb, b] w ((w.alloc (.cells (wl va fr L E p).toArray 133)).alloc (.cells wzero.toArray 133))) := W_hid (((But.refl _ w).alloc _).alloc _)
  have hH0 : Hid (TT ((w.alloc (.cells (wl va fr L E p).toArray 133)).alloc (.cells wzero.toArray 133)) g pg pb n m T r b M) := W_hid (H.out.keep (((Below.refl _ _).alloc (Nat.le_refl _) _).alloc (by simp) _))
  rintro e w1 (⟨hlen, ao, cap, rfl, hown, hP1, t1⟩ | ⟨hlen, rfl, hP1, t1⟩)
  · have hx1 := W_hid (hx0.out.two t1 (by omega) (by omega))
    have hz1 := W_hid (hz0.out.two t1 (by omega) (by omega))
    have HT1 := W_hid (hH0.out.pool hP1 t1)
    have hb1 := W_hid (hb0.out.trans (But.two t1 (by simp) (by simp)))
    have how1 := W_hid (own_base (base' := w.heap.size + 2) (by simp) hown)
    clear hx0 hz0 hb0 hH0 hP1 t1 hown
    clear hTake H q6
    go_wp2_with fail
    go_loopw [18] (fun i wr => ∃ (j : Nat) (F' : RX.Tabs) (M' : Nat → Option (Nat → Nat)) (fr' : Nat → Nat), j ≤ d ∧ i = .int .i64 (j : Int) ∧ Hid (LenAt F G va L fr fs r n j F' M' fr') ∧ Hid (Blk wr w.heap.size 133 (wl va fr' (L - j) E p)) ∧ Hid (Blk wr (w.heap.size + 1) 133 wzero) ∧ Hid (wr.ownsRow (w.heap.size + 2) 36 1 (.slice ao d cap) d (ucel fs)) ∧ Hid (TT wr g pg pb n m (takeAll T fs) r b M') ∧ Hid (But [pg, pb, b] w wr)) (fun i _ => d - (intOf i).toNat)
    case atStart => exact ⟨0, F, M, fr, by omega, rfl, hS0, hx1, hz1, how1, HT1, hb1⟩
    case round =>
      obtain ⟨j, F', M', fr', hj, rfl, hS, hX, hZ, hO, HT, hB⟩ := hrel
      clear hx1 hz1 how1 HT1 hb1 hS0
      by_cases hlt : j < d
      · have hjl : j < fs.length := by omega
        obtain ⟨l, hl⟩ : ∃ l, L - j = l := ⟨_, rfl⟩
        rw [hl] at hX
        have hl2 : 2 ≤ l ∧ l ≤ 4 := by have := hL4.out; omega
        have hdrop := List.drop_eq_getElem_cons hjl
        have hS' := hS.out
        have hfn := (hfree.out fs[j] (List.getElem_mem hjl)).1
        have hfresh : ∀ a b, F' a b ≠ some fs[j] := hS'.fresh _ (by rw [hdrop]; exact List.mem_cons_self)
        have hst := RX.open_step hS'.inv hS'.rep hS'.opn (f := fs[j]) (by omega) hfresh hfn
        have hnext := W_hid (show LenAt F G va L fr fs r n (j + 1) _ _ _ from ⟨hst.1, hst.2.1, by rw [show L - (j + 1) = L - j - 1 by omega]; exact hst.2.2,
          by have := hS'.tab; rw [hdrop] at this; rw [show L - (j + 1) = L - j - 1 by omega]; exact this,
          by have := hS'.frm; rw [hdrop] at this; rw [show L - (j + 1) = L - j - 1 by omega]; exact this,
          fresh_step (by rw [← hdrop]; exact hS'.fresh) (by rw [← hdrop]; exact (List.drop_sublist j fs).nodup hnd.out)⟩)
        rw [hl] at hnext
        obtain ⟨y, hao, hy1, hy2, hrow⟩ := own_row (fs := fs) (by rw [hlen]; exact hO.out) (by omega)
        subst hao
        have hcf : wr.cell? ⟨y, j, none⟩ = some (.int .u64 ((fs[j] : Nat) : Int)) := by have := hrow j hjl; rwa [Nat.zero_add] at this
        have hflt : fs[j] < 65536 := by omega
        have hEnc := W_hid (fun w hk => Encode_yes true false 7 fs[j] (l : Int) ⟨by omega, by omega, by omega, .inl ⟨rfl, by omega, rfl, rfl⟩⟩ w hk)
        have hfrl := W_hid (RX.Way.lt hS'.inv hS'.opn.toWay l)
        have hSet := W_hid (fun w h => setw_any g pg r b va l l (EN.wd false 7 fs[j]) fr' E p M' hva (by omega) (by omega) hfrl.out w h)
        have k6 : wr.cell? ⟨w.heap.size, 6, none⟩ = some (.int .i64 (l : Int)) := hX.out.cell rfl
        generalize hfe : fs[j] = f at *
        have hlt3 : (j : Int) < d := by omega
        clear hS' hst hfresh hdrop hrow hfe
        go_wp2_with fail
        refine (hEnc.out _ HT.out.tm.kt).mono ?_
        rintro e w2 ⟨rfl, bel2⟩
        have HT2 := W_hid (HT.out.keep bel2)
        have hX2 := W_hid (hX.out.keep bel2)
        have hZ2 := W_hid (hZ.out.keep bel2)
        have hO2 := W_hid (Own.below hO.out bel2)
        have hB2 := W_hid (hB.out.keep bel2)
        have k6' : w2.cell? ⟨w.heap.size, 6, none⟩ = some (.int .i64 (l : Int)) := hX2.out.cell rfl
        clear bel2 hX hZ hO HT hB k6 hcf hEnc
        go_wp2_with (refine wpList_load_row rfl 133 _ rfl w.heap.size rfl _ _ _ _ hX2.out Tryz.underlying133 rfl (wl_info _ _ _ _ _) ?_)
        refine (hSet.out _ HT2.out.tm).mono ?_
        rintro e w3 ⟨rfl, hM3, t3⟩
        obtain ⟨M1, hM1⟩ : ∃ M1, M1 = upd M' (fr' l) (some (wset ((M' (fr' l)).getD zero) (EN.idx va l) (EN.wd false 7 f))) := ⟨_, rfl⟩
        rw [← hM1] at hM3 hnext
        have HT3 := W_hid (HT2.out.map hM3 t3)
        have hX3 := W_hid (hX2.out.two t3 (by omega) (by omega))
        have hZ3 := W_hid (hZ2.out.two t3 (by omega) (by omega))
        have hO3 := W_hid (own_two hO2.out t3 (by omega) (by omega))
        have hB3 := W_hid (hB2.out.trans (But.two t3 (by simp) (by simp)))
        obtain ⟨q, hq⟩ : ∃ q, q = l - 1 := ⟨_, rfl⟩
        have eq1 : (l : Int) - 1 = (q : Int) := by omega
        have q5 : (q : Int) < 5 := by omega
        have k6 : w3.cell? ⟨w.heap.size, 6, none⟩ = some (.int .i64 (l : Int)) := hX3.out.cell rfl
        have kq : w3.cell? ⟨w.heap.size, 1 + q, none⟩ = some (.int .u64 ((fr' q : Nat) : Int)) := hX3.out.cell (wl_get (by omega))
        have k2 : w3.cell? ⟨g, 2, none⟩ = some (.map (some b)) := HT3.out.tm.box.cell rfl
        have fX := hX3.out.fz
        have hgx : ¬ g = w.heap.size := by omega
        have hxg : ¬ w.heap.size = g := by omega
        have hq2 := W_hid hq
        replace hM1 := W_hid hM1
        clear hX2 hZ2 hO2 HT2 hB2 k6' hSet hM3 t3 hq
        go_wp2_with (refine wpList_put_b rfl _ _ _ rfl b f zero M1 rfl rfl rfl ((HT3.out.tm.mb.far (by show b ≠ w.heap.size; omega) _).far (by show b ≠ w.heap.size; omega) _) hflt ?_; intro w4 hM4 hg4 _; have hM4' := W_hid hM4; have hg4' := W_hid hg4; clear hM4 hg4)
        have tX := (((Two.refl w.heap.size b w3).setCell (p := ⟨w.heap.size, 6, none⟩) (.inl rfl) (.int .i64 (q : Int))).setCell (p := ⟨w.heap.size, 1 + q, none⟩) (.inl rfl) (.int .u64 (f : Int))).trans (two_grown (Below.refl _ _) hg4'.out).wide
        have hX4 := ((hX3.out.set 6 (.int .i64 (q : Int))).set (1 + q) (.int .u64 (f : Int))).grown hg4'.out (fun e => by have := Option.some.inj e; omega)
        have el : l = q + 1 := by have := hq2.out; omega
        rw [el, wl_put (by omega)] at hX4
        have hk0 := HT3.out.tm.kt.lt
        have hk0' := hkt.out
        have HT4 := HT3.out.map2 hM4'.out tX (by omega) (by omega) (by omega) (by omega)
        have hB4 : But [pg, pb, b] w w4 := ((hB3.out.set (p := ⟨w.heap.size, 6, none⟩) (.inr (Nat.le_refl _)) _).set (p := ⟨w.heap.size, 1 + q, none⟩) (.inr (Nat.le_refl _)) _).trans (But.two (two_grown (Below.refl _ _) hg4'.out) (by simp) (by simp))
        have hZ4 := W_hid (hZ3.out.two tX (by omega) (by omega))
        have hO4 := W_hid (own_two hO3.out tX (by omega) (by omega))
        have hnx := hnext.out
        rw [hM1.out, ← hq2.out] at hnx
        rw [hM1.out] at HT4
        have hql : q = L - (j + 1) := by have := hq2.out; omega
        rw [hql] at hX4 hnx
        have hnx' := W_hid hnx
        have hX4' := W_hid hX4
        have HT4' := W_hid HT4
        have hB4' := W_hid hB4
        clear hnx hX4 HT4 hB4 hnext tX hk0 hk0' hX3 hZ3 hO3 HT3 hB3 hg4' hM4' k6 kq k2 fX
        go_roundw
        case rel => exact ⟨j + 1, _, _, _, by omega, by go_num, hnx', hX4', hZ4, hO4, HT4', hB4'⟩
        case measure => simp [intOf]; omega
      · obtain rfl : j = d := by omega
        have e0 : fs.drop j = [] := List.drop_eq_nil_of_le (by omega)
        have hS' := hS.out
        have hT1 := hS'.tab
        have hF1 := hS'.frm
        rw [e0] at hT1 hF1
        replace hT1 : F' = RX.addT F va L fs := hT1
        replace hF1 : fr' = RX.frT fr L fs := hF1
        subst hT1
        subst hF1
        rw [hL4.out.1] at hX
        have hX' := hX
        have hZ' := hZ
        have hS2 := W_hid hS'
        clear hS hS' e0 hX hZ
        go_wp2_with (first
          | (refine wpList_load_row rfl 133 _ rfl w.heap.size rfl _ _ _ _ hX'.out Tryz.underlying133 rfl (wl_info _ _ _ _ _) ?_)
          | (refine wpList_store_b rfl 133 _ _ rfl (w.heap.size + 1) (wl va (RX.frT fr L fs) lo E p) rfl rfl _ _ hZ'.out (wl_info _ _ _ _ _) rfl (wl_one _ _ _ _ _) ?_; intro w3 hZ3 hb3 he3; have bel3 : Below (w.heap.size + 1) wr w3 := hb3 _ _ (Nat.le_refl _) (Below.refl _ _); have he3' := he3; have hZ3' := W_hid hZ3; clear hZ3 hb3 he3))
        refine bodyPost_ret (res_way rfl _ _ rfl hZ3'.out rfl) rfl (.inl ⟨hlen, M', rfl, ?_, hS2.out, ?_⟩)
        · have tX : Two (w.heap.size + 1) b wr w3 := ⟨bel3.os, bel3.tape, bel3.output, bel3.size, fun k hk h1 h2 => by rw [he3'.out]; exact setRow_other _ _ _ _ h1⟩
          have hk0' := hkt.out
          exact HT.out.map2 (HT.out.tm.mb.heap (bel3.block b (by omega))) tX (by omega) (by omega) (by omega) (by omega)
        · exact hB.out.low (bel3.mono (by omega))
  · have HT1 := W_hid (hH0.out.pool hP1 t1)
    have hb1 := W_hid (hb0.out.trans (But.two t1 (by simp) (by simp)))
    clear hx0 hz0 hb0 hH0 hP1 t1
    go_wp2
    exact ⟨rfl, .inr ⟨hlen, rfl, HT1.out, hb1.out⟩⟩
end Go.Proofs.YtkomahekdcaiaaaGreatDoor

/- Contract of package radix's do: work on a tree that is there, and what a panic becomes. -/
namespace Go.Proofs.YtkomahekdcaiaaaGreatDoor
open Go.ChangeShapes Go.WideShapes Go.ChangeAt Go.RowKit
set_option linter.unusedVariables false
set_option linter.unusedSimpArgs false

set_option maxRecDepth 100000 in
theorem catch_panic (p : Addr) (x c : Int) (w : World) (hc : w.cell? p = some (.int .i64 x)) (hz : w.frozen? p = false) :
    CallsD Tryz.prog 123 #[.pointer (some p)] (.panicking (fault c)) w fun e u' w' =>
      e = .returned (.tuple #[]) ∧ u' = .panicking [{ v := .iface 29 (.int .i64 c), recovered := true }] ∧ w' = w.setCell p (.int .i64 c) := by
  unfold fault
  refine callsD_of_wpS Tryz.func123 rfl fun c₀ cs hu => ?_
  apply wpS_seq
  apply wpS_region
  simp [wpOpsS, go_sem, recoverD, hu, Tryz.ntmps123, Exit.thenS]
  refine wpS_of_wp ?_
  have hne : ∀ w, (binOp .neq 20 (.iface 29 (.int .i64 c)) .nilIface).run Tryz.prog w = .ok (.bool true) w := fun w => by simp [go_sem]
  have hta : ∀ w, (Instr.typeAssert (.iface 29 (.int .i64 c)) 20 29 false).run Tryz.prog w = .ok (.int .i64 c) w := fun w => by kernel_rfl
  change Code.wp _ _ _ { tmps := #[.pointer (some p), .iface 29 (.int .i64 c), .iface 29 (.int .i64 c), undef, undef, undef, undef], defers := [] } w
  go_wp2
  simp [bodyPostS, results, Tryz.results123]

set_option maxRecDepth 100000 in
theorem catch_none (p : Addr) (w : World) :
    CallsD Tryz.prog 123 #[.pointer (some p)] .returning w fun e u' w' => e = .returned (.tuple #[]) ∧ u' = .returning ∧ w' = w := by
  refine callsD_of_wpS Tryz.func123 rfl fun c₀ cs hu => ?_
  apply wpS_seq
  apply wpS_region
  simp [wpOpsS, go_sem, recoverD, hu, Tryz.ntmps123, Exit.thenS]
  refine wpS_of_wp ?_
  have hne : ∀ w, (binOp .neq 20 .nilIface .nilIface).run Tryz.prog w = .ok (.bool false) w := fun w => by simp [go_sem]
  change Code.wp _ _ _ { tmps := #[.pointer (some p), .nilIface, .nilIface, undef, undef, undef, undef], defers := [] } w
  go_wp2
  cases c₀
  simp_all [bodyPostS, results, Tryz.results123]

theorem fault_inj {c c' : Int} (h : Ending.panicked (fault c) = .panicked (fault c')) : c = c' := by
  simpa [fault] using h
/-- What do's frame leaves: the answer lies in a cell of its own. -/
def Done (A : Ending → World → Prop) (y : Nat) (e : Ending) (w' : World) : Prop :=
  ∃ w1, (A (.returned (.tuple #[])) w1 ∧ e = .returned (.int .i64 0) ∧ w' = w1.setCell ⟨y, 0, none⟩ (.int .i64 0)) ∨ ∃ c, A (.panicked (fault c)) w1 ∧ e = .returned (.int .i64 c) ∧ w' = w1.setCell ⟨y, 0, none⟩ (.int .i64 c)

set_option maxRecDepth 100000 in
theorem do_nil (s : Bool) (f : Value) (w : World) : Calls Tryz.prog 79 #[.pointer none, .bool s, f] w fun e w' => e = .returned (.int .i64 1) ∧ Below w.heap.size w w' := by
  have hN := W_hid none_nilT
  go_enter_defers Tryz.func79, Tryz.ntmps79
  go_wp2_with fail
  refine (hN.out _).mono ?_
  rintro e w1 ⟨rfl, rfl⟩
  go_wp2
  simp [bodyPostD, Leaves, settle, results, Tryz.results79, go_sem]
  exact (Below.refl _ _).alloc (Nat.le_refl _) _

set_option maxRecDepth 100000 in
theorem do_arg (g pg r b : Nat) (M : Nat → Option (Nat → Nat)) (f : Value) (w : World) (h : TM w g pg r b M) : Calls Tryz.prog 79 #[.pointer (some ⟨g, 0, none⟩), .bool false, f] w fun e w' => e = .returned (.int .i64 2) ∧ Below w.heap.size w w' := by
  have hN := W_hid (none_tree g pg r b M)
  have H := W_hid h
  clear h
  go_enter_defers Tryz.func79, Tryz.ntmps79
  go_wp2_with fail
  refine (hN.out _ (H.out.keep ((Below.refl _ _).alloc (Nat.le_refl _) _))).mono ?_
  rintro e w1 ⟨rfl, rfl⟩
  go_wp2
  simp [bodyPostD, Leaves, settle, results, Tryz.results79, go_sem]
  exact (Below.refl _ _).alloc (Nat.le_refl _) _

set_option maxRecDepth 100000 in
set_option maxHeartbeats 1000000 in
theorem do_yes (g pg r b f : Nat) (M : Nat → Option (Nat → Nat)) (caps : Array Value) (w : World) (h : TM w g pg r b M) (A : Ending → World → Prop)
    (hent : ∀ w, (callFunc f caps).run Tryz.prog w = .ok (.enter f caps) w)
    (hA : ∀ e w', A e w' → (e = .returned (.tuple #[]) ∨ ∃ c, e = .panicked (fault c)) ∧ Blk w' w.heap.size 29 [.int .i64 0])
    (hW : Calls Tryz.prog f caps (w.alloc (.cells #[.int .i64 0] 29)) A) :
    Calls Tryz.prog 79 #[.pointer (some ⟨g, 0, none⟩), .bool true, .func (.func f) #[] caps] w (Done A w.heap.size) := by
  have hN := W_hid (none_tree g pg r b M)
  have H := W_hid h
  have hmf : ∀ (fn : Fn) (first cap : Array Value) (w : World), (Instr.makeFunc fn first cap).run Tryz.prog w = .ok (.func fn first cap) w := fun _ _ _ _ => rfl
  replace hW := W_hid hW
  clear h
  go_enter_defers Tryz.func79, Tryz.ntmps79
  go_wp2_with fail
  refine (hN.out _ (H.out.keep ((Below.refl _ _).alloc (Nat.le_refl _) _))).mono ?_
  rintro e w1 ⟨rfl, rfl⟩
  go_wp2_with fail
  refine hW.out.mono ?_
  intro e w2 hE
  obtain ⟨rfl | ⟨c, rfl⟩, hB⟩ := hA _ _ hE
  · have c0 : w2.cell? ⟨w.heap.size, 0, none⟩ = some (.int .i64 0) := hB.cell rfl
    have f0 := hB.fz
    replace hE := W_hid hE
    replace hB := W_hid hB
    go_wp2
    refine leaves_cons (f := 123) (args := #[.pointer (some ⟨w.heap.size, 0, none⟩)]) (by simp) (by simp [go_sem]) ?_
    refine (catch_none ⟨w.heap.size, 0, none⟩ _).mono ?_
    rintro e u' w'' ⟨rfl, rfl, rfl⟩
    have hcell : (w2.setCell ⟨w.heap.size, 0, none⟩ (.int .i64 0)).cell? ⟨w.heap.size, 0, none⟩ = some (.int .i64 0) := (hB.out.set 0 (.int .i64 0)).cell rfl
    simp [Leaves, settle, results, Tryz.results79, go_sem, hcell]
    exact ⟨w2, .inl ⟨hE.out, rfl, rfl⟩⟩
  · have c0 : w2.cell? ⟨w.heap.size, 0, none⟩ = some (.int .i64 0) := hB.cell rfl
    have f0 := hB.fz
    have hcell : (w2.setCell ⟨w.heap.size, 0, none⟩ (.int .i64 c)).cell? ⟨w.heap.size, 0, none⟩ = some (.int .i64 c) := (hB.set 0 (.int .i64 c)).cell rfl
    replace hE := W_hid hE
    replace hB := W_hid hB
    show bodyPostD _ _ _ _ _ _
    refine leaves_cons (f := 123) (args := #[.pointer (some ⟨w.heap.size, 0, none⟩)]) (by simp) (by simp [go_sem]) ?_
    refine (catch_panic ⟨w.heap.size, 0, none⟩ 0 c _ c0 (f0 0)).mono ?_
    rintro e u' w'' ⟨rfl, rfl, rfl⟩
    simp [Leaves, settle, results, Tryz.results79, go_sem, hcell]
    exact ⟨w2, .inr ⟨c, hE.out, rfl, rfl⟩⟩
end Go.Proofs.YtkomahekdcaiaaaGreatDoor

/- Page tables, on plain numbers: the page that has an address is where the search ends. -/
namespace Go.Proofs.YtkomahekdcaiaaaGreatDoor
namespace RX
set_option linter.unusedVariables false

/-- The page that has an address: its level, frame, permissions. -/
def pg (G : Pags) (va : Nat) : Option (Nat × Nat × Int) :=
  match G 1 (va / EN.sz 0) with
  | some (f, p) => some (1, f, p)
  | none => match G 2 (va / EN.sz 1) with
    | some (f, p) => some (2, f, p)
    | none => none

section
variable {F : Tabs} {G : Pags} {r n : Nat}

theorem up_to (I : Inv F G r n) (va : Nat) : ∀ (d k f : Nat), F k (va / EN.sz k) = some f → k + d ≤ 4 → ∃ f', F (k + d) (va / EN.sz (k + d)) = some f'
  | 0, k, f, h, _ => ⟨f, h⟩
  | d + 1, k, f, h, hd => by
    obtain ⟨f', h'⟩ := I.up h (by omega)
    have e : va / EN.sz k / 512 = va / EN.sz (k + 1) := by rw [EN.sz_succ, Nat.div_div_eq_div_mul]
    rw [e] at h'
    have := up_to I va d (k + 1) f' h' (by omega)
    rwa [show k + 1 + d = k + (d + 1) by omega] at this

theorem desc_page (I : Inv F G r n) {va L : Nat} {fr : Nat → Nat} (h : Desc F va 1 L fr) :
    (pres F G L (va / EN.sz (L - 1)) = true ∧ ∃ f p, pg G va = some (L, f, p) ∧ L ≤ 2 ∧ G L (va / EN.sz (L - 1)) = some (f, p) ∧ F (L - 1) (va / EN.sz (L - 1)) = none ∧ ent F G L (va / EN.sz (L - 1)) = (false, decide (L = 2), p, f)) ∨
    (pres F G L (va / EN.sz (L - 1)) = false ∧ pg G va = none) := by
  have hl1 := h.l1
  have hl4 := h.l4
  have hF0 : F (L - 1) (va / EN.sz (L - 1)) = none := by
    rcases h.stop with e | e
    · cases hc : F (L - 1) (va / EN.sz (L - 1)) with
      | none => rfl
      | some y => have := I.lev hc; omega
    · exact e
  have key : ∀ {k : Nat} {x : Nat × Int}, 1 ≤ k → k ≤ 2 → G k (va / EN.sz (k - 1)) = some x → L = k := by
    intro k x k1 k2 hx
    obtain ⟨y, hy⟩ := I.way hx
    rw [sz_down va k k1] at hy
    rcases Nat.lt_trichotomy L k with hlt | rfl | hgt
    · obtain rfl : k = 2 := by omega
      obtain rfl : L = 1 := by omega
      have := I.apart hx
      rw [h.on 1 (Nat.le_refl _) (by omega)] at this
      cases this
    · rfl
    · obtain ⟨y', hy'⟩ := up_to I va (L - 1 - k) k y hy (by omega)
      rw [show k + (L - 1 - k) = L - 1 by omega, hF0] at hy'
      cases hy'
  cases hG : G L (va / EN.sz (L - 1)) with
  | some x =>
    obtain ⟨f, p⟩ := x
    have hp := I.page hG
    refine .inl ⟨by unfold pres; rw [hG]; simp, f, p, ?_, hp.2.1, rfl, hF0, by unfold ent; rw [hF0, hG]⟩
    have : L = 1 ∨ L = 2 := by omega
    rcases this with rfl | rfl
    · unfold pg; rw [show (1 : Nat) - 1 = 0 from rfl] at hG; rw [hG]
    · have h1 : G 1 (va / EN.sz 0) = none := by
        cases hc : G 1 (va / EN.sz 0) with
        | none => rfl
        | some z => have := key (k := 1) (by omega) (by omega) hc; omega
      unfold pg
      rw [h1]
      rw [show (2 : Nat) - 1 = 1 from rfl] at hG
      rw [hG]
  | none =>
    refine .inr ⟨by unfold pres; rw [hF0, hG]; rfl, ?_⟩
    have h1 : G 1 (va / EN.sz 0) = none := by
      cases hc : G 1 (va / EN.sz 0) with
      | none => rfl
      | some z =>
        have := key (k := 1) (by omega) (by omega) hc
        subst this
        rw [show (1 : Nat) - 1 = 0 from rfl, hc] at hG
        cases hG
    have h2 : G 2 (va / EN.sz 1) = none := by
      cases hc : G 2 (va / EN.sz 1) with
      | none => rfl
      | some z =>
        have := key (k := 2) (by omega) (by omega) hc
        subst this
        rw [show (2 : Nat) - 1 = 1 from rfl, hc] at hG
        cases hG
    unfold pg
    rw [h1, h2]
end
end RX
end Go.Proofs.YtkomahekdcaiaaaGreatDoor

/- Contracts of package radix's Walk. -/
namespace Go.Proofs.YtkomahekdcaiaaaGreatDoor
open Go.ChangeShapes Go.WideShapes Go.ChangeAt Go.RowKit
set_option linter.unusedVariables false
set_option linter.unusedSimpArgs false

/-- A tree with its tables and pages. -/
structure Full (w : World) (g pg pb n m : Nat) (T : Nat → Bool) (r b : Nat) (M : Nat → Option (Nat → Nat)) (F : RX.Tabs) (G : RX.Pags) : Prop where
  tt : TT w g pg pb n m T r b M
  inv : RX.Inv F G r n
  rep : RX.Rep M F G
  tk : Tk F T
theorem Full.keep {w w' : World} {g pg pb n m r b : Nat} {T : Nat → Bool} {M : Nat → Option (Nat → Nat)} {F : RX.Tabs} {G : RX.Pags} (h : Full w g pg pb n m T r b M F G) (hb : Below w.heap.size w w') : Full w' g pg pb n m T r b M F G := ⟨h.tt.keep hb, h.inv, h.rep, h.tk⟩

/-- What Walk says where its arguments are sound. -/
def walkC (G : RX.Pags) (va : Nat) (want : Int) : Int :=
  match RX.pg G va with
  | none => 26
  | some (_, _, p) => if bits BinOp.andNot IntKind.i64 want p != 0 then 27 else 0
def walkA (G : RX.Pags) (va : Nat) (want : Int) : Nat :=
  match RX.pg G va with
  | none => 0
  | some (k, f, p) => if bits BinOp.andNot IntKind.i64 want p != 0 then 0 else 4096 * f + va % EN.sz (k - 1)

def Walk1 (G : RX.Pags) (va : Nat) (want : Int) (w : World) (ba : Nat) (e : Ending) (w' : World) : Prop :=
  But [ba] w w' ∧ ((walkC G va want = 0 ∧ e = .returned (.tuple #[]) ∧ Blk w' ba 36 [.int .u64 ((walkA G va want : Nat) : Int)]) ∨ (walkC G va want ≠ 0 ∧ walkA G va want = 0 ∧ e = .panicked (fault (walkC G va want)) ∧ Blk w' ba 36 [.int .u64 0]))

set_option maxRecDepth 100000 in
set_option maxHeartbeats 2000000 in
theorem walk1_any (g pg pb n m r b va bt bv bw ba : Nat) (want : Int) (T : Nat → Bool) (M : Nat → Option (Nat → Nat)) (F : RX.Tabs) (G : RX.Pags) (w : World) (h : Full w g pg pb n m T r b M F G) (hva : va < 140737488355328)
    (h0 : Blk w bt 90 [.pointer (some ⟨g, 0, none⟩)]) (h1 : Blk w bv 36 [.int .u64 (va : Int)]) (h2 : Blk w bw 3 [.int .i64 want]) (h3 : Blk w ba 36 [.int .u64 0]) :
    Calls Tryz.prog 80 #[.pointer (some ⟨bt, 0, none⟩), .pointer (some ⟨bv, 0, none⟩), .pointer (some ⟨bw, 0, none⟩), .pointer (some ⟨ba, 0, none⟩)] w fun e w' => Walk1 G va want w ba e w' := by
  obtain ⟨L, fr, hd⟩ := RX.desc_some h.inv va 1 hva (by omega) (by omega)
  have c0 : w.cell? ⟨bt, 0, none⟩ = some (.pointer (some ⟨g, 0, none⟩)) := h0.cell rfl
  have c1 : w.cell? ⟨bv, 0, none⟩ = some (.int .u64 (va : Int)) := h1.cell rfl
  have H3 := W_hid h3
  have H1 := W_hid h1
  have H2 := W_hid h2
  have hlta := h3.lt
  rcases RX.desc_page h.inv hd with ⟨hp, f, p, hpg, hL2, hG, hF, hE⟩ | ⟨hp, hpg⟩
  · have hF := W_hid (fun w h' => find_yes g pg r b n va L 26 fr M F G h.inv h.rep hva hd hp w h')
    rw [hE] at hF
    have hPg := W_hid (fun w => page_any va L fr (false, decide (L = 2), p, f) true hva hd.l1 hd.l4 w)
    have H := W_hid h
    have hpp := h.inv.page hG
    clear h h0 h1 h2 h3 hE hd
    go_enter Tryz.func80, Tryz.ntmps80
    go_wp2_with fail
    refine (hF.out _ H.out.tt.tm).mono ?_
    rintro e w2 ⟨rfl, bel2⟩
    go_wp2_with fail
    refine (hPg.out _).mono ?_
    rintro e w3 ⟨rfl, bel3⟩
    have bel3' := W_hid (bel2.trans (bel3.mono bel2.size))
    have k1 : w3.cell? ⟨bv, 0, none⟩ = some (.int .u64 (va : Int)) := (H1.out.keep bel3'.out).cell rfl
    have k2 : w3.cell? ⟨bw, 0, none⟩ = some (.int .i64 want) := (H2.out.keep bel3'.out).cell rfl
    have B3 := H3.out.keep bel3'.out
    have k3 : w3.cell? ⟨ba, 0, none⟩ = some (.int .u64 0) := B3.cell rfl
    have f3 := B3.fz
    have hB3 := W_hid B3
    have x1 : ¬ bv = w3.heap.size := Nat.ne_of_lt (H1.out.keep bel3'.out).lt
    have x2 : ¬ bw = w3.heap.size := Nat.ne_of_lt (H2.out.keep bel3'.out).lt
    have x3 : ¬ ba = w3.heap.size := Nat.ne_of_lt B3.lt
    have y3 : ¬ w3.heap.size = ba := Ne.symm x3
    have l1 : ∀ o, (w3.alloc o).cell? ⟨bv, 0, none⟩ = some (.int .u64 (va : Int)) := fun o => ((H1.out.keep bel3'.out).alloc o).cell rfl
    have l2 : ∀ o, (w3.alloc o).cell? ⟨bw, 0, none⟩ = some (.int .i64 want) := fun o => ((H2.out.keep bel3'.out).alloc o).cell rfl
    have l3 : ∀ o, (w3.alloc o).cell? ⟨ba, 0, none⟩ = some (.int .u64 0) := fun o => (B3.alloc o).cell rfl
    have l4 : ∀ o i, (w3.alloc o).frozen? ⟨ba, i, none⟩ = false := fun o i => (B3.alloc o).fz i
    have hf36 : f < 68719476736 := hpp.2.2.1.2.2.1
    have hsz := EN.sz_pos (L - 1)
    have hmod := Nat.mod_le va (EN.sz (L - 1))
    have hmod2 := Nat.mod_lt va hsz
    have hms := EN.sz_le (L - 1) (by omega)
    clear bel2 bel3 B3
    cases ht : (bits BinOp.andNot IntKind.i64 want p != 0) with
    | true =>
      have hC : Hid (walkC G va want = 27 ∧ walkA G va want = 0) := W_hid (by unfold walkC walkA; rw [hpg]; simp only [ht]; exact ⟨rfl, rfl⟩)
      clear hpg
      go_wp2
      exact ⟨rfl, (But.of bel3'.out).alloc _, .inr ⟨by rw [hC.out.1]; decide, hC.out.2, by rw [hC.out.1]; rfl, hB3.out.alloc _⟩⟩
    | false =>
      have hC : Hid (walkC G va want = 0 ∧ walkA G va want = 4096 * f + va % EN.sz (L - 1)) := W_hid (by unfold walkC walkA; rw [hpg]; simp only [ht]; exact ⟨rfl, rfl⟩)
      obtain ⟨q, hq⟩ : ∃ q, q = va - va % EN.sz (L - 1) := ⟨_, rfl⟩
      rw [← hq]
      have hv : Hid ((4096 : Int) * f + va - q = ((4096 * f + va % EN.sz (L - 1) : Nat) : Int)) := W_hid (by omega)
      have hq2 : q ≤ va := by omega
      clear hpg hq hmod hmod2 hsz hms
      go_wp2
      all_goals
        go_end0
        refine ⟨((But.of bel3'.out).alloc _).set (.inl (by simp)) _, .inl ⟨hC.out.1, rfl, ?_⟩⟩
        rw [hC.out.2, ← hv.out]
        exact (hB3.out.alloc _).set 0 _
  · have hF := W_hid (fun w h' => find_no g pg r b n va L 26 fr M F G h.inv h.rep hva hd hp w h')
    have H := W_hid h
    have hC : Hid (walkC G va want = 26 ∧ walkA G va want = 0) := W_hid (by unfold walkC walkA; rw [hpg]; exact ⟨rfl, rfl⟩)
    clear h h0 h1 h2 h3 hd hpg
    go_enter Tryz.func80, Tryz.ntmps80
    go_wp2_with fail
    refine (hF.out _ H.out.tt.tm).mono ?_
    rintro e w2 ⟨rfl, bel2⟩
    exact ⟨rfl, But.of bel2, .inr ⟨by rw [hC.out.1]; decide, hC.out.2, by rw [hC.out.1], H3.out.keep bel2⟩⟩

/-- Are Walk's arguments sound? -/
def walkOk (va : Nat) (want : Int) : Bool := decide (va < 140737488355328) && (bits BinOp.andNot IntKind.i64 want 7 == 0)

set_option maxRecDepth 100000 in
set_option maxHeartbeats 2000000 in
theorem Walk_yes (g pg pb n m r b va : Nat) (want : Int) (T : Nat → Bool) (M : Nat → Option (Nat → Nat)) (F : RX.Tabs) (G : RX.Pags) (w : World) (h : Full w g pg pb n m T r b M F G) (hok : walkOk va want = true) :
    Calls Tryz.prog 46 #[.pointer (some ⟨g, 0, none⟩), .int .u64 (va : Int), .int .i64 want] w fun e w' =>
      e = .returned (.tuple #[.int .u64 ((walkA G va want : Nat) : Int), .int .i64 (walkC G va want)]) ∧ Below w.heap.size w w' := by
  unfold walkOk at hok
  rw [Bool.and_eq_true, decide_eq_true_eq] at hok
  obtain ⟨hva, d2⟩ := hok
  have d1 : decide ((va : Int) < 140737488355328) = true := by simp; omega
  have hmf : ∀ (fn : Fn) (first cap : Array Value) (w : World), (Instr.makeFunc fn first cap).run Tryz.prog w = .ok (.func fn first cap) w := fun _ _ _ _ => rfl
  have H := W_hid h
  clear h
  go_enter Tryz.func46, Tryz.ntmps46
  go_wp2_with fail
  refine calls_world (fun W => Full W g pg pb n m T r b M F G ∧ Blk W w.heap.size 90 [.pointer (some ⟨g, 0, none⟩)] ∧ Blk W (w.heap.size + 1) 36 [.int .u64 (va : Int)] ∧ Blk W (w.heap.size + 1 + 1) 3 [.int .i64 want] ∧ Blk W (w.heap.size + 1 + 1 + 1) 36 [.int .u64 0] ∧ Below w.heap.size w W)
    ⟨H.out.keep (((((Below.refl _ _).alloc (Nat.le_refl _) _).alloc (by simp) _).alloc (by simp; omega) _).alloc (by simp; omega) _), (((Blk.new w _ _ rfl).alloc _).alloc _).alloc _, ((Blk.new (w.alloc _) _ _ (by simp)).alloc _).alloc _, (Blk.new ((w.alloc _).alloc _) _ _ (by simp)).alloc _, Blk.new (((w.alloc _).alloc _).alloc _) _ _ (by simp),
      ((((Below.refl _ _).alloc (Nat.le_refl _) _).alloc (by simp) _).alloc (by simp; omega) _).alloc (by simp; omega) _⟩ ?_
  rintro W ⟨hF, b0, b1, b2, b3, bel⟩
  clear H
  have hlt := b3.lt
  have hW := W_hid (walk1_any g pg pb n m r b va w.heap.size (w.heap.size + 1) (w.heap.size + 1 + 1) (w.heap.size + 1 + 1 + 1) want T M F G (W.alloc (.cells #[.int .i64 0] 29)) (hF.keep ((Below.refl _ _).alloc (Nat.le_refl _) _)) hva (b0.alloc _) (b1.alloc _) (b2.alloc _) (b3.alloc _))
  have hy : ∀ w', But [w.heap.size + 1 + 1 + 1] (W.alloc (.cells #[.int .i64 0] 29)) w' → Blk w' W.heap.size 29 [.int .i64 0] := fun w' hB => (Blk.new W 29 [.int .i64 0] rfl).but hB (by simp; omega)
  refine (do_yes g pg r b 80 M _ W hF.tt.tm _ (fun w => by kernel_rfl) (fun e w' hE => ?_) hW.out).mono ?_
  · obtain ⟨hB, ⟨-, rfl, -⟩ | ⟨-, -, rfl, -⟩⟩ := hE
    · exact ⟨.inl rfl, hy _ hB⟩
    · exact ⟨.inr ⟨_, rfl⟩, hy _ hB⟩
  have hbB : ∀ w', But [w.heap.size + 1 + 1 + 1] (W.alloc (.cells #[.int .i64 0] 29)) w' → Below w.heap.size w w' := fun w' hB => (bel.alloc bel.size _).trans (hB.below (by simp; omega) (by simp; omega))
  replace hbB := W_hid hbB
  have hbs := W_hid bel.size
  clear b0 b1 b2 b3 bel hF hW hy
  rintro e w' ⟨w1, ⟨⟨hB, ⟨hC, -, hA⟩ | ⟨-, -, he, -⟩⟩, rfl, rfl⟩ | ⟨c, ⟨hB, ⟨-, he, -⟩ | ⟨hC, hC2, he, hA⟩⟩, rfl, rfl⟩⟩
  · have k0 : (w1.setCell ⟨W.heap.size, 0, none⟩ (.int .i64 0)).cell? ⟨w.heap.size + 1 + 1 + 1, 0, none⟩ = some (.int .u64 ((walkA G va want : Nat) : Int)) := (hA.far (by show _ ≠ W.heap.size; omega) _).cell rfl
    have hres := W_hid ((hbB.out _ hB).setCell (p := ⟨W.heap.size, 0, none⟩) hbs.out (.int .i64 0))
    replace hC := W_hid hC
    clear hA hB hbB
    go_wp2
    go_ret2
    exact ⟨by rw [hC.out]; rfl, hres.out⟩
  · cases he
  · cases he
  · obtain rfl := fault_inj he
    have k0 : (w1.setCell ⟨W.heap.size, 0, none⟩ (.int .i64 (walkC G va want))).cell? ⟨w.heap.size + 1 + 1 + 1, 0, none⟩ = some (.int .u64 0) := (hA.far (by show _ ≠ W.heap.size; omega) _).cell rfl
    have hres := W_hid ((hbB.out _ hB).setCell (p := ⟨W.heap.size, 0, none⟩) hbs.out (.int .i64 (walkC G va want)))
    replace hC2 := W_hid hC2
    clear hA hB hbB he hC
    go_wp2
    go_ret2
    exact ⟨by rw [hC2.out]; rfl, hres.out⟩

set_option maxRecDepth 100000 in
set_option maxHeartbeats 2000000 in
theorem Walk_arg (g pg r b va : Nat) (want : Int) (M : Nat → Option (Nat → Nat)) (w : World) (h : TM w g pg r b M) (hok : walkOk va want = false) :
    Calls Tryz.prog 46 #[.pointer (some ⟨g, 0, none⟩), .int .u64 (va : Int), .int .i64 want] w fun e w' => e = .returned (.tuple #[.int .u64 0, .int .i64 2]) ∧ Below w.heap.size w w' := by
  have hmf : ∀ (fn : Fn) (first cap : Array Value) (w : World), (Instr.makeFunc fn first cap).run Tryz.prog w = .ok (.func fn first cap) w := fun _ _ _ _ => rfl
  have H := W_hid h
  have hD := W_hid (fun f w h => do_arg g pg r b M f w h)
  clear h
  unfold walkOk at hok
  by_cases hva : va < 140737488355328
  · have d1 : decide ((va : Int) < 140737488355328) = true := by simp; omega
    have d2 : (bits BinOp.andNot IntKind.i64 want 7 == 0) = false := by simpa [hva] using hok
    clear hok hva
    go_enter Tryz.func46, Tryz.ntmps46
    go_wp2_with fail
    refine (hD.out _ _ (H.out.keep (((((Below.refl _ _).alloc (Nat.le_refl _) _).alloc (by simp) _).alloc (by simp; omega) _).alloc (by simp; omega) _))).mono ?_
    rintro e w2 ⟨rfl, bel⟩
    have k0 : w2.cell? ⟨w.heap.size + 1 + 1 + 1, 0, none⟩ = some (.int .u64 0) := (Blk.keep (Blk.new (((w.alloc _).alloc _).alloc _) _ _ (by simp)) bel).cell rfl
    have hres := W_hid (((((Below.refl _ _).alloc (Nat.le_refl _) _).alloc (by simp) _).alloc (by simp; omega) _ |>.alloc (by simp; omega) _).trans (bel.mono (by simp; omega)))
    clear bel
    go_wp2
    go_ret2
    exact ⟨rfl, hres.out⟩
  · have d1 : decide ((va : Int) < 140737488355328) = false := by simp; omega
    clear hok hva
    go_enter Tryz.func46, Tryz.ntmps46
    go_wp2_with fail
    refine (hD.out _ _ (H.out.keep (((((Below.refl _ _).alloc (Nat.le_refl _) _).alloc (by simp) _).alloc (by simp; omega) _).alloc (by simp; omega) _))).mono ?_
    rintro e w2 ⟨rfl, bel⟩
    have k0 : w2.cell? ⟨w.heap.size + 1 + 1 + 1, 0, none⟩ = some (.int .u64 0) := (Blk.keep (Blk.new (((w.alloc _).alloc _).alloc _) _ _ (by simp)) bel).cell rfl
    have hres := W_hid (((((Below.refl _ _).alloc (Nat.le_refl _) _).alloc (by simp) _).alloc (by simp; omega) _ |>.alloc (by simp; omega) _).trans (bel.mono (by simp; omega)))
    clear bel
    go_wp2
    go_ret2
    exact ⟨rfl, hres.out⟩

set_option maxRecDepth 100000 in
set_option maxHeartbeats 2000000 in
theorem Walk_nil (va want : Int) (w : World) :
    Calls Tryz.prog 46 #[.pointer none, .int .u64 va, .int .i64 want] w fun e w' => e = .returned (.tuple #[.int .u64 0, .int .i64 1]) ∧ Below w.heap.size w w' := by
  have hmf : ∀ (fn : Fn) (first cap : Array Value) (w : World), (Instr.makeFunc fn first cap).run Tryz.prog w = .ok (.func fn first cap) w := fun _ _ _ _ => rfl
  have hD := W_hid (fun s f w => do_nil s f w)
  obtain ⟨t1, d1⟩ : ∃ t, decide (va < 140737488355328) = t := ⟨_, rfl⟩
  obtain ⟨t2, d2⟩ : ∃ t, (bits BinOp.andNot IntKind.i64 want 7 == 0) = t := ⟨_, rfl⟩
  cases t1 <;> cases t2 <;>
  · go_enter Tryz.func46, Tryz.ntmps46
    go_wp2_with fail
    refine (hD.out _ _ _).mono ?_
    rintro e w2 ⟨rfl, bel⟩
    have k0 : w2.cell? ⟨w.heap.size + 1 + 1 + 1, 0, none⟩ = some (.int .u64 0) := (Blk.keep (Blk.new (((w.alloc _).alloc _).alloc _) _ _ (by simp)) bel).cell rfl
    have hres := W_hid (((((Below.refl _ _).alloc (Nat.le_refl _) _).alloc (by simp) _).alloc (by simp; omega) _ |>.alloc (by simp; omega) _).trans (bel.mono (by simp; omega)))
    clear bel
    go_wp2
    go_ret2
    exact ⟨rfl, hres.out⟩
end Go.Proofs.YtkomahekdcaiaaaGreatDoor

/- Contract of the closure of package radix's Map. -/
namespace Go.Proofs.YtkomahekdcaiaaaGreatDoor
open Go.ChangeShapes Go.WideShapes Go.ChangeAt Go.RowKit
set_option linter.unusedVariables false
set_option linter.unusedSimpArgs false

theorem tk_add : ∀ (fs : List Nat) {F : RX.Tabs} {T : Nat → Bool} {va L : Nat}, Tk F T → Tk (RX.addT F va L fs) (takeAll T fs)
  | [], F, T, va, L, h => by rw [take_nil]; exact h
  | f :: fs, F, T, va, L, h => by
    have h1 : Tk (RX.updF F (L - 1) (va / EN.sz (L - 1)) (some f)) (takeAll T [f]) := fun a b y hy => by
      unfold takeAll
      by_cases e : y = f
      · rw [if_pos (by simp [e])]
      · rw [if_neg (by simp [e])]
        unfold RX.updF at hy
        split at hy
        · exact absurd (Option.some.inj hy).symm e
        · exact h a b y hy
    have h2 := tk_add fs (va := va) (L := L - 1) h1
    have e : takeAll (takeAll T [f]) fs = takeAll T (f :: fs) := by
      funext x
      unfold takeAll
      by_cases e1 : x ∈ fs <;> by_cases e2 : x = f <;> simp [e1, e2]
    rw [e] at h2
    exact h2

/-- How Map goes at the tables: mapped already, no frames, or done. -/
inductive MapR (F : RX.Tabs) (G : RX.Pags) (T : Nat → Bool) (n va l f : Nat) (p : Int) : Int → RX.Tabs → RX.Pags → (Nat → Bool) → Prop
  | busy (L : Nat) (fr : Nat → Nat) (hd : RX.Desc F va l L fr) (hp : RX.pres F G L (va / EN.sz (L - 1)) = true) : MapR F G T n va l f p 102 F G T
  | full (L : Nat) (fr : Nat → Nat) (hd : RX.Desc F va l L fr) (hp : RX.pres F G L (va / EN.sz (L - 1)) = false) (fs : List Nat) (hl : fs.length < L - l) (ht : Takes T n fs) (hn : FR.NoLow (takeAll T fs) n 1) : MapR F G T n va l f p 24 F G T
  | done (L : Nat) (fr : Nat → Nat) (hd : RX.Desc F va l L fr) (hp : RX.pres F G L (va / EN.sz (L - 1)) = false) (fs : List Nat) (hl : fs.length = L - l) (ht : Takes T n fs) :
      MapR F G T n va l f p 0 (RX.addT F va L fs) (RX.updG G l (va / EN.sz (l - 1)) (some (f, p))) (takeAll T fs)
theorem mapR_some {F : RX.Tabs} {G : RX.Pags} {r n : Nat} (I : RX.Inv F G r n) (T : Nat → Bool) (va l f : Nat) (p : Int) (hva : va < 140737488355328) (h1 : 1 ≤ l) (h4 : l ≤ 4) : ∃ c F' G' T', MapR F G T n va l f p c F' G' T' := by
  obtain ⟨L, fr, hd⟩ := RX.desc_some I va l hva h1 h4
  cases hp : RX.pres F G L (va / EN.sz (L - 1)) with
  | true => exact ⟨_, _, _, _, .busy L fr hd hp⟩
  | false =>
    rcases takes_or T n (L - l) with ⟨fs, hl, h⟩ | ⟨fs, hl, h, hn⟩
    · exact ⟨_, _, _, _, .done L fr hd hp fs hl h⟩
    · exact ⟨_, _, _, _, .full L fr hd hp fs hl h hn⟩

theorem map_done {F : RX.Tabs} {G : RX.Pags} {M : Nat → Option (Nat → Nat)} {r n va l f : Nat} {p : Int} {fr : Nat → Nat} (I : RX.Inv F G r n) (R : RX.Rep M F G) (O : RX.Open F G va l fr) (hl : 1 ≤ l ∧ l ≤ 2) (hr : EN.right false (decide (l = 2)) p f l) (hva : va < 140737488355328) :
    RX.Inv F (RX.updG G l (va / EN.sz (l - 1)) (some (f, p))) r n ∧ RX.Rep (upd M (fr l) (some (wset ((M (fr l)).getD zero) (EN.idx va l) (EN.wd (decide (l = 2)) p f)))) F (RX.updG G l (va / EN.sz (l - 1)) (some (f, p))) := by
  have hon := O.on l (Nat.le_refl _) (by omega)
  have hnF := O.noF
  have e1 := RX.at_sz va l hl.1
  have hmul := Nat.div_mul_le_self va (EN.sz (l - 1))
  refine ⟨RX.inv_page I hl hr (by omega) (by rw [RX.sz_down va l hl.1]; exact hon) (fun e => by subst e; exact hnF), ?_⟩
  have h := RX.rep_page I R hon (EN.idx_lt va l) (some (f, p))
  rw [e1] at h
  have hw : RX.word F (RX.updG G l (va / EN.sz (l - 1)) (some (f, p))) l (va / EN.sz (l - 1)) = EN.wd (decide (l = 2)) p f := by
    unfold RX.word
    rw [hnF, RX.updG_at]
  rw [hw] at h
  exact h

def Map1 (g pg pb n m r b : Nat) (c : Int) (F' : RX.Tabs) (G' : RX.Pags) (T' : Nat → Bool) (w : World) (e : Ending) (w' : World) : Prop :=
  But [pg, pb, b] w w' ∧ (∃ M', Full w' g pg pb n m T' r b M' F' G') ∧ ((c = 0 ∧ e = .returned (.tuple #[])) ∨ (c ≠ 0 ∧ e = .panicked (fault c)))

set_option maxRecDepth 100000 in
set_option maxHeartbeats 4000000 in
theorem map1_any (g pg pb n m r b va l f bt bm bl bv : Nat) (p c : Int) (T T' : Nat → Bool) (M : Nat → Option (Nat → Nat)) (F F' : RX.Tabs) (G G' : RX.Pags) (w : World) (h : Full w g pg pb n m T r b M F G) (hva : va < 140737488355328)
    (hl : 1 ≤ l ∧ l ≤ 2) (hr : EN.right false (decide (l = 2)) p f l) (hR : MapR F G T n va l f p c F' G' T')
    (h0 : Blk w bt 90 [.pointer (some ⟨g, 0, none⟩)]) (h1 : Blk w bm 59 [.int .u64 (va : Int), .int .u64 (f : Int), .int .i64 p, .bool (decide (l = 2))]) (h2 : Blk w bl 3 [.int .i64 (l : Int)]) (h3 : Blk w bv 36 [.int .u64 ((EN.wd (decide (l = 2)) p f : Nat) : Int)])
    (ht : bt ≠ pg ∧ bt ≠ pb ∧ bt ≠ b) (hm : bm ≠ pg ∧ bm ≠ pb ∧ bm ≠ b) (hll : bl ≠ pg ∧ bl ≠ pb ∧ bl ≠ b) (hv : bv ≠ pg ∧ bv ≠ pb ∧ bv ≠ b) :
    Calls Tryz.prog 160 #[.pointer (some ⟨bt, 0, none⟩), .pointer (some ⟨bm, 0, none⟩), .pointer (some ⟨bl, 0, none⟩), .pointer (some ⟨bv, 0, none⟩)] w fun e w' => Map1 g pg pb n m r b c F' G' T' w e w' := by
  have hC : ∀ w', But [pg, pb, b] w w' → w'.cell? ⟨bt, 0, none⟩ = some (.pointer (some ⟨g, 0, none⟩)) ∧ w'.cell? ⟨bm, 0, none⟩ = some (.int .u64 (va : Int)) ∧ w'.cell? ⟨bl, 0, none⟩ = some (.int .i64 (l : Int)) ∧ w'.cell? ⟨bv, 0, none⟩ = some (.int .u64 ((EN.wd (decide (l = 2)) p f : Nat) : Int)) :=
    fun w' t => ⟨(h0.but t (by simp; omega)).cell rfl, (h1.but t (by simp; omega)).cell rfl, (h2.but t (by simp; omega)).cell rfl, (h3.but t (by simp; omega)).cell rfl⟩
  obtain ⟨V, hV⟩ : ∃ V, V = EN.wd (decide (l = 2)) p f := ⟨_, rfl⟩
  rw [← hV] at hC
  obtain ⟨c0, c1, c2, c3⟩ := hC w (But.refl _ _)
  have hCd := hC w.drew ⟨rfl, rfl, rfl, Nat.le_refl _, fun _ _ _ => rfl⟩
  have H := W_hid h
  have hD : ∀ w', w' = w.drew → Full w' g pg pb n m T r b M F G := fun w' e => by subst e; exact ⟨⟨⟨h.tt.tm.box, h.tt.tm.mb.heap rfl, h.tt.tm.kt⟩, ⟨h.tt.pl.box, h.tt.pl.row, h.tt.pl.ne, h.tt.pl.n1, h.tt.pl.n2, h.tt.pl.nm, h.tt.pl.m8, h.tt.pl.m2, h.tt.pl.pad⟩, h.tt.g1, h.tt.g2, h.tt.g3, h.tt.b1, h.tt.b2, h.tt.k0, h.tt.k1, h.tt.k2, h.tt.k3⟩, h.inv, h.rep, h.tk⟩
  have hDD := W_hid (hD _ rfl)
  replace hC := W_hid hC
  replace hV := W_hid hV
  clear h0 h1 h2 h3 hD
  cases hR with
  | busy L fr hd hp =>
    have hVac := W_hid (fun w h' => vacant_no g pg r b n va L l fr M F G h.inv h.rep hva hd hp w h')
    have hF0 := W_hid h
    clear h hd hp
    go_enter Tryz.func160, Tryz.ntmps160
    refine wp_region_held_drew (S := (fun w' => w'.cell? ⟨bt, 0, none⟩ = some (.pointer (some ⟨g, 0, none⟩)) ∧ w'.cell? ⟨bm, 0, none⟩ = some (.int .u64 (va : Int)) ∧ w'.cell? ⟨bl, 0, none⟩ = some (.int .i64 (l : Int)) ∧ w'.cell? ⟨bv, 0, none⟩ = some (.int .u64 (V : Int)))) (by kernel_rfl) hCd (fun hHeld => ?_)
    refine wpAnyH_take (i := 0) (v := .pointer (some ⟨g, 0, none⟩)) rfl (by kernel_rfl) (by kernel_rfl) (by kernel_rfl) (fun _ _ _ h => h) (Or.inl ⟨by rfl, fun w ⟨s1, s2, s3, s4⟩ => ?_⟩) hHeld ?_
    · go_simp
    simp only [Act.put, List.setIfInBounds_toArray, List.set_cons_zero, List.set_cons_succ]
    refine wpAnyH_take (i := 1) (v := .pointer (some ⟨g, 0, none⟩)) rfl (by kernel_rfl) (by kernel_rfl) (by kernel_rfl) (fun _ _ _ h => h) (Or.inl ⟨by rfl, fun w ⟨s1, s2, s3, s4⟩ => ?_⟩) hHeld ?_
    · go_simp
    simp only [Act.put, List.setIfInBounds_toArray, List.set_cons_zero, List.set_cons_succ]
    refine wpAnyH_take (i := 2) (v := .pointer (some ⟨g, 0, none⟩)) rfl (by kernel_rfl) (by kernel_rfl) (by kernel_rfl) (fun _ _ _ h => h) (Or.inl ⟨by rfl, fun w ⟨s1, s2, s3, s4⟩ => ?_⟩) hHeld ?_
    · go_simp
    simp only [Act.put, List.setIfInBounds_toArray, List.set_cons_zero, List.set_cons_succ]
    refine wpAnyH_take (i := 3) (v := .pointer (some ⟨bm, 0, none⟩)) rfl (by kernel_rfl) (by kernel_rfl) (by kernel_rfl) (fun _ _ _ h => h) (Or.inl ⟨by rfl, fun w ⟨s1, s2, s3, s4⟩ => ?_⟩) hHeld ?_
    · go_simp
    simp only [Act.put, List.setIfInBounds_toArray, List.set_cons_zero, List.set_cons_succ]
    refine wpAnyH_take (i := 4) (v := .int .u64 (va : Int)) rfl (by kernel_rfl) (by kernel_rfl) (by kernel_rfl) (fun _ _ _ h => h) (Or.inl ⟨by rfl, fun w ⟨s1, s2, s3, s4⟩ => ?_⟩) hHeld ?_
    · go_simp
    simp only [Act.put, List.setIfInBounds_toArray, List.set_cons_zero, List.set_cons_succ]
    refine wpAnyH_take (i := 5) (v := .int .i64 (l : Int)) rfl (by kernel_rfl) (by kernel_rfl) (by kernel_rfl) (fun _ _ _ h => h) (Or.inl ⟨by rfl, fun w ⟨s1, s2, s3, s4⟩ => ?_⟩) hHeld ?_
    · go_simp
    simp only [Act.put, List.setIfInBounds_toArray, List.set_cons_zero, List.set_cons_succ]
    refine wpAnyH_take (i := 7) (v := .int .i64 (l : Int)) rfl (by kernel_rfl) (by kernel_rfl) (by kernel_rfl) (fun _ _ _ h => h) (Or.inl ⟨by rfl, fun w ⟨s1, s2, s3, s4⟩ => ?_⟩) hHeld ?_
    · go_simp
    simp only [Act.put, List.setIfInBounds_toArray, List.set_cons_zero, List.set_cons_succ]
    refine wpAnyH_take (i := 9) (v := .int .i64 (l : Int)) rfl (by kernel_rfl) (by kernel_rfl) (by kernel_rfl) (fun _ _ _ h => h) (Or.inl ⟨by rfl, fun w ⟨s1, s2, s3, s4⟩ => ?_⟩) hHeld ?_
    · go_simp
    simp only [Act.put, List.setIfInBounds_toArray, List.set_cons_zero, List.set_cons_succ]
    refine wpAnyH_take (i := 10) (v := .int .u64 (V : Int)) rfl (by kernel_rfl) (by kernel_rfl) (by kernel_rfl) (fun _ _ _ h => h) (Or.inl ⟨by rfl, fun w ⟨s1, s2, s3, s4⟩ => ?_⟩) hHeld ?_
    · go_simp
    simp only [Act.put, List.setIfInBounds_toArray, List.set_cons_zero, List.set_cons_succ]
    refine wpAnyH_ready (rs := [6]) (by kernel_rfl) (by simp) ?_
    refine AllReadyH.cons rfl (fun K hK => ?_) AllReadyH.nil
    go_simp
    refine (hVac.out _ hDD.out.tt.tm).mono ?_
    rintro e w2 ⟨rfl, bel2⟩
    exact ⟨rfl, But.undrew (n := 1) (But.of bel2), ⟨M, hDD.out.keep bel2⟩, .inr ⟨by decide, rfl⟩⟩
  | full L fr hd hp fs hl2 hts hno =>
    have hVac := W_hid (fun w h' => vacant_yes g pg r b n va L l fr M F G h.inv h.rep hva hd hp w h')
    have hge := hd.ge
    have hLen := W_hid (fun w h' => (lengthen_any g pg pb n m r b va L l (RX.ent F G L (va / EN.sz (L - 1))) false fr T M F G fs w h' h.inv h.rep (RX.open_of hd hp) h.tk hva hl.1 hge (.inr ⟨hl2, hno⟩) hts).mono (fun e w' hh => hh.resolve_left (fun x => by have := x.1; omega)))
    have hF0 := W_hid h
    generalize RX.ent F G L (va / EN.sz (L - 1)) = E at *
    clear h hd hp hts hno
    go_enter Tryz.func160, Tryz.ntmps160
    refine wp_region_held_drew (S := (fun w' => w'.cell? ⟨bt, 0, none⟩ = some (.pointer (some ⟨g, 0, none⟩)) ∧ w'.cell? ⟨bm, 0, none⟩ = some (.int .u64 (va : Int)) ∧ w'.cell? ⟨bl, 0, none⟩ = some (.int .i64 (l : Int)) ∧ w'.cell? ⟨bv, 0, none⟩ = some (.int .u64 (V : Int)))) (by kernel_rfl) hCd (fun hHeld => ?_)
    refine wpAnyH_take (i := 0) (v := .pointer (some ⟨g, 0, none⟩)) rfl (by kernel_rfl) (by kernel_rfl) (by kernel_rfl) (fun _ _ _ h => h) (Or.inl ⟨by rfl, fun w ⟨s1, s2, s3, s4⟩ => ?_⟩) hHeld ?_
    · go_simp
    simp only [Act.put, List.setIfInBounds_toArray, List.set_cons_zero, List.set_cons_succ]
    refine wpAnyH_take (i := 1) (v := .pointer (some ⟨g, 0, none⟩)) rfl (by kernel_rfl) (by kernel_rfl) (by kernel_rfl) (fun _ _ _ h => h) (Or.inl ⟨by rfl, fun w ⟨s1, s2, s3, s4⟩ => ?_⟩) hHeld ?_
    · go_simp
    simp only [Act.put, List.setIfInBounds_toArray, List.set_cons_zero, List.set_cons_succ]
    refine wpAnyH_take (i := 2) (v := .pointer (some ⟨g, 0, none⟩)) rfl (by kernel_rfl) (by kernel_rfl) (by kernel_rfl) (fun _ _ _ h => h) (Or.inl ⟨by rfl, fun w ⟨s1, s2, s3, s4⟩ => ?_⟩) hHeld ?_
    · go_simp
    simp only [Act.put, List.setIfInBounds_toArray, List.set_cons_zero, List.set_cons_succ]
    refine wpAnyH_take (i := 3) (v := .pointer (some ⟨bm, 0, none⟩)) rfl (by kernel_rfl) (by kernel_rfl) (by kernel_rfl) (fun _ _ _ h => h) (Or.inl ⟨by rfl, fun w ⟨s1, s2, s3, s4⟩ => ?_⟩) hHeld ?_
    · go_simp
    simp only [Act.put, List.setIfInBounds_toArray, List.set_cons_zero, List.set_cons_succ]
    refine wpAnyH_take (i := 4) (v := .int .u64 (va : Int)) rfl (by kernel_rfl) (by kernel_rfl) (by kernel_rfl) (fun _ _ _ h => h) (Or.inl ⟨by rfl, fun w ⟨s1, s2, s3, s4⟩ => ?_⟩) hHeld ?_
    · go_simp
    simp only [Act.put, List.setIfInBounds_toArray, List.set_cons_zero, List.set_cons_succ]
    refine wpAnyH_take (i := 5) (v := .int .i64 (l : Int)) rfl (by kernel_rfl) (by kernel_rfl) (by kernel_rfl) (fun _ _ _ h => h) (Or.inl ⟨by rfl, fun w ⟨s1, s2, s3, s4⟩ => ?_⟩) hHeld ?_
    · go_simp
    simp only [Act.put, List.setIfInBounds_toArray, List.set_cons_zero, List.set_cons_succ]
    refine wpAnyH_take (i := 7) (v := .int .i64 (l : Int)) rfl (by kernel_rfl) (by kernel_rfl) (by kernel_rfl) (fun _ _ _ h => h) (Or.inl ⟨by rfl, fun w ⟨s1, s2, s3, s4⟩ => ?_⟩) hHeld ?_
    · go_simp
    simp only [Act.put, List.setIfInBounds_toArray, List.set_cons_zero, List.set_cons_succ]
    refine wpAnyH_take (i := 9) (v := .int .i64 (l : Int)) rfl (by kernel_rfl) (by kernel_rfl) (by kernel_rfl) (fun _ _ _ h => h) (Or.inl ⟨by rfl, fun w ⟨s1, s2, s3, s4⟩ => ?_⟩) hHeld ?_
    · go_simp
    simp only [Act.put, List.setIfInBounds_toArray, List.set_cons_zero, List.set_cons_succ]
    refine wpAnyH_take (i := 10) (v := .int .u64 (V : Int)) rfl (by kernel_rfl) (by kernel_rfl) (by kernel_rfl) (fun _ _ _ h => h) (Or.inl ⟨by rfl, fun w ⟨s1, s2, s3, s4⟩ => ?_⟩) hHeld ?_
    · go_simp
    simp only [Act.put, List.setIfInBounds_toArray, List.set_cons_zero, List.set_cons_succ]
    refine wpAnyH_ready (rs := [6]) (by kernel_rfl) (by simp) ?_
    refine AllReadyH.cons rfl (fun K hK => ?_) AllReadyH.nil
    go_simp
    refine (hVac.out _ hDD.out.tt.tm).mono ?_
    rintro e w2 ⟨rfl, bel2⟩
    have hB2 : But [pg, pb, b] w w2 := But.undrew (n := 1) (But.of bel2)
    have hS2 := hC.out _ hB2
    have hF2 := W_hid (hDD.out.keep bel2)
    refine hK.out _ _ hS2 (fun hHeld2 => ?_)
    clear hK K
    try simp only [Act.put, List.setIfInBounds_toArray, List.set_cons_zero, List.set_cons_succ]
    refine wpAnyH_ready (rs := [8]) (by kernel_rfl) (by simp) ?_
    refine AllReadyH.cons rfl (fun K hK => ?_) AllReadyH.nil
    go_simp
    refine (hLen.out _ hF2.out.tt).mono ?_
    rintro e w3 ⟨-, rfl, hT3, hB3⟩
    exact ⟨rfl, hB2.trans hB3, ⟨M, hT3, hF0.out.inv, hF0.out.rep, hF0.out.tk⟩, .inr ⟨by decide, rfl⟩⟩
  | done L fr hd hp fs hl2 hts =>
    have hVac := W_hid (fun w h' => vacant_yes g pg r b n va L l fr M F G h.inv h.rep hva hd hp w h')
    have hge := hd.ge
    have hLen := W_hid (fun w h' => (lengthen_any g pg pb n m r b va L l (RX.ent F G L (va / EN.sz (L - 1))) false fr T M F G fs w h' h.inv h.rep (RX.open_of hd hp) h.tk hva hl.1 hge (.inl hl2) hts).mono (fun e w' hh => hh.resolve_right (fun x => by have := x.1; omega)))
    have htk := W_hid (tk_add fs (va := va) (L := L) h.tk)
    generalize RX.ent F G L (va / EN.sz (L - 1)) = E at *
    clear h hd hp hts
    go_enter Tryz.func160, Tryz.ntmps160
    go_region_held3 (fun w' => w'.cell? ⟨bt, 0, none⟩ = some (.pointer (some ⟨g, 0, none⟩)) ∧ w'.cell? ⟨bm, 0, none⟩ = some (.int .u64 (va : Int)) ∧ w'.cell? ⟨bl, 0, none⟩ = some (.int .i64 (l : Int)) ∧ w'.cell? ⟨bv, 0, none⟩ = some (.int .u64 (V : Int)))
      (first | (with_reducible exact hCd) | (with_reducible exact hS2) | (with_reducible exact hS3) | (with_reducible exact hS4))
      (first
        | (go_at_call 162; refine (hVac.out _ hDD.out.tt.tm).mono ?_; rintro e w2 ⟨rfl, bel2⟩; have hB2 : But [pg, pb, b] w w2 := But.undrew (n := 1) (But.of bel2); have hS2 := hC.out _ hB2; have hF2 := W_hid (hDD.out.keep bel2); replace hB2 := W_hid hB2; clear bel2)
        | (go_at_call 161; refine (hLen.out _ hF2.out.tt).mono ?_; rintro e w3 ⟨-, M3, rfl, hT3, hL3, hB3⟩; have hS3 := hC.out _ (hB2.out.trans hB3); have hT3' := W_hid hT3; have hL3' := W_hid hL3; have hB3' := W_hid (hB2.out.trans hB3); clear hT3 hL3 hB3)
        | (go_at_call 107; refine (setw_any g pg r b va l l V (RX.frT fr L fs) E false M3 hva hl.1 (by omega) (RX.Way.lt hL3'.out.inv hL3'.out.opn.toWay l) _ hT3'.out.tm).mono ?_; rintro e w4 ⟨rfl, hM4, t4⟩; have hS4 := hC.out _ (hB3'.out.trans (But.two t4 (by simp) (by simp))); have hM4' := W_hid hM4; have t4' := W_hid t4; clear hM4 t4))
    have hL := hL3'.out
    have hopn := hL.opn
    rw [show L - (L - l) = l by omega] at hopn
    have hmd := map_done hL.inv hL.rep hopn hl hr hva
    rw [← hV.out] at hmd
    have hres := W_hid (show Map1 g pg pb n m r b 0 (RX.addT F va L fs) (RX.updG G l (va / EN.sz (l - 1)) (some (f, p))) (takeAll T fs) w (.returned (.tuple #[])) w4 from
      ⟨hB3'.out.trans (But.two t4'.out (by simp) (by simp)), ⟨_, ⟨hT3'.out.map hM4'.out t4'.out, hmd.1, hmd.2, htk.out⟩⟩, .inl ⟨rfl, rfl⟩⟩)
    go_end0
    exact hres.out
end Go.Proofs.YtkomahekdcaiaaaGreatDoor

/- Contract of package radix's Map. -/
namespace Go.Proofs.YtkomahekdcaiaaaGreatDoor
open Go.ChangeShapes Go.WideShapes Go.ChangeAt Go.RowKit
set_option linter.unusedVariables false
set_option linter.unusedSimpArgs false

theorem Full.far {w : World} {g pg pb n m r b y j : Nat} {T : Nat → Bool} {M : Nat → Option (Nat → Nat)} {F : RX.Tabs} {G : RX.Pags} (h : Full w g pg pb n m T r b M F G) (v : Value) (h1 : g ≠ y) (h2 : pg ≠ y) (h3 : pb ≠ y) (h4 : b ≠ y) (h5 : 0 ≠ y) : Full (w.setCell ⟨y, j, none⟩ v) g pg pb n m T r b M F G :=
  ⟨h.tt.map2 (h.tt.tm.mb.far (p := ⟨y, j, none⟩) h4 v) ((Two.refl y b w).setCell (p := ⟨y, j, none⟩) (.inl rfl) v) h1 h2 h3 h5, h.inv, h.rep, h.tk⟩
theorem Full.lts {w : World} {g pg pb n m r b : Nat} {T : Nat → Bool} {M : Nat → Option (Nat → Nat)} {F : RX.Tabs} {G : RX.Pags} (h : Full w g pg pb n m T r b M F G) : g < w.heap.size ∧ pg < w.heap.size ∧ pb < w.heap.size ∧ b < w.heap.size ∧ 0 < w.heap.size :=
  ⟨h.tt.tm.box.lt, h.tt.pl.lts.1, h.tt.pl.lts.2, h.tt.tm.mb.lt, h.tt.tm.kt.lt⟩
theorem Full.drewN {w : World} {g pg pb n m r b : Nat} {T : Nat → Bool} {M : Nat → Option (Nat → Nat)} {F : RX.Tabs} {G : RX.Pags} (h : Full w g pg pb n m T r b M F G) (k : Nat) : Full (w.drewN k) g pg pb n m T r b M F G := h.keep ⟨rfl, rfl, rfl, Nat.le_refl _, fun _ _ => rfl⟩
def lv (h : Bool) : Nat := if h then 2 else 1
theorem lv_two (h : Bool) : decide (lv h = 2) = h := by cases h <;> rfl
theorem lv_le (h : Bool) : 1 ≤ lv h ∧ lv h ≤ 2 := by cases h <;> decide

set_option maxRecDepth 100000 in
set_option maxHeartbeats 4000000 in
theorem Map_yes (g pg pb n m r b va f : Nat) (h : Bool) (p c : Int) (T T' : Nat → Bool) (M : Nat → Option (Nat → Nat)) (F F' : RX.Tabs) (G G' : RX.Pags) (w : World) (hF : Full w g pg pb n m T r b M F G) (hva : va < 140737488355328)
    (hr : EN.right false h p f (lv h : Nat)) (hal : va % EN.sz (lv h - 1) = 0) (hR : MapR F G T n va (lv h) f p c F' G' T') :
    Calls Tryz.prog 138 #[.pointer (some ⟨g, 0, none⟩), .agg #[.int .u64 (va : Int), .int .u64 (f : Int), .int .i64 p, .bool h]] w fun e w' =>
      e = .returned (.int .i64 c) ∧ (∃ M', Full w' g pg pb n m T' r b M' F' G') ∧ But [pg, pb, b] w w' := by
  have hmf : ∀ (fn : Fn) (first cap : Array Value) (w : World), (Instr.makeFunc fn first cap).run Tryz.prog w = .ok (.func fn first cap) w := fun _ _ _ _ => rfl
  have hf36 := hr.2.2.1
  have hE := W_hid (fun w hk => Encode_yes false h p f (lv h : Nat) hr w hk)
  have hlv := lv_le h
  have hSp := W_hid (fun (w : World) (t : Nat) => Calls.quiet_of_same ((span_any (lv h) (by omega) (by omega) (w.drewN t)).mono fun e w' ⟨he, hw⟩ => ⟨he, hw.symm⟩))
  have hDn := W_hid (fun (w : World) (t : Nat) => Calls.quiet_of_same ((down_yes va (EN.sz (lv h - 1)) (by omega) (sz_lt _ (by omega)) (sz_ones _ (by omega)) (w.drewN t)).mono fun e w' ⟨he, hw⟩ => ⟨he, hw.symm⟩))
  have hd0 : WM.down va (EN.sz (lv h - 1)) = va := WM.down_self _ _ hal
  rw [hd0] at hDn
  have d1 : decide ((va : Int) < 140737488355328) = true := by simp; omega
  have H := W_hid hF
  have hR' := W_hid hR
  have hr' := W_hid hr
  obtain ⟨V, hV⟩ : ∃ V, V = EN.wd h p f := ⟨_, rfl⟩
  rw [← hV] at hE
  replace hV := W_hid hV
  have hlts := W_hid (show pg < w.heap.size ∧ pb < w.heap.size ∧ b < w.heap.size from ⟨hF.tt.pl.lts.1, hF.tt.pl.lts.2, hF.tt.tm.mb.lt⟩)
  clear hF hR hr hd0 hal
  go_enter Tryz.func138, Tryz.ntmps138
  cases h with
  | true =>
    have hE2 : Hid (∀ w, KT w → Calls Tryz.prog 106 #[.agg #[.bool false, .bool true, .int .i64 p, .int .u64 (f : Int)], .int .i64 2] w fun e w' => e = .returned (.tuple #[.int .u64 (V : Int), .int .i64 0]) ∧ Below w.heap.size w w') := hE
    have hSp2 : Hid (∀ (w : World) (t : Nat), Calls Tryz.prog 120 #[.int .i64 2] (w.drewN t) fun e w' => e = .returned (.int .u64 ((EN.sz (2 - 1) : Nat) : Int)) ∧ ∃ m, w' = w.drewN m) := hSp
    have hDn2 : Hid (∀ (w : World) (t : Nat), Calls Tryz.prog 89 #[.int .u64 (va : Int), .int .u64 ((EN.sz (2 - 1) : Nat) : Int)] (w.drewN t) fun e w' => e = .returned (.tuple #[.int .u64 (va : Int), .int .i64 0]) ∧ ∃ m, w' = w.drewN m) := hDn
    obtain ⟨sz, hsz⟩ : ∃ sz, sz = EN.sz (2 - 1) := ⟨_, rfl⟩
    rw [← hsz] at hSp2 hDn2
    clear hE hSp hDn hlv hsz
    go_wp2_with fail
    refine calls_world (fun W => Full W g pg pb n m T r b M F G ∧ Blk W w.heap.size 90 [.pointer (some ⟨g, 0, none⟩)] ∧ Blk W (w.heap.size + 1) 59 [.int .u64 (va : Int), .int .u64 (f : Int), .int .i64 p, .bool true] ∧ Blk W (w.heap.size + 1 + 1) 3 [.int .i64 2] ∧ Below w.heap.size w W)
      ⟨H.out.keep ((((Below.refl _ _).alloc (Nat.le_refl _) _).alloc (by simp) _).alloc (by simp; omega) _), ((Blk.new w _ _ rfl).alloc _).alloc _, (Blk.new (w.alloc _) _ _ (by simp)).alloc _, Blk.new ((w.alloc _).alloc _) _ _ (by simp), (((Below.refl _ _).alloc (Nat.le_refl _) _).alloc (by simp) _).alloc (by simp; omega) _⟩ ?_
    rintro W ⟨hF, b0, b1, b2, bel⟩
    clear H
    refine (hE2.out _ hF.tt.tm.kt).mono ?_
    rintro e W1 ⟨rfl, bel1⟩
    have hF1 := W_hid (hF.keep bel1)
    have x0 := W_hid (b0.keep bel1)
    have x1 := W_hid (b1.keep bel1)
    have x2 := W_hid (b2.keep bel1)
    have bl1 := W_hid (bel.trans (bel1.mono bel.size))
    clear hF b0 b1 b2 bel bel1 hE2
    go_wp2_with fail
    refine wp_world (fun W => Full W g pg pb n m T r b M F G ∧ Blk W w.heap.size 90 [.pointer (some ⟨g, 0, none⟩)] ∧ Blk W (w.heap.size + 1) 59 [.int .u64 (va : Int), .int .u64 (f : Int), .int .i64 p, .bool true] ∧ Blk W (w.heap.size + 1 + 1) 3 [.int .i64 2] ∧ Blk W W1.heap.size 36 [.int .u64 (V : Int)] ∧ Below w.heap.size w W)
      ⟨hF1.out.keep ((Below.refl _ _).alloc (Nat.le_refl _) _), x0.out.alloc _, x1.out.alloc _, x2.out.alloc _, Blk.new W1 _ _ rfl, bl1.out.alloc bl1.out.size _⟩ ?_
    have hlt1 := W_hid x2.out.lt
    clear hF1 x0 x1 x2 bl1
    rintro W2 ⟨hF, b0, b1, b2, b3, bel⟩
    have k1 : W2.cell? ⟨w.heap.size + 1, 0, none⟩ = some (.int .u64 (va : Int)) := b1.cell rfl
    have k2 : W2.cell? ⟨w.heap.size + 1 + 1, 0, none⟩ = some (.int .i64 2) := b2.cell rfl
    have k0 : W2.cell? ⟨w.heap.size, 0, none⟩ = some (.pointer (some ⟨g, 0, none⟩)) := b0.cell rfl
    have hF2 := W_hid hF
    have x0 := W_hid b0
    have x1 := W_hid b1
    have x2 := W_hid b2
    have x3 := W_hid b3
    have bl2 := W_hid bel
    clear hF b0 b1 b2 b3 bel
    go_quiet (first | (go_at_call 120; exact hSp2.out _ _) | (go_at_call 89; exact hDn2.out _ _))
    go_wp2_with fail
    refine calls_world (fun W => Full W g pg pb n m T r b M F G ∧ Blk W w.heap.size 90 [.pointer (some ⟨g, 0, none⟩)] ∧ Blk W (w.heap.size + 1) 59 [.int .u64 (va : Int), .int .u64 (f : Int), .int .i64 p, .bool true] ∧ Blk W (w.heap.size + 1 + 1) 3 [.int .i64 2] ∧ Blk W W1.heap.size 36 [.int .u64 (V : Int)] ∧ Below w.heap.size w W)
      ⟨hF2.out.drewN nq, x0.out, x1.out, x2.out, x3.out, below_drewN bl2.out nq⟩ ?_
    clear hF2 x0 x1 x2 x3 bl2 k0 k1 k2 hSp2 hDn2
    rintro W3 ⟨hF, b0, b1, b2, b3, bel⟩
    have hpl := hlts.out
    have h1w := hlt1.out
    have hbs := bel.size
    have hV' := hV.out
    subst hV'
    have hW := W_hid (map1_any g pg pb n m r b va 2 f w.heap.size (w.heap.size + 1) (w.heap.size + 1 + 1) W1.heap.size p c T T' M F F' G G' (W3.alloc (.cells #[.int .i64 0] 29)) (hF.keep ((Below.refl _ _).alloc (Nat.le_refl _) _)) hva (by omega) hr'.out hR'.out (b0.alloc _) (b1.alloc _) (b2.alloc _) (b3.alloc _) (by omega) (by omega) (by omega) (by omega))
    have hfl := hF.lts
    have hy : ∀ w', But [pg, pb, b] (W3.alloc (.cells #[.int .i64 0] 29)) w' → Blk w' W3.heap.size 29 [.int .i64 0] := fun w' hB => (Blk.new W3 29 [.int .i64 0] rfl).but hB (by simp; omega)
    refine (do_yes g pg r b 160 M _ W3 hF.tt.tm _ (fun w => by kernel_rfl) (fun e w' hE => ?_) hW.out).mono ?_
    · obtain ⟨hB, -, ⟨-, rfl⟩ | ⟨-, rfl⟩⟩ := hE
      · exact ⟨.inl rfl, hy _ hB⟩
      · exact ⟨.inr ⟨_, rfl⟩, hy _ hB⟩
    have hbut : ∀ w1 v, But [pg, pb, b] (W3.alloc (.cells #[.int .i64 0] 29)) w1 → But [pg, pb, b] w (w1.setCell ⟨W3.heap.size, 0, none⟩ v) := fun w1 v hB =>
      ((((But.refl [pg, pb, b] w).low bel).alloc (.cells #[.int .i64 0] 29)).trans hB).set (.inr (by show _ ≤ W3.heap.size; omega)) v
    replace hbut := W_hid hbut
    have hfar := W_hid (fun w1 v M' (hh : Full w1 g pg pb n m T' r b M' F' G') => hh.far (y := W3.heap.size) (j := 0) v (by omega) (by omega) (by omega) (by omega) (by omega))
    clear b0 b1 b2 b3 bel hF hW hy hfl hpl h1w hbs
    rintro e w' ⟨w1, ⟨⟨hB, ⟨M', hF'⟩, ⟨hc, -⟩ | ⟨-, he⟩⟩, rfl, rfl⟩ | ⟨c', ⟨hB, ⟨M', hF'⟩, ⟨-, he⟩ | ⟨-, he⟩⟩, rfl, rfl⟩⟩
    · have hres := W_hid (show (∃ M', Full (w1.setCell ⟨W3.heap.size, 0, none⟩ (.int .i64 0)) g pg pb n m T' r b M' F' G') ∧ But [pg, pb, b] w (w1.setCell ⟨W3.heap.size, 0, none⟩ (.int .i64 0)) from ⟨⟨M', hfar.out _ _ _ hF'⟩, hbut.out _ _ hB⟩)
      replace hc := W_hid hc
      clear hB hF' hfar hbut
      go_wp2
      go_ret
      exact ⟨by rw [hc.out]; rfl, hres.out⟩
    · cases he
    · cases he
    · obtain rfl := fault_inj he
      have hres := W_hid (show (∃ M', Full (w1.setCell ⟨W3.heap.size, 0, none⟩ (.int .i64 c')) g pg pb n m T' r b M' F' G') ∧ But [pg, pb, b] w (w1.setCell ⟨W3.heap.size, 0, none⟩ (.int .i64 c')) from ⟨⟨M', hfar.out _ _ _ hF'⟩, hbut.out _ _ hB⟩)
      clear hB hF' hfar hbut he
      go_wp2
      go_ret
      exact ⟨rfl, hres.out⟩
  | false =>
    have hE2 : Hid (∀ w, KT w → Calls Tryz.prog 106 #[.agg #[.bool false, .bool false, .int .i64 p, .int .u64 (f : Int)], .int .i64 1] w fun e w' => e = .returned (.tuple #[.int .u64 (V : Int), .int .i64 0]) ∧ Below w.heap.size w w') := hE
    have hSp2 : Hid (∀ (w : World) (t : Nat), Calls Tryz.prog 120 #[.int .i64 1] (w.drewN t) fun e w' => e = .returned (.int .u64 ((EN.sz (1 - 1) : Nat) : Int)) ∧ ∃ m, w' = w.drewN m) := hSp
    have hDn2 : Hid (∀ (w : World) (t : Nat), Calls Tryz.prog 89 #[.int .u64 (va : Int), .int .u64 ((EN.sz (1 - 1) : Nat) : Int)] (w.drewN t) fun e w' => e = .returned (.tuple #[.int .u64 (va : Int), .int .i64 0]) ∧ ∃ m, w' = w.drewN m) := hDn
    obtain ⟨sz, hsz⟩ : ∃ sz, sz = EN.sz (1 - 1) := ⟨_, rfl⟩
    rw [← hsz] at hSp2 hDn2
    clear hE hSp hDn hlv hsz
    go_wp2_with fail
    refine calls_world (fun W => Full W g pg pb n m T r b M F G ∧ Blk W w.heap.size 90 [.pointer (some ⟨g, 0, none⟩)] ∧ Blk W (w.heap.size + 1) 59 [.int .u64 (va : Int), .int .u64 (f : Int), .int .i64 p, .bool false] ∧ Blk W (w.heap.size + 1 + 1) 3 [.int .i64 1] ∧ Below w.heap.size w W)
      ⟨H.out.keep ((((Below.refl _ _).alloc (Nat.le_refl _) _).alloc (by simp) _).alloc (by simp; omega) _), ((Blk.new w _ _ rfl).alloc _).alloc _, (Blk.new (w.alloc _) _ _ (by simp)).alloc _, Blk.new ((w.alloc _).alloc _) _ _ (by simp), (((Below.refl _ _).alloc (Nat.le_refl _) _).alloc (by simp) _).alloc (by simp; omega) _⟩ ?_
    rintro W ⟨hF, b0, b1, b2, bel⟩
    clear H
    refine (hE2.out _ hF.tt.tm.kt).mono ?_
    rintro e W1 ⟨rfl, bel1⟩
    have hF1 := W_hid (hF.keep bel1)
    have x0 := W_hid (b0.keep bel1)
    have x1 := W_hid (b1.keep bel1)
    have x2 := W_hid (b2.keep bel1)
    have bl1 := W_hid (bel.trans (bel1.mono bel.size))
    clear hF b0 b1 b2 bel bel1 hE2
    go_wp2_with fail
    refine wp_world (fun W => Full W g pg pb n m T r b M F G ∧ Blk W w.heap.size 90 [.pointer (some ⟨g, 0, none⟩)] ∧ Blk W (w.heap.size + 1) 59 [.int .u64 (va : Int), .int .u64 (f : Int), .int .i64 p, .bool false] ∧ Blk W (w.heap.size + 1 + 1) 3 [.int .i64 1] ∧ Blk W W1.heap.size 36 [.int .u64 (V : Int)] ∧ Below w.heap.size w W)
      ⟨hF1.out.keep ((Below.refl _ _).alloc (Nat.le_refl _) _), x0.out.alloc _, x1.out.alloc _, x2.out.alloc _, Blk.new W1 _ _ rfl, bl1.out.alloc bl1.out.size _⟩ ?_
    have hlt1 := W_hid x2.out.lt
    clear hF1 x0 x1 x2 bl1
    rintro W2 ⟨hF, b0, b1, b2, b3, bel⟩
    have k1 : W2.cell? ⟨w.heap.size + 1, 0, none⟩ = some (.int .u64 (va : Int)) := b1.cell rfl
    have k2 : W2.cell? ⟨w.heap.size + 1 + 1, 0, none⟩ = some (.int .i64 1) := b2.cell rfl
    have k0 : W2.cell? ⟨w.heap.size, 0, none⟩ = some (.pointer (some ⟨g, 0, none⟩)) := b0.cell rfl
    have hF2 := W_hid hF
    have x0 := W_hid b0
    have x1 := W_hid b1
    have x2 := W_hid b2
    have x3 := W_hid b3
    have bl2 := W_hid bel
    clear hF b0 b1 b2 b3 bel
    go_quiet (first | (go_at_call 120; exact hSp2.out _ _) | (go_at_call 89; exact hDn2.out _ _))
    go_wp2_with fail
    refine calls_world (fun W => Full W g pg pb n m T r b M F G ∧ Blk W w.heap.size 90 [.pointer (some ⟨g, 0, none⟩)] ∧ Blk W (w.heap.size + 1) 59 [.int .u64 (va : Int), .int .u64 (f : Int), .int .i64 p, .bool false] ∧ Blk W (w.heap.size + 1 + 1) 3 [.int .i64 1] ∧ Blk W W1.heap.size 36 [.int .u64 (V : Int)] ∧ Below w.heap.size w W)
      ⟨hF2.out.drewN nq, x0.out, x1.out, x2.out, x3.out, below_drewN bl2.out nq⟩ ?_
    clear hF2 x0 x1 x2 x3 bl2 k0 k1 k2 hSp2 hDn2
    rintro W3 ⟨hF, b0, b1, b2, b3, bel⟩
    have hpl := hlts.out
    have h1w := hlt1.out
    have hbs := bel.size
    have hV' := hV.out
    subst hV'
    have hW := W_hid (map1_any g pg pb n m r b va 1 f w.heap.size (w.heap.size + 1) (w.heap.size + 1 + 1) W1.heap.size p c T T' M F F' G G' (W3.alloc (.cells #[.int .i64 0] 29)) (hF.keep ((Below.refl _ _).alloc (Nat.le_refl _) _)) hva (by omega) hr'.out hR'.out (b0.alloc _) (b1.alloc _) (b2.alloc _) (b3.alloc _) (by omega) (by omega) (by omega) (by omega))
    have hfl := hF.lts
    have hy : ∀ w', But [pg, pb, b] (W3.alloc (.cells #[.int .i64 0] 29)) w' → Blk w' W3.heap.size 29 [.int .i64 0] := fun w' hB => (Blk.new W3 29 [.int .i64 0] rfl).but hB (by simp; omega)
    refine (do_yes g pg r b 160 M _ W3 hF.tt.tm _ (fun w => by kernel_rfl) (fun e w' hE => ?_) hW.out).mono ?_
    · obtain ⟨hB, -, ⟨-, rfl⟩ | ⟨-, rfl⟩⟩ := hE
      · exact ⟨.inl rfl, hy _ hB⟩
      · exact ⟨.inr ⟨_, rfl⟩, hy _ hB⟩
    have hbut : ∀ w1 v, But [pg, pb, b] (W3.alloc (.cells #[.int .i64 0] 29)) w1 → But [pg, pb, b] w (w1.setCell ⟨W3.heap.size, 0, none⟩ v) := fun w1 v hB =>
      ((((But.refl [pg, pb, b] w).low bel).alloc (.cells #[.int .i64 0] 29)).trans hB).set (.inr (by show _ ≤ W3.heap.size; omega)) v
    replace hbut := W_hid hbut
    have hfar := W_hid (fun w1 v M' (hh : Full w1 g pg pb n m T' r b M' F' G') => hh.far (y := W3.heap.size) (j := 0) v (by omega) (by omega) (by omega) (by omega) (by omega))
    clear b0 b1 b2 b3 bel hF hW hy hfl hpl h1w hbs
    rintro e w' ⟨w1, ⟨⟨hB, ⟨M', hF'⟩, ⟨hc, -⟩ | ⟨-, he⟩⟩, rfl, rfl⟩ | ⟨c', ⟨hB, ⟨M', hF'⟩, ⟨-, he⟩ | ⟨-, he⟩⟩, rfl, rfl⟩⟩
    · have hres := W_hid (show (∃ M', Full (w1.setCell ⟨W3.heap.size, 0, none⟩ (.int .i64 0)) g pg pb n m T' r b M' F' G') ∧ But [pg, pb, b] w (w1.setCell ⟨W3.heap.size, 0, none⟩ (.int .i64 0)) from ⟨⟨M', hfar.out _ _ _ hF'⟩, hbut.out _ _ hB⟩)
      replace hc := W_hid hc
      clear hB hF' hfar hbut
      go_wp2
      go_ret
      exact ⟨by rw [hc.out]; rfl, hres.out⟩
    · cases he
    · cases he
    · obtain rfl := fault_inj he
      have hres := W_hid (show (∃ M', Full (w1.setCell ⟨W3.heap.size, 0, none⟩ (.int .i64 c')) g pg pb n m T' r b M' F' G') ∧ But [pg, pb, b] w (w1.setCell ⟨W3.heap.size, 0, none⟩ (.int .i64 c')) from ⟨⟨M', hfar.out _ _ _ hF'⟩, hbut.out _ _ hB⟩)
      clear hB hF' hfar hbut he
      go_wp2
      go_ret
      exact ⟨rfl, hres.out⟩
end Go.Proofs.YtkomahekdcaiaaaGreatDoor

/- Map where its arguments are none, or the tree is nil. -/
namespace Go.Proofs.YtkomahekdcaiaaaGreatDoor
open Go.ChangeShapes Go.WideShapes Go.ChangeAt Go.RowKit
set_option linter.unusedVariables false
set_option linter.unusedSimpArgs false

set_option maxRecDepth 100000 in
set_option maxHeartbeats 4000000 in
theorem Map_arg (g pg r b va f : Nat) (h : Bool) (p : Int) (M : Nat → Option (Nat → Nat)) (w : World) (hT : TM w g pg r b M) (hf : f < 18446744073709551616) (hva : va < 18446744073709551616)
    (hno : ¬ (EN.right false h p f (lv h : Nat) ∧ va % EN.sz (lv h - 1) = 0 ∧ va < 140737488355328)) :
    Calls Tryz.prog 138 #[.pointer (some ⟨g, 0, none⟩), .agg #[.int .u64 (va : Int), .int .u64 (f : Int), .int .i64 p, .bool h]] w fun e w' =>
      e = .returned (.int .i64 2) ∧ Below w.heap.size w w' := by
  have hmf : ∀ (fn : Fn) (first cap : Array Value) (w : World), (Instr.makeFunc fn first cap).run Tryz.prog w = .ok (.func fn first cap) w := fun _ _ _ _ => rfl
  obtain ⟨V, ec, hec, hE⟩ : ∃ V ec : Nat, ((EN.right false h p f (lv h : Nat) ∧ ec = 0) ∨ (¬ EN.right false h p f (lv h : Nat) ∧ ec = 2)) ∧ Hid (∀ w, KT w → Calls Tryz.prog 106 #[.agg #[.bool false, .bool h, .int .i64 p, .int .u64 (f : Int)], .int .i64 ((lv h : Nat) : Int)] w fun e w' => e = .returned (.tuple #[.int .u64 (V : Int), .int .i64 (ec : Int)]) ∧ Below w.heap.size w w') := by
    by_cases h1 : EN.right false h p f (lv h : Nat)
    · exact ⟨_, 0, .inl ⟨h1, rfl⟩, W_hid (fun w hk => Encode_yes false h p f (lv h : Nat) h1 w hk)⟩
    · exact ⟨0, 2, .inr ⟨h1, rfl⟩, W_hid (fun w hk => Encode_no false h p f (lv h : Nat) h1 w hk)⟩
  have hlv := lv_le h
  have hSp := W_hid (fun (w : World) (t : Nat) => Calls.quiet_of_same ((span_any (lv h) (by omega) (by omega) (w.drewN t)).mono fun e w' ⟨he, hw⟩ => ⟨he, hw.symm⟩))
  have hDn := W_hid (fun (w : World) (t : Nat) => Calls.quiet_of_same ((down_yes va (EN.sz (lv h - 1)) hva (sz_lt _ (by omega)) (sz_ones _ (by omega)) (w.drewN t)).mono fun e w' ⟨he, hw⟩ => ⟨he, hw.symm⟩))
  obtain ⟨D, hDe⟩ : ∃ D, D = WM.down va (EN.sz (lv h - 1)) := ⟨_, rfl⟩
  rw [← hDe] at hDn
  have hts : ((ec : Int) == 0) = false ∨ (((ec : Int) == 0) = true ∧ ((D : Int) == (va : Int)) = false) ∨ (((ec : Int) == 0) = true ∧ ((D : Int) == (va : Int)) = true ∧ decide ((va : Int) < 140737488355328) = false) := by
    by_cases h1 : EN.right false h p f (lv h : Nat)
    · rcases hec with ⟨-, e2⟩ | ⟨hn, -⟩
      · by_cases h2 : va % EN.sz (lv h - 1) = 0
        · refine .inr (.inr ⟨by rw [e2]; rfl, ?_, ?_⟩)
          · rw [hDe, WM.down_self _ _ h2]; simp
          · have : ¬ va < 140737488355328 := fun h3 => hno ⟨h1, h2, h3⟩
            simp; omega
        · refine .inr (.inl ⟨by rw [e2]; rfl, ?_⟩)
          have := WM.down_ne _ _ h2
          rw [← hDe] at this
          simp; omega
      · exact absurd h1 hn
    · rcases hec with ⟨h2, -⟩ | ⟨-, e2⟩
      · exact absurd h2 h1
      · exact .inl (by rw [e2]; rfl)
  clear hec hDe hno
  go_enter Tryz.func138, Tryz.ntmps138
  cases h with
  | true =>
    have hE2 : Hid (∀ w, KT w → Calls Tryz.prog 106 #[.agg #[.bool false, .bool true, .int .i64 p, .int .u64 (f : Int)], .int .i64 2] w fun e w' => e = .returned (.tuple #[.int .u64 (V : Int), .int .i64 ec]) ∧ Below w.heap.size w w') := hE
    have hSp2 : Hid (∀ (w : World) (t : Nat), Calls Tryz.prog 120 #[.int .i64 2] (w.drewN t) fun e w' => e = .returned (.int .u64 ((EN.sz (2 - 1) : Nat) : Int)) ∧ ∃ m, w' = w.drewN m) := hSp
    have hDn2 : Hid (∀ (w : World) (t : Nat), Calls Tryz.prog 89 #[.int .u64 (va : Int), .int .u64 ((EN.sz (2 - 1) : Nat) : Int)] (w.drewN t) fun e w' => e = .returned (.tuple #[.int .u64 (D : Int), .int .i64 0]) ∧ ∃ m, w' = w.drewN m) := hDn
    obtain ⟨sz, hsz⟩ : ∃ sz, sz = EN.sz (2 - 1) := ⟨_, rfl⟩
    rw [← hsz] at hSp2 hDn2
    clear hE hSp hDn hlv hsz
    go_wp2_with fail
    refine calls_world (fun W => TM W g pg r b M ∧ Blk W w.heap.size 90 [.pointer (some ⟨g, 0, none⟩)] ∧ Blk W (w.heap.size + 1) 59 [.int .u64 (va : Int), .int .u64 (f : Int), .int .i64 p, .bool true] ∧ Blk W (w.heap.size + 1 + 1) 3 [.int .i64 2] ∧ Below w.heap.size w W)
      ⟨hT.keep ((((Below.refl _ _).alloc (Nat.le_refl _) _).alloc (by simp) _).alloc (by simp; omega) _), ((Blk.new w _ _ rfl).alloc _).alloc _, (Blk.new (w.alloc _) _ _ (by simp)).alloc _, Blk.new ((w.alloc _).alloc _) _ _ (by simp), (((Below.refl _ _).alloc (Nat.le_refl _) _).alloc (by simp) _).alloc (by simp; omega) _⟩ ?_
    rintro W ⟨hF, b0, b1, b2, bel⟩
    refine (hE2.out _ hF.kt).mono ?_
    rintro e W1 ⟨rfl, bel1⟩
    have hF1 := hF.keep bel1
    have x0 := b0.keep bel1
    have x1 := b1.keep bel1
    have x2 := b2.keep bel1
    have bl1 := bel.trans (bel1.mono bel.size)
    replace hF1 := W_hid hF1
    replace x0 := W_hid x0
    replace x1 := W_hid x1
    replace x2 := W_hid x2
    replace bl1 := W_hid bl1
    clear hF b0 b1 b2 bel bel1 hE2
    go_wp2_with fail
    refine wp_world (fun W => TM W g pg r b M ∧ Blk W w.heap.size 90 [.pointer (some ⟨g, 0, none⟩)] ∧ Blk W (w.heap.size + 1) 59 [.int .u64 (va : Int), .int .u64 (f : Int), .int .i64 p, .bool true] ∧ Blk W (w.heap.size + 1 + 1) 3 [.int .i64 2] ∧ Below w.heap.size w W)
      ⟨hF1.out.keep ((Below.refl _ _).alloc (Nat.le_refl _) _), x0.out.alloc _, x1.out.alloc _, x2.out.alloc _, bl1.out.alloc bl1.out.size _⟩ ?_
    clear hF1 x0 x1 x2 bl1
    rintro W2 ⟨hF, b0, b1, b2, bel⟩
    have k1 : W2.cell? ⟨w.heap.size + 1, 0, none⟩ = some (.int .u64 (va : Int)) := b1.cell rfl
    have k2 : W2.cell? ⟨w.heap.size + 1 + 1, 0, none⟩ = some (.int .i64 2) := b2.cell rfl
    have k0 : W2.cell? ⟨w.heap.size, 0, none⟩ = some (.pointer (some ⟨g, 0, none⟩)) := b0.cell rfl
    have hF2 := W_hid hF
    have bl2 := W_hid bel
    clear hF b0 b1 b2 bel
    go_quiet (first | (go_at_call 120; exact hSp2.out _ _) | (go_at_call 89; exact hDn2.out _ _))
    have hDo := W_hid (fun f w h => do_arg g pg r b M f w h)
    rcases hts with ht1 | ⟨ht1, ht2⟩ | ⟨ht1, ht2, ht3⟩ <;>
    · go_wp2_with fail
      refine (hDo.out _ (W2.drewN nq) (hF2.out.keep ⟨rfl, rfl, rfl, Nat.le_refl _, fun _ _ => rfl⟩)).mono ?_
      rintro e w3 ⟨rfl, bel3⟩
      have hres := W_hid ((below_drewN bl2.out nq).trans (bel3.mono bl2.out.size))
      clear bel3
      go_wp2
      go_ret
      exact ⟨rfl, hres.out⟩
  | false =>
    have hE2 : Hid (∀ w, KT w → Calls Tryz.prog 106 #[.agg #[.bool false, .bool false, .int .i64 p, .int .u64 (f : Int)], .int .i64 1] w fun e w' => e = .returned (.tuple #[.int .u64 (V : Int), .int .i64 ec]) ∧ Below w.heap.size w w') := hE
    have hSp2 : Hid (∀ (w : World) (t : Nat), Calls Tryz.prog 120 #[.int .i64 1] (w.drewN t) fun e w' => e = .returned (.int .u64 ((EN.sz (1 - 1) : Nat) : Int)) ∧ ∃ m, w' = w.drewN m) := hSp
    have hDn2 : Hid (∀ (w : World) (t : Nat), Calls Tryz.prog 89 #[.int .u64 (va : Int), .int .u64 ((EN.sz (1 - 1) : Nat) : Int)] (w.drewN t) fun e w' => e = .returned (.tuple #[.int .u64 (D : Int), .int .i64 0]) ∧ ∃ m, w' = w.drewN m) := hDn
    obtain ⟨sz, hsz⟩ : ∃ sz, sz = EN.sz (1 - 1) := ⟨_, rfl⟩
    rw [← hsz] at hSp2 hDn2
    clear hE hSp hDn hlv hsz
    go_wp2_with fail
    refine calls_world (fun W => TM W g pg r b M ∧ Blk W w.heap.size 90 [.pointer (some ⟨g, 0, none⟩)] ∧ Blk W (w.heap.size + 1) 59 [.int .u64 (va : Int), .int .u64 (f : Int), .int .i64 p, .bool false] ∧ Blk W (w.heap.size + 1 + 1) 3 [.int .i64 1] ∧ Below w.heap.size w W)
      ⟨hT.keep ((((Below.refl _ _).alloc (Nat.le_refl _) _).alloc (by simp) _).alloc (by simp; omega) _), ((Blk.new w _ _ rfl).alloc _).alloc _, (Blk.new (w.alloc _) _ _ (by simp)).alloc _, Blk.new ((w.alloc _).alloc _) _ _ (by simp), (((Below.refl _ _).alloc (Nat.le_refl _) _).alloc (by simp) _).alloc (by simp; omega) _⟩ ?_
    rintro W ⟨hF, b0, b1, b2, bel⟩
    refine (hE2.out _ hF.kt).mono ?_
    rintro e W1 ⟨rfl, bel1⟩
    have hF1 := hF.keep bel1
    have x0 := b0.keep bel1
    have x1 := b1.keep bel1
    have x2 := b2.keep bel1
    have bl1 := bel.trans (bel1.mono bel.size)
    replace hF1 := W_hid hF1
    replace x0 := W_hid x0
    replace x1 := W_hid x1
    replace x2 := W_hid x2
    replace bl1 := W_hid bl1
    clear hF b0 b1 b2 bel bel1 hE2
    go_wp2_with fail
    refine wp_world (fun W => TM W g pg r b M ∧ Blk W w.heap.size 90 [.pointer (some ⟨g, 0, none⟩)] ∧ Blk W (w.heap.size + 1) 59 [.int .u64 (va : Int), .int .u64 (f : Int), .int .i64 p, .bool false] ∧ Blk W (w.heap.size + 1 + 1) 3 [.int .i64 1] ∧ Below w.heap.size w W)
      ⟨hF1.out.keep ((Below.refl _ _).alloc (Nat.le_refl _) _), x0.out.alloc _, x1.out.alloc _, x2.out.alloc _, bl1.out.alloc bl1.out.size _⟩ ?_
    clear hF1 x0 x1 x2 bl1
    rintro W2 ⟨hF, b0, b1, b2, bel⟩
    have k1 : W2.cell? ⟨w.heap.size + 1, 0, none⟩ = some (.int .u64 (va : Int)) := b1.cell rfl
    have k2 : W2.cell? ⟨w.heap.size + 1 + 1, 0, none⟩ = some (.int .i64 1) := b2.cell rfl
    have k0 : W2.cell? ⟨w.heap.size, 0, none⟩ = some (.pointer (some ⟨g, 0, none⟩)) := b0.cell rfl
    have hF2 := W_hid hF
    have bl2 := W_hid bel
    clear hF b0 b1 b2 bel
    go_quiet (first | (go_at_call 120; exact hSp2.out _ _) | (go_at_call 89; exact hDn2.out _ _))
    have hDo := W_hid (fun f w h => do_arg g pg r b M f w h)
    rcases hts with ht1 | ⟨ht1, ht2⟩ | ⟨ht1, ht2, ht3⟩ <;>
    · go_wp2_with fail
      refine (hDo.out _ (W2.drewN nq) (hF2.out.keep ⟨rfl, rfl, rfl, Nat.le_refl _, fun _ _ => rfl⟩)).mono ?_
      rintro e w3 ⟨rfl, bel3⟩
      have hres := W_hid ((below_drewN bl2.out nq).trans (bel3.mono bl2.out.size))
      clear bel3
      go_wp2
      go_ret
      exact ⟨rfl, hres.out⟩

set_option maxRecDepth 100000 in
set_option maxHeartbeats 4000000 in
theorem Map_nil (va f : Nat) (h : Bool) (p : Int) (w : World) (hf : f < 18446744073709551616) (hk : KT w) (hva : va < 18446744073709551616) :
    Calls Tryz.prog 138 #[.pointer none, .agg #[.int .u64 (va : Int), .int .u64 (f : Int), .int .i64 p, .bool h]] w fun e w' =>
      e = .returned (.int .i64 1) ∧ Below w.heap.size w w' := by
  have hmf : ∀ (fn : Fn) (first cap : Array Value) (w : World), (Instr.makeFunc fn first cap).run Tryz.prog w = .ok (.func fn first cap) w := fun _ _ _ _ => rfl
  obtain ⟨V, ec, hec, hE⟩ : ∃ V ec : Nat, ((EN.right false h p f (lv h : Nat) ∧ ec = 0) ∨ (¬ EN.right false h p f (lv h : Nat) ∧ ec = 2)) ∧ Hid (∀ w, KT w → Calls Tryz.prog 106 #[.agg #[.bool false, .bool h, .int .i64 p, .int .u64 (f : Int)], .int .i64 ((lv h : Nat) : Int)] w fun e w' => e = .returned (.tuple #[.int .u64 (V : Int), .int .i64 (ec : Int)]) ∧ Below w.heap.size w w') := by
    by_cases h1 : EN.right false h p f (lv h : Nat)
    · exact ⟨_, 0, .inl ⟨h1, rfl⟩, W_hid (fun w hk => Encode_yes false h p f (lv h : Nat) h1 w hk)⟩
    · exact ⟨0, 2, .inr ⟨h1, rfl⟩, W_hid (fun w hk => Encode_no false h p f (lv h : Nat) h1 w hk)⟩
  have hlv := lv_le h
  have hSp := W_hid (fun (w : World) (t : Nat) => Calls.quiet_of_same ((span_any (lv h) (by omega) (by omega) (w.drewN t)).mono fun e w' ⟨he, hw⟩ => ⟨he, hw.symm⟩))
  have hDn := W_hid (fun (w : World) (t : Nat) => Calls.quiet_of_same ((down_yes va (EN.sz (lv h - 1)) hva (sz_lt _ (by omega)) (sz_ones _ (by omega)) (w.drewN t)).mono fun e w' ⟨he, hw⟩ => ⟨he, hw.symm⟩))
  obtain ⟨D, hDe⟩ : ∃ D, D = WM.down va (EN.sz (lv h - 1)) := ⟨_, rfl⟩
  rw [← hDe] at hDn
  clear hec hDe 
  go_enter Tryz.func138, Tryz.ntmps138
  cases h with
  | true =>
    have hE2 : Hid (∀ w, KT w → Calls Tryz.prog 106 #[.agg #[.bool false, .bool true, .int .i64 p, .int .u64 (f : Int)], .int .i64 2] w fun e w' => e = .returned (.tuple #[.int .u64 (V : Int), .int .i64 ec]) ∧ Below w.heap.size w w') := hE
    have hSp2 : Hid (∀ (w : World) (t : Nat), Calls Tryz.prog 120 #[.int .i64 2] (w.drewN t) fun e w' => e = .returned (.int .u64 ((EN.sz (2 - 1) : Nat) : Int)) ∧ ∃ m, w' = w.drewN m) := hSp
    have hDn2 : Hid (∀ (w : World) (t : Nat), Calls Tryz.prog 89 #[.int .u64 (va : Int), .int .u64 ((EN.sz (2 - 1) : Nat) : Int)] (w.drewN t) fun e w' => e = .returned (.tuple #[.int .u64 (D : Int), .int .i64 0]) ∧ ∃ m, w' = w.drewN m) := hDn
    obtain ⟨sz, hsz⟩ : ∃ sz, sz = EN.sz (2 - 1) := ⟨_, rfl⟩
    rw [← hsz] at hSp2 hDn2
    clear hE hSp hDn hlv hsz
    go_wp2_with fail
    refine calls_world (fun W => KT W ∧ Blk W w.heap.size 90 [.pointer none] ∧ Blk W (w.heap.size + 1) 59 [.int .u64 (va : Int), .int .u64 (f : Int), .int .i64 p, .bool true] ∧ Blk W (w.heap.size + 1 + 1) 3 [.int .i64 2] ∧ Below w.heap.size w W)
      ⟨hk.keep ((((Below.refl _ _).alloc (Nat.le_refl _) _).alloc (by simp) _).alloc (by simp; omega) _), ((Blk.new w _ _ rfl).alloc _).alloc _, (Blk.new (w.alloc _) _ _ (by simp)).alloc _, Blk.new ((w.alloc _).alloc _) _ _ (by simp), (((Below.refl _ _).alloc (Nat.le_refl _) _).alloc (by simp) _).alloc (by simp; omega) _⟩ ?_
    rintro W ⟨hF, b0, b1, b2, bel⟩
    refine (hE2.out _ hF).mono ?_
    rintro e W1 ⟨rfl, bel1⟩
    have hF1 := hF.keep bel1
    have x0 := b0.keep bel1
    have x1 := b1.keep bel1
    have x2 := b2.keep bel1
    have bl1 := bel.trans (bel1.mono bel.size)
    replace hF1 := W_hid hF1
    replace x0 := W_hid x0
    replace x1 := W_hid x1
    replace x2 := W_hid x2
    replace bl1 := W_hid bl1
    clear hF b0 b1 b2 bel bel1 hE2
    go_wp2_with fail
    refine wp_world (fun W => KT W ∧ Blk W w.heap.size 90 [.pointer none] ∧ Blk W (w.heap.size + 1) 59 [.int .u64 (va : Int), .int .u64 (f : Int), .int .i64 p, .bool true] ∧ Blk W (w.heap.size + 1 + 1) 3 [.int .i64 2] ∧ Below w.heap.size w W)
      ⟨hF1.out.keep ((Below.refl _ _).alloc (Nat.le_refl _) _), x0.out.alloc _, x1.out.alloc _, x2.out.alloc _, bl1.out.alloc bl1.out.size _⟩ ?_
    clear hF1 x0 x1 x2 bl1
    rintro W2 ⟨hF, b0, b1, b2, bel⟩
    have k1 : W2.cell? ⟨w.heap.size + 1, 0, none⟩ = some (.int .u64 (va : Int)) := b1.cell rfl
    have k2 : W2.cell? ⟨w.heap.size + 1 + 1, 0, none⟩ = some (.int .i64 2) := b2.cell rfl
    have k0 : W2.cell? ⟨w.heap.size, 0, none⟩ = some (.pointer none) := b0.cell rfl
    have hF2 := W_hid hF
    have bl2 := W_hid bel
    clear hF b0 b1 b2 bel
    go_quiet (first | (go_at_call 120; exact hSp2.out _ _) | (go_at_call 89; exact hDn2.out _ _))
    obtain ⟨t1, ht1⟩ : ∃ t, ((ec : Int) == 0) = t := ⟨_, rfl⟩
    obtain ⟨t2, ht2⟩ : ∃ t, ((D : Int) == (va : Int)) = t := ⟨_, rfl⟩
    obtain ⟨t3, ht3⟩ : ∃ t, decide ((va : Int) < 140737488355328) = t := ⟨_, rfl⟩
    have hDo := W_hid (fun s f w => do_nil s f w)
    cases t1 <;> cases t2 <;> cases t3 <;>
    · go_wp2_with fail
      refine (hDo.out _ _ _).mono ?_
      rintro e w3 ⟨rfl, bel3⟩
      have hres := W_hid ((below_drewN bl2.out nq).trans (bel3.mono bl2.out.size))
      clear bel3
      go_wp2
      go_ret
      exact ⟨rfl, hres.out⟩
  | false =>
    have hE2 : Hid (∀ w, KT w → Calls Tryz.prog 106 #[.agg #[.bool false, .bool false, .int .i64 p, .int .u64 (f : Int)], .int .i64 1] w fun e w' => e = .returned (.tuple #[.int .u64 (V : Int), .int .i64 ec]) ∧ Below w.heap.size w w') := hE
    have hSp2 : Hid (∀ (w : World) (t : Nat), Calls Tryz.prog 120 #[.int .i64 1] (w.drewN t) fun e w' => e = .returned (.int .u64 ((EN.sz (1 - 1) : Nat) : Int)) ∧ ∃ m, w' = w.drewN m) := hSp
    have hDn2 : Hid (∀ (w : World) (t : Nat), Calls Tryz.prog 89 #[.int .u64 (va : Int), .int .u64 ((EN.sz (1 - 1) : Nat) : Int)] (w.drewN t) fun e w' => e = .returned (.tuple #[.int .u64 (D : Int), .int .i64 0]) ∧ ∃ m, w' = w.drewN m) := hDn
    obtain ⟨sz, hsz⟩ : ∃ sz, sz = EN.sz (1 - 1) := ⟨_, rfl⟩
    rw [← hsz] at hSp2 hDn2
    clear hE hSp hDn hlv hsz
    go_wp2_with fail
    refine calls_world (fun W => KT W ∧ Blk W w.heap.size 90 [.pointer none] ∧ Blk W (w.heap.size + 1) 59 [.int .u64 (va : Int), .int .u64 (f : Int), .int .i64 p, .bool false] ∧ Blk W (w.heap.size + 1 + 1) 3 [.int .i64 1] ∧ Below w.heap.size w W)
      ⟨hk.keep ((((Below.refl _ _).alloc (Nat.le_refl _) _).alloc (by simp) _).alloc (by simp; omega) _), ((Blk.new w _ _ rfl).alloc _).alloc _, (Blk.new (w.alloc _) _ _ (by simp)).alloc _, Blk.new ((w.alloc _).alloc _) _ _ (by simp), (((Below.refl _ _).alloc (Nat.le_refl _) _).alloc (by simp) _).alloc (by simp; omega) _⟩ ?_
    rintro W ⟨hF, b0, b1, b2, bel⟩
    refine (hE2.out _ hF).mono ?_
    rintro e W1 ⟨rfl, bel1⟩
    have hF1 := hF.keep bel1
    have x0 := b0.keep bel1
    have x1 := b1.keep bel1
    have x2 := b2.keep bel1
    have bl1 := bel.trans (bel1.mono bel.size)
    replace hF1 := W_hid hF1
    replace x0 := W_hid x0
    replace x1 := W_hid x1
    replace x2 := W_hid x2
    replace bl1 := W_hid bl1
    clear hF b0 b1 b2 bel bel1 hE2
    go_wp2_with fail
    refine wp_world (fun W => KT W ∧ Blk W w.heap.size 90 [.pointer none] ∧ Blk W (w.heap.size + 1) 59 [.int .u64 (va : Int), .int .u64 (f : Int), .int .i64 p, .bool false] ∧ Blk W (w.heap.size + 1 + 1) 3 [.int .i64 1] ∧ Below w.heap.size w W)
      ⟨hF1.out.keep ((Below.refl _ _).alloc (Nat.le_refl _) _), x0.out.alloc _, x1.out.alloc _, x2.out.alloc _, bl1.out.alloc bl1.out.size _⟩ ?_
    clear hF1 x0 x1 x2 bl1
    rintro W2 ⟨hF, b0, b1, b2, bel⟩
    have k1 : W2.cell? ⟨w.heap.size + 1, 0, none⟩ = some (.int .u64 (va : Int)) := b1.cell rfl
    have k2 : W2.cell? ⟨w.heap.size + 1 + 1, 0, none⟩ = some (.int .i64 1) := b2.cell rfl
    have k0 : W2.cell? ⟨w.heap.size, 0, none⟩ = some (.pointer none) := b0.cell rfl
    have hF2 := W_hid hF
    have bl2 := W_hid bel
    clear hF b0 b1 b2 bel
    go_quiet (first | (go_at_call 120; exact hSp2.out _ _) | (go_at_call 89; exact hDn2.out _ _))
    obtain ⟨t1, ht1⟩ : ∃ t, ((ec : Int) == 0) = t := ⟨_, rfl⟩
    obtain ⟨t2, ht2⟩ : ∃ t, ((D : Int) == (va : Int)) = t := ⟨_, rfl⟩
    obtain ⟨t3, ht3⟩ : ∃ t, decide ((va : Int) < 140737488355328) = t := ⟨_, rfl⟩
    have hDo := W_hid (fun s f w => do_nil s f w)
    cases t1 <;> cases t2 <;> cases t3 <;>
    · go_wp2_with fail
      refine (hDo.out _ _ _).mono ?_
      rintro e w3 ⟨rfl, bel3⟩
      have hres := W_hid ((below_drewN bl2.out nq).trans (bel3.mono bl2.out.size))
      clear bel3
      go_wp2
      go_ret
      exact ⟨rfl, hres.out⟩
end Go.Proofs.YtkomahekdcaiaaaGreatDoor

/- Contracts of package radix's New, Root, Word. -/
namespace Go.Proofs.YtkomahekdcaiaaaGreatDoor
open Go.ChangeShapes Go.WideShapes Go.ChangeAt Go.RowKit
set_option linter.unusedVariables false
set_option linter.unusedSimpArgs false

theorem wpList_insert_b {ops : Array Oper} {rest : List Oper} {o : Oper} {a : Act} {w : World} {Q : Exit → Act → World → Prop} (hg : o.guard = none) (m x v : Operand) (hop : o.op = Op.insert 124 m x v)
    (b f : Nat) (ws : Nat → Nat) (M : Nat → Option (Nat → Nat)) (hm : a.eval m = .map (some b)) (hx : a.eval x = .int .u64 (f : Int)) (hv : a.eval v = .agg (tw ws).toArray) (h : MB w b M) (hf : f < 65536)
    (hK : ∀ w', MB w' b (upd M f (some ws)) → w.grownBy w' (some b) → w'.heap.size = w.heap.size → wpList Tryz.prog ops Q rest (a.put o.dst undef) w') : wpList Tryz.prog ops Q (o :: rest) a w := by
  refine wpList_plain hg fun K' hK' => ?_
  obtain ⟨w', hrun, r1, r2, r3⟩ := h.put f ws hf
  unfold Oper.wp
  simp [execOp, hop, hm, hx, hv, hrun, Result.andThen]
  exact hK' _ _ (hK w' r1 r2 r3)

/-- A root alone. -/
def F0 (r : Nat) : RX.Tabs := fun l j => if l = 4 ∧ j = 0 then some r else none
def G0 : RX.Pags := fun _ _ => none
theorem inv0 (r n : Nat) (hr : r < n) (hn : n ≤ 65536) : RX.Inv (F0 r) G0 r n := by
  have key : ∀ {l j f}, F0 r l j = some f → l = 4 ∧ j = 0 ∧ f = r := by
    intro l j f h
    unfold F0 at h
    split at h
    · rename_i e; exact ⟨e.1, e.2, (Option.some.inj h).symm⟩
    · cases h
  refine ⟨hn, by simp [F0], fun {l j f} h => ?_, fun {l j l' j' f} h h' => ?_, fun {k c f p} h => (by cases h), fun {l j f} h h3 => ?_, fun {k c x} h => (by cases h), fun {c x} h => (by cases h)⟩
  · have := key h; omega
  · have := key h; have := key h'; omega
  · have := key h; omega
theorem rep0 (r : Nat) : RX.Rep (upd (fun _ => none) r (some zero)) (F0 r) G0 := by
  refine ⟨fun {l j f} h => ?_, fun {f} h => ?_⟩
  · unfold F0 at h
    split at h
    · rename_i e
      obtain rfl := Option.some.inj h
      refine ⟨zero, RX.upd_at _ _ _, fun i hi => ?_⟩
      rw [e.1, e.2]
      unfold RX.word F0 G0
      rw [if_neg (by omega)]
      rfl
    · cases h
  · refine RX.upd_ne fun e => h 4 0 ?_
    rw [e]; simp [F0]

set_option maxRecDepth 100000 in
set_option maxHeartbeats 2000000 in
theorem New_yesT (pg pb n m f : Nat) (T : Nat → Bool) (w : World) (hP : PL w pg pb n m T) (hk : KT w) (hk1 : 0 ≠ pg) (hk2 : 0 ≠ pb) (hlow : FR.Low T n 1 f) :
    Calls Tryz.prog 63 #[.pointer (some ⟨pg, 0, none⟩)] w fun e w' =>
      ∃ g b M, e = .returned (.tuple #[.pointer (some ⟨g, 0, none⟩), .int .i64 0]) ∧ w.heap.size ≤ g ∧ w.heap.size ≤ b ∧ Full w' g pg pb n m (FR.st T f 1 true) f b M (F0 f) G0 ∧ But [pg, pb] w w' := by
  have hmm := @run_makeMap Tryz.prog
  have hA := W_hid (fun w h => Alloc_any pg pb n m T _ 1 f 0 w h (gets_one hlow))
  have hn2 := hP.n2
  have hf := (low_one hlow).1
  have hlt := hP.lts
  have hkl := hk.lt
  have HP := W_hid hP
  have HK := W_hid hk
  clear hP hk
  go_enter Tryz.func63, Tryz.ntmps63
  go_wp2_with fail
  refine (hA.out _ HP.out).mono ?_
  rintro e w1 ⟨rfl, hP1, t1⟩
  have hP1' := W_hid hP1
  have t1' := W_hid t1
  have hmb := W_hid (MB.new w1)
  have hs1 := t1.size
  clear hP1 t1
  go_wp2_with (first | (refine wpList_insert_b rfl _ _ _ rfl w1.heap.size f zero (fun _ => none) rfl rfl rfl hmb.out (by omega) ?_; intro w2 hM2 hg2 hs2; have hM2' := W_hid hM2; have hg2' := W_hid hg2; clear hM2 hg2))
  have hsz : w2.heap.size = w1.heap.size + 1 := by rw [hs2]; simp
  have hb2 : Below w1.heap.size w1 w2 := ((Below.refl _ w1).alloc (Nat.le_refl _) _).grown hg2'.out (by simp) (fun j hj => by have := Option.some.inj hj; omega)
  have hb3 := hb2.alloc hb2.size (.cells #[.pointer (some ⟨pg, 0, none⟩), .int .u64 (f : Int), .map (some w1.heap.size)] 126)
  have hkt := HK.out.two t1'.out hk1 hk2
  have htk : Tk (F0 f) (FR.st T f 1 true) := by
    intro l j y hy
    unfold F0 at hy
    split at hy
    · obtain rfl := Option.some.inj hy
      unfold FR.st; rw [if_pos (by omega)]
    · cases hy
  have hfull : Full (w2.alloc (.cells #[.pointer (some ⟨pg, 0, none⟩), .int .u64 (f : Int), .map (some w1.heap.size)] 126)) (w1.heap.size + 1) pg pb n m (FR.st T f 1 true) f w1.heap.size (upd (fun _ => none) f (some zero)) (F0 f) G0 :=
    ⟨⟨⟨Blk.new w2 _ _ hsz.symm, hM2'.out.alloc _, hkt.keep hb3⟩, hP1'.out.below hb3 (by omega) (by omega), by omega, by omega, by omega, by omega, by omega, by omega, hk1, hk2, by omega⟩, inv0 f n hf hn2, rep0 f, htk⟩
  have hbut : But [pg, pb] w (w2.alloc (.cells #[.pointer (some ⟨pg, 0, none⟩), .int .u64 (f : Int), .map (some w1.heap.size)] 126)) := (But.two t1'.out (by simp) (by simp)).trans (But.of hb3)
  replace hfull := W_hid hfull
  replace hbut := W_hid hbut
  clear hb2 hb3 hkt htk hsz hs2
  go_ret2
  exact ⟨_, _, _, rfl, by omega, by omega, hfull.out, hbut.out⟩

set_option maxRecDepth 100000 in
theorem New_nilT (w : World) : Calls Tryz.prog 63 #[.pointer none] w fun e w' => e = .returned (.tuple #[.pointer none, .int .i64 1]) ∧ w = w' := by
  have hA := W_hid (Alloc_nil 1 w)
  go_enter Tryz.func63, Tryz.ntmps63
  go_wp2_with fail
  refine hA.out.mono ?_
  rintro e w1 ⟨rfl, rfl⟩
  go_wp2
  go_ret2
  exact ⟨rfl, rfl⟩

set_option maxRecDepth 100000 in
theorem Tables_nil (w : World) : Calls Tryz.prog 88 #[.pointer none] w fun e w' => e = .returned (.slice none 0 0) ∧ w = w' := by
  have hN := W_hid (none_nilT w)
  go_enter Tryz.func88, Tryz.ntmps88
  go_wp2_with fail
  refine hN.out.mono ?_
  rintro e w1 ⟨rfl, rfl⟩
  go_wp2
  go_ret
  exact ⟨rfl, rfl⟩
set_option maxRecDepth 100000 in
theorem Pages_nil (w : World) : Calls Tryz.prog 44 #[.pointer none] w fun e w' => e = .returned (.slice none 0 0) ∧ w = w' := by
  have hN := W_hid (none_nilT w)
  go_enter Tryz.func44, Tryz.ntmps44
  go_wp2_with fail
  refine hN.out.mono ?_
  rintro e w1 ⟨rfl, rfl⟩
  go_wp2
  go_ret
  exact ⟨rfl, rfl⟩
set_option maxRecDepth 100000 in
set_option maxHeartbeats 1000000 in
theorem Drop_nil (w : World) : Calls Tryz.prog 49 #[.pointer none] w fun e w' => e = .returned (.int .i64 1) ∧ Below w.heap.size w w' := by
  have hmf : ∀ (fn : Fn) (first cap : Array Value) (w : World), (Instr.makeFunc fn first cap).run Tryz.prog w = .ok (.func fn first cap) w := fun _ _ _ _ => rfl
  have hD := W_hid (fun s f w => do_nil s f w)
  go_enter Tryz.func49, Tryz.ntmps49
  go_wp2_with fail
  refine (hD.out _ _ _).mono ?_
  rintro e w1 ⟨rfl, bel⟩
  have hres := W_hid (((Below.refl _ _).alloc (Nat.le_refl w.heap.size) _).trans (bel.mono (by simp)))
  clear bel
  go_wp2
  go_ret
  exact ⟨rfl, hres.out⟩
end Go.Proofs.YtkomahekdcaiaaaGreatDoor

namespace Go.Proofs.YtkomahekdcaiaaaGreatDoor
open Go.ChangeShapes Go.WideShapes Go.ChangeAt Go.RowKit
set_option linter.unusedVariables false
set_option linter.unusedSimpArgs false

theorem res_map2 {fn : Func} {r c : Tmp} (hres : fn.results = #[.cell r 59, .tmp c]) (tmps : Array Value) (w : World) {g : Nat} {l : List Value} (hr : tmps.getD r undef = .pointer (some ⟨g, 0, none⟩)) (hp : Blk w g 59 l) (hl : l.length = 4) :
    (results fn tmps).run Tryz.prog w = .ok (.tuple #[.agg l.toArray, tmps.getD c undef]) w := by
  have h1 := run_loadVar_row (P := Tryz.prog) w g 59 59 l.toArray (0, 0) _ hp Tryz.underlying59 rfl (by simp only [List.size_toArray, hl]; kernel_rfl)
  rw [Array.getD_eq_getD_getElem?] at hr
  simp [results, hres, hr, asAddr, h1]

def noMap : List Value := [.int .u64 0, .int .u64 0, .int .i64 0, .bool false]
def mapL (va f : Nat) (p : Int) (h : Bool) : List Value := [.int .u64 (va : Int), .int .u64 (f : Int), .int .i64 p, .bool h]

set_option maxRecDepth 100000 in
set_option maxHeartbeats 2000000 in
theorem Unmap_nil (va : Int) (w : World) :
    Calls Tryz.prog 128 #[.pointer none, .int .u64 va] w fun e w' => e = .returned (.tuple #[.agg noMap.toArray, .int .i64 1]) ∧ Below w.heap.size w w' := by
  have hmf : ∀ (fn : Fn) (first cap : Array Value) (w : World), (Instr.makeFunc fn first cap).run Tryz.prog w = .ok (.func fn first cap) w := fun _ _ _ _ => rfl
  have hD := W_hid (fun s f w => do_nil s f w)
  go_enter Tryz.func128, Tryz.ntmps128
  go_wp2_with fail
  refine (hD.out _ _ _).mono ?_
  rintro e w2 ⟨rfl, bel⟩
  have hM : Blk w2 (w.heap.size + 1 + 1 + 1) 59 noMap := Blk.keep (Blk.new (((w.alloc _).alloc _).alloc _) _ noMap (by simp)) bel
  have hR : Blk w2 (w.heap.size + 1 + 1) 59 noMap := Blk.keep ((Blk.new ((w.alloc _).alloc _) _ noMap (by simp)).alloc _) bel
  have k0 : w2.cell? ⟨w.heap.size + 1 + 1 + 1, 0, none⟩ = some (.int .u64 0) := hM.cell rfl
  have k1 : w2.cell? ⟨w.heap.size + 1 + 1 + 1, 1, none⟩ = some (.int .u64 0) := hM.cell rfl
  have k2 : w2.cell? ⟨w.heap.size + 1 + 1 + 1, 2, none⟩ = some (.int .i64 0) := hM.cell rfl
  have k3 : w2.cell? ⟨w.heap.size + 1 + 1 + 1, 3, none⟩ = some (.bool false) := hM.cell rfl
  have r0 : w2.cell? ⟨w.heap.size + 1 + 1, 0, none⟩ = some (.int .u64 0) := hR.cell rfl
  have r1 : w2.cell? ⟨w.heap.size + 1 + 1, 1, none⟩ = some (.int .u64 0) := hR.cell rfl
  have r2 : w2.cell? ⟨w.heap.size + 1 + 1, 2, none⟩ = some (.int .i64 0) := hR.cell rfl
  have r3 : w2.cell? ⟨w.heap.size + 1 + 1, 3, none⟩ = some (.bool false) := hR.cell rfl
  have rf := hR.fz
  have hres := W_hid (((((Below.refl _ _).alloc (Nat.le_refl _) _).alloc (by simp) _).alloc (by simp; omega) _ |>.alloc (by simp; omega) _).trans (bel.mono (by simp; omega)))
  replace hM := W_hid hM
  replace hR := W_hid hR
  clear bel
  go_wp2
  have hZ := (((hR.out.set 0 (.int .u64 0)).set 1 (.int .u64 0)).set 2 (.int .i64 0)).set 3 (.bool false)
  refine bodyPost_ret (res_map2 Tryz.results128 _ _ rfl hZ rfl) rfl ⟨rfl, (((hres.out.setCell (by simp; omega) _).setCell (by simp; omega) _).setCell (by simp; omega) _).setCell (by simp; omega) _⟩

/-- Are Protect's arguments sound? -/
def protOk (va : Nat) (perm : Int) : Bool := decide (va < 140737488355328) && (bits BinOp.and IntKind.i64 perm 1 != 0) && (bits BinOp.andNot IntKind.i64 perm 7 == 0)

set_option maxRecDepth 100000 in
set_option maxHeartbeats 2000000 in
theorem Protect_nil (va perm : Int) (w : World) :
    Calls Tryz.prog 60 #[.pointer none, .int .u64 va, .int .i64 perm] w fun e w' => e = .returned (.int .i64 1) ∧ Below w.heap.size w w' := by
  have hmf : ∀ (fn : Fn) (first cap : Array Value) (w : World), (Instr.makeFunc fn first cap).run Tryz.prog w = .ok (.func fn first cap) w := fun _ _ _ _ => rfl
  have hD := W_hid (fun s f w => do_nil s f w)
  obtain ⟨t1, d1⟩ : ∃ t, decide (va < 140737488355328) = t := ⟨_, rfl⟩
  obtain ⟨t2, d2⟩ : ∃ t, (bits BinOp.and IntKind.i64 perm 1 != 0) = t := ⟨_, rfl⟩
  obtain ⟨t3, d3⟩ : ∃ t, (bits BinOp.andNot IntKind.i64 perm 7 == 0) = t := ⟨_, rfl⟩
  cases t1 <;> cases t2 <;> cases t3 <;>
  · go_enter Tryz.func60, Tryz.ntmps60
    go_wp2_with fail
    refine (hD.out _ _ _).mono ?_
    rintro e w2 ⟨rfl, bel⟩
    have hres := W_hid ((((Below.refl _ _).alloc (Nat.le_refl _) _).alloc (by simp) _).alloc (by simp; omega) _ |>.trans (bel.mono (by simp; omega)))
    clear bel
    go_wp2
    go_ret
    exact ⟨rfl, hres.out⟩
end Go.Proofs.YtkomahekdcaiaaaGreatDoor

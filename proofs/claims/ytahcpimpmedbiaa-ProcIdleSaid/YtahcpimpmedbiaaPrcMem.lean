/- The table of processes in memory. -/
import Derived.Test.YtahcpimpmedbiaaPrcMap
import Derived.Test.YtahcpimpmedbiaaPrcMath
import Derived.Test.YtahcpimpmedbiaaKeep
namespace Go.Proofs.Ytahcpimpmedbiaa
open Go.ChangeShapes Go.WideShapes Go.ChangeAt Go.RowKit Go.Maps
set_option linter.unusedVariables false
set_option linter.unusedSimpArgs false
namespace PC
open IS (ptr I64 Nums upd)
open IN (Keeps lt_of_some)

def prow (x : Pr) : List Value := [.int .i64 x.pid, .int .i64 x.par, .int .i64 x.st, .int .i64 x.code, .int .i64 x.nice]

theorem cmap_obj {w : World} {b : Nat} {M : Int → Option Nat} (h : CM w b M) : ∃ es c, w.heap[b]? = some (.map es c) := by
  obtain ⟨D, ⟨es, clock, hb, _⟩, _⟩ := h.ex
  exact ⟨es, clock, hb⟩
theorem cblk_map {w : World} {g b : Nat} {e : TypeId} {l : List Value} {M : Int → Option Nat} (h : Blk w g e l) (k : CM w b M) : g ≠ b := by
  intro e'
  subst e'
  obtain ⟨es, c, hm⟩ := cmap_obj k
  unfold Blk at h
  rw [h] at hm
  cases hm
theorem cblk_ne {w : World} {g b : Nat} {e f : TypeId} {l m : List Value} (h : Blk w g e l) (k : Blk w b f m) (hef : e ≠ f) : g ≠ b := by
  intro e'
  subst e'
  unfold Blk at h k
  rw [h] at k
  simp only [Option.some.injEq, Obj.cells.injEq] at k
  exact hef k.2.1

/-- The table in memory: S says which process has which number. -/
structure TM (base : Nat) (w : World) (tb mb : Nat) (M : Int → Option Nat) (N : Nat) (S : Int → Option Pr) : Prop where
  box : Blk w tb 58 [.map (some mb), .int .i64 (N : Int)]
  mp : CM w mb M
  dom : ∀ p, M p = none ↔ S p = none
  node : ∀ p g x, M p = some g → S p = some x → Blk w g 43 (prow x)
  pid : ∀ p x, S p = some x → x.pid = p
  inj : ∀ p q g, M p = some g → M q = some g → p = q
  ge : base ≤ tb ∧ base ≤ mb ∧ ∀ p g, M p = some g → base ≤ g
/-- The blocks that a table is. -/
def TX (tb mb : Nat) (M : Int → Option Nat) (k : Nat) : Prop := k = tb ∨ k = mb ∨ ∃ p, M p = some k
def updS (S : Int → Option Pr) (p : Int) (x : Option Pr) : Int → Option Pr := fun q => if q = p then x else S q
section
variable {base : Nat} {w w' : World} {tb mb : Nat} {M : Int → Option Nat} {N : Nat} {S : Int → Option Pr}
theorem TM.some' (h : TM base w tb mb M N S) {p : Int} {x : Pr} (hS : S p = some x) : ∃ g, M p = some g := by
  cases e : M p with
  | none => rw [(h.dom p).1 e] at hS; cases hS
  | some g => exact ⟨g, rfl⟩
theorem TM.some_of (h : TM base w tb mb M N S) {p : Int} {g : Nat} (hM : M p = some g) : ∃ x, S p = some x := by
  cases e : S p with
  | none => rw [(h.dom p).2 e] at hM; cases hM
  | some x => exact ⟨x, rfl⟩
theorem TM.blk (h : TM base w tb mb M N S) {p : Int} {g : Nat} (hM : M p = some g) : ∃ x, S p = some x ∧ Blk w g 43 (prow x) := by
  obtain ⟨x, hS⟩ := h.some_of hM
  exact ⟨x, hS, h.node p g x hM hS⟩
theorem TM.lt (h : TM base w tb mb M N S) {p : Int} {g : Nat} (hM : M p = some g) : g < w.heap.size := by
  obtain ⟨x, -, hb⟩ := h.blk hM
  exact hb.lt
theorem TM.tlt (h : TM base w tb mb M N S) : ∀ k, TX tb mb M k → k < w.heap.size := by
  rintro k (rfl | rfl | ⟨p, hp⟩)
  · exact h.box.lt
  · exact h.mp.lt
  · exact h.lt hp
theorem TM.low (h : TM base w tb mb M N S) : ∀ k, TX tb mb M k → base ≤ k := by
  rintro k (rfl | rfl | ⟨p, hp⟩)
  · exact h.ge.1
  · exact h.ge.2.1
  · exact h.ge.2.2 p k hp
theorem TM.base_le (h : TM base w tb mb M N S) : base ≤ w.heap.size := Nat.le_trans h.ge.1 (Nat.le_of_lt h.box.lt)
theorem TM.tm (h : TM base w tb mb M N S) : tb ≠ mb := cblk_map h.box h.mp
theorem TM.gm (h : TM base w tb mb M N S) {p : Int} {g : Nat} (hM : M p = some g) : g ≠ mb := by
  obtain ⟨x, -, hb⟩ := h.blk hM
  exact cblk_map hb h.mp
theorem TM.gt (h : TM base w tb mb M N S) {p : Int} {g : Nat} (hM : M p = some g) : g ≠ tb := by
  obtain ⟨x, -, hb⟩ := h.blk hM
  exact cblk_ne hb h.box (by decide)
theorem TM.moved (h : TM base w tb mb M N S) (hk : ∀ k, TX tb mb M k → w'.heap[k]? = w.heap[k]?) : TM base w' tb mb M N S :=
  ⟨(hk tb (.inl rfl)).trans h.box, h.mp.heap (hk mb (.inr (.inl rfl))), h.dom, fun p g x hM hS => (hk g (.inr (.inr ⟨p, hM⟩))).trans (h.node p g x hM hS), h.pid, h.inj, h.ge⟩
theorem TM.keep (h : TM base w tb mb M N S) (hb : Below w.heap.size w w') : TM base w' tb mb M N S := h.moved fun k hk => hb.block k (h.tlt k hk)
theorem TM.drew (h : TM base w tb mb M N S) (n : Nat) : TM base (w.drewN n) tb mb M N S := h.moved fun _ _ => rfl
theorem TM.drew1 (h : TM base w tb mb M N S) : TM base w.drew tb mb M N S := h.moved fun _ _ => rfl
theorem TM.keeps (h : TM base w tb mb M N S) {C : Nat} {Y : Nat → Prop} (hK : Keeps C (fun k _ => Y k) w w') (hY : ∀ k, TX tb mb M k → ¬ Y k) : TM base w' tb mb M N S :=
  h.moved fun k hk => by
    have hlt := h.tlt k hk
    obtain ⟨o, ho⟩ : ∃ o, w.heap[k]? = some o := ⟨_, Array.getElem?_eq_getElem hlt⟩
    rw [ho, hK.block k o ho (hY k hk)]
theorem TM.congr (h : TM base w tb mb M N S) {S' : Int → Option Pr} (hS : ∀ p, S p = S' p) : TM base w tb mb M N S' := by
  obtain rfl : S = S' := funext hS
  exact h
/-- A store into a process. -/
theorem TM.set (h : TM base w tb mb M N S) {p : Int} {g : Nat} {x y : Pr} (hM : M p = some g) (hS : S p = some x) (j : Nat) (u : Value) (he : (prow x).set j u = prow y) (hy : y.pid = p) :
    TM base (w.setCell ⟨g, j, none⟩ u) tb mb M N (updS S p (some y)) ∧ Keeps base (fun k _ => TX tb mb M k) w (w.setCell ⟨g, j, none⟩ u) := by
  have hb := h.node p g x hM hS
  refine ⟨⟨h.box.far (p := ⟨g, j, none⟩) (fun e => h.gt hM e.symm) u, h.mp.far (p := ⟨g, j, none⟩) (fun e => h.gm hM e.symm) u, fun q => ?_, fun q g' z hq hz => ?_, fun q z hz => ?_, h.inj, h.ge⟩, ?_⟩
  · unfold updS
    by_cases e : q = p
    · subst e; rw [if_pos rfl, hM]; simp
    · rw [if_neg e]; exact h.dom q
  · unfold updS at hz
    by_cases e : q = p
    · subst e
      rw [if_pos rfl] at hz
      cases hz
      rw [hM] at hq
      cases hq
      have := hb.set j u
      rw [he] at this
      exact this
    · rw [if_neg e] at hz
      exact (h.node q g' z hq hz).far (p := ⟨g, j, none⟩) (fun e' => e (h.inj q p g (by have e2 : g' = g := e'; rw [← e2]; exact hq) hM)) u
  · unfold updS at hz
    by_cases e : q = p
    · rw [if_pos e] at hz; cases hz; rw [hy, e]
    · rw [if_neg e] at hz; exact h.pid q z hz
  · exact (Keeps.refl base _ w).setCell (p := ⟨g, j, none⟩) hb (.inr (.inr ⟨p, hM⟩)) (h.ge.2.2 p g hM) u
/-- A process more. -/
theorem TM.put (h : TM base w tb mb M N S) {p : Int} {x : Pr} (hx : x.pid = p) {w2 : World} {g : Nat} (hg : g = w.heap.size) (hp : S p = none) (hm : CM w2 mb (upd M p (some g))) (hgr : (w.alloc (.cells (prow x).toArray 43)).grownBy w2 (some mb)) :
    TM base w2 tb mb (upd M p (some g)) N (updS S p (some x)) ∧ Keeps base (fun k _ => TX tb mb M k) w w2 ∧ ∀ k, TX tb mb (upd M p (some g)) k → TX tb mb M k ∨ w.heap.size ≤ k := by
  have hA : Below w.heap.size w (w.alloc (.cells (prow x).toArray 43)) := (Below.refl _ _).alloc (Nat.le_refl _) _
  have hML := h.mp.lt
  have ha := h.keep hA
  have hne : ∀ q g', M q = some g' → g' ≠ g := fun q g' hq => by have := h.lt hq; omega
  have hnew : Blk (w.alloc (.cells (prow x).toArray 43)) g 43 (prow x) := Blk.new w _ _ hg
  refine ⟨⟨ha.box.grown hgr (by simpa using h.tm), hm, fun q => ?_, fun q g' z hq hz => ?_, fun q z hz => ?_, fun q r g' hq hr => ?_, h.ge.1, h.ge.2.1, fun q g' hq => ?_⟩, ?_, ?_⟩
  · unfold updS upd
    by_cases e : q = p
    · simp [e]
    · simp only [if_neg e]; exact h.dom q
  · unfold updS at hz
    unfold upd at hq
    by_cases e : q = p
    · rw [if_pos e] at hz hq
      cases hz; cases hq
      exact hnew.grown hgr (by intro e'; cases e'; omega)
    · rw [if_neg e] at hz hq
      exact (ha.node q g' z hq hz).grown hgr (by have := h.gm hq; simpa using this)
  · unfold updS at hz
    by_cases e : q = p
    · rw [if_pos e] at hz; cases hz; rw [hx, e]
    · rw [if_neg e] at hz; exact h.pid q z hz
  · unfold upd at hq hr
    by_cases e1 : q = p <;> by_cases e2 : r = p
    · rw [e1, e2]
    · rw [if_pos e1] at hq; rw [if_neg e2] at hr; cases hq; exact absurd rfl (hne r _ hr)
    · rw [if_neg e1] at hq; rw [if_pos e2] at hr; cases hr; exact absurd rfl (hne q _ hq)
    · rw [if_neg e1] at hq; rw [if_neg e2] at hr; exact h.inj q r g' hq hr
  · unfold upd at hq
    by_cases e : q = p
    · rw [if_pos e] at hq; cases hq; rw [hg]; exact h.base_le
    · rw [if_neg e] at hq; exact h.ge.2.2 q g' hq
  · obtain ⟨es, c, hobj⟩ := cmap_obj ha.mp
    exact (Keeps.new hA h.base_le).grown hobj (.inr (.inl rfl)) h.ge.2.1 hgr
  · rintro k (rfl | rfl | ⟨q, hq⟩)
    · exact .inl (.inl rfl)
    · exact .inl (.inr (.inl rfl))
    · unfold upd at hq
      by_cases e : q = p
      · rw [if_pos e] at hq; cases hq; right; omega
      · rw [if_neg e] at hq; exact .inl (.inr (.inr ⟨q, hq⟩))
/-- A process less. -/
theorem TM.del (h : TM base w tb mb M N S) {p : Int} {w2 : World} (hm : CM w2 mb (upd M p none)) (hgr : w.grownBy w2 (some mb)) :
    TM base w2 tb mb (upd M p none) N (updS S p none) ∧ Keeps base (fun k _ => TX tb mb M k) w w2 ∧ ∀ k, TX tb mb (upd M p none) k → TX tb mb M k := by
  refine ⟨⟨h.box.grown hgr (by simpa using h.tm), hm, fun q => ?_, fun q g' z hq hz => ?_, fun q z hz => ?_, fun q r g' hq hr => ?_, h.ge.1, h.ge.2.1, fun q g' hq => ?_⟩, ?_, ?_⟩
  · unfold updS upd
    by_cases e : q = p
    · simp [e]
    · simp only [if_neg e]; exact h.dom q
  · unfold updS at hz
    unfold upd at hq
    by_cases e : q = p
    · rw [if_pos e] at hz; cases hz
    · rw [if_neg e] at hz hq
      exact (h.node q g' z hq hz).grown hgr (by have := h.gm hq; simpa using this)
  · unfold updS at hz
    by_cases e : q = p
    · rw [if_pos e] at hz; cases hz
    · rw [if_neg e] at hz; exact h.pid q z hz
  · unfold upd at hq hr
    by_cases e1 : q = p
    · rw [if_pos e1] at hq; cases hq
    · by_cases e2 : r = p
      · rw [if_pos e2] at hr; cases hr
      · rw [if_neg e1] at hq; rw [if_neg e2] at hr; exact h.inj q r g' hq hr
  · unfold upd at hq
    by_cases e : q = p
    · rw [if_pos e] at hq; cases hq
    · rw [if_neg e] at hq; exact h.ge.2.2 q g' hq
  · obtain ⟨es, c, hobj⟩ := cmap_obj h.mp
    exact (Keeps.refl base _ w).grown hobj (.inr (.inl rfl)) h.ge.2.1 hgr
  · rintro k (rfl | rfl | ⟨q, hq⟩)
    · exact .inl rfl
    · exact .inr (.inl rfl)
    · unfold upd at hq
      by_cases e : q = p
      · rw [if_pos e] at hq; cases hq
      · rw [if_neg e] at hq; exact .inr (.inr ⟨q, hq⟩)
/-- How many. -/
theorem TM.nums {L : List Pr} (h : TM base w tb mb M N (get L)) (ha : Asc L) (h1 : ∀ x ∈ L, 1 ≤ x.pid) : Nums M (L.map fun x => x.pid.toNat) := by
  refine ⟨?_, fun f => ?_⟩
  · unfold List.Nodup
    rw [List.pairwise_map]
    refine ha.imp_of_mem ?_
    intro a b hma hmb hab
    have := h1 a hma
    have := h1 b hmb
    omega
  · rw [List.mem_map]
    constructor
    · rintro ⟨x, hx, rfl⟩
      have h2 := h1 x hx
      rw [Int.toNat_of_nonneg (by omega)]
      intro e
      rw [h.dom, get_none] at e
      exact e x hx rfl
    · intro hM
      cases e : get L (f : Int) with
      | none => exact absurd ((h.dom _).2 e) hM
      | some x =>
        obtain ⟨hx, hp⟩ := get_some e
        exact ⟨x, hx, by rw [hp]; simp⟩
end
/-- What lists become, by numbers. -/
theorem get_spawn {L : List Pr} (ha : Asc L) (h1 : ∀ x ∈ L, 1 ≤ x.pid) (par nice : Int) (q : Int) : get (spawnL L par nice) q = updS (get L) ((low L : Int) + 1) (some (newP L par nice)) q := by
  have hs := asc_spawn ha h1 par nice
  unfold updS
  by_cases e : q = (low L : Int) + 1
  · rw [if_pos e, get_iff hs]
    exact ⟨mem_spawn.2 (.inl rfl), by rw [e]; rfl⟩
  · rw [if_neg e]
    refine get_of ha fun x hx => ⟨fun h => ?_, fun h => mem_spawn.2 (.inr h)⟩
    rcases mem_spawn.1 h with rfl | h
    · exact absurd hx.symm e
    · exact h
theorem get_drop {L : List Pr} (ha : Asc L) (p q : Int) : get (dropL L p) q = updS (get L) p none q := by
  unfold updS
  by_cases e : q = p
  · rw [if_pos e, get_none]
    intro x hx
    rw [e]
    exact (mem_drop.1 hx).2
  · rw [if_neg e]
    refine get_of ha fun x hx => ⟨fun h => (mem_drop.1 h).1, fun h => mem_drop.2 ⟨h, by rw [hx]; exact e⟩⟩
theorem get_nice {L : List Pr} {p n : Int} {x : Pr} (hx : get L p = some x) (q : Int) : get (niceL L p n) q = updS (get L) p (some { x with nice := n }) q := by
  unfold niceL
  rw [get_map (setNice_pid p n)]
  unfold updS
  by_cases e : q = p
  · rw [if_pos e, e, hx]
    have := (get_some hx).2
    simp [setNice, this]
  · rw [if_neg e]
    cases hq : get L q with
    | none => rfl
    | some y =>
      have := (get_some hq).2
      simp [setNice, this, e]
end PC
end Go.Proofs.Ytahcpimpmedbiaa

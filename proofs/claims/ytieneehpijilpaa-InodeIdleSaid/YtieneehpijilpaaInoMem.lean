/- The store of inodes in memory: what a call may touch, by the types of blocks; extents, inodes, the store. -/
import Derived.Test.YtieneehpijilpaaInoMap
import Derived.Test.YtieneehpijilpaaExtWrite
namespace Go.Proofs.Ytieneehpijilpaa
open Go.ChangeShapes Go.WideShapes Go.ChangeAt Go.RowKit Go.Maps
set_option linter.unusedVariables false
set_option linter.unusedSimpArgs false
namespace IN

/-- What an inode is. -/
structure Nd where
  kind : Int
  links : Int
  opens : Int
  size : Int
  l : List (Int × ByteArray)
def upd (S : Int → Option Nd) (n : Int) (x : Option Nd) : Int → Option Nd := fun m => if m = n then x else S m
theorem upd_at (S : Int → Option Nd) (n : Int) (x : Option Nd) : upd S n x n = x := if_pos rfl
theorem upd_ne {S : Int → Option Nd} {n m : Int} {x : Option Nd} (h : m ≠ n) : upd S n x m = S m := if_neg h
theorem upd_upd (S : Int → Option Nd) (n : Int) (x y : Option Nd) : upd (upd S n x) n y = upd S n y := by
  funext m; unfold upd; split <;> rfl

/-- All blocks below B, and all that are not of the kinds T, are as they were. -/
structure Keeps (B : Nat) (T : Obj → Prop) (w w' : World) : Prop where
  os : w'.os = w.os
  tape : w'.tape = w.tape
  output : w'.output = w.output
  size : w.heap.size ≤ w'.heap.size
  low : ∀ (k : Nat), k < B → w'.heap[k]? = w.heap[k]?
  block : ∀ (k : Nat) (o : Obj), w.heap[k]? = some o → ¬ T o → w'.heap[k]? = some o
section
variable {w w' w2 : World} {B : Nat} {T : Obj → Prop}
theorem Keeps.refl (B : Nat) (T : Obj → Prop) (w : World) : Keeps B T w w := ⟨rfl, rfl, rfl, Nat.le_refl _, fun _ _ => rfl, fun _ _ h _ => h⟩
theorem Keeps.trans (h : Keeps B T w w') (k : Keeps B T w' w2) : Keeps B T w w2 :=
  ⟨k.os.trans h.os, k.tape.trans h.tape, k.output.trans h.output, Nat.le_trans h.size k.size, fun i hi => (k.low i hi).trans (h.low i hi), fun i o ho hT => k.block i o (h.block i o ho hT) hT⟩
theorem lt_of_some {w : World} {k : Nat} {o : Obj} (h : w.heap[k]? = some o) : k < w.heap.size := by
  rcases Nat.lt_or_ge k w.heap.size with hlt | hge
  · exact hlt
  · rw [Array.getElem?_eq_none hge] at h; cases h
theorem Keeps.of {C : Nat} (h : Below C w w') (hB : B ≤ C) (hC : w.heap.size ≤ C) : Keeps B T w w' :=
  ⟨h.os, h.tape, h.output, h.size, fun k hk => h.block k (by omega), fun k o ho _ => (h.block k (Nat.lt_of_lt_of_le (lt_of_some ho) hC)).trans ho⟩
theorem Keeps.new (h : Below w.heap.size w w') (hB : B ≤ w.heap.size) : Keeps B T w w' := Keeps.of h hB (Nat.le_refl _)
theorem Keeps.drew (h : Keeps B T w w') (n : Nat) : Keeps B T w (w'.drewN n) := ⟨h.os, h.tape, h.output, h.size, h.low, h.block⟩
theorem Keeps.drew1 (h : Keeps B T w w') : Keeps B T w w'.drew := ⟨h.os, h.tape, h.output, h.size, h.low, h.block⟩
theorem Keeps.undrew (h : Keeps B T w.drew w') : Keeps B T w w' := ⟨h.os, h.tape, h.output, h.size, h.low, h.block⟩
theorem Keeps.alloc (h : Keeps B T w w') (hB : B ≤ w.heap.size) (o : Obj) : Keeps B T w (w'.alloc o) :=
  h.trans (Keeps.new ((Below.refl _ _).alloc (Nat.le_refl _) o) (Nat.le_trans hB h.size))
theorem Keeps.setCell (h : Keeps B T w w') {p : Addr} {o : Obj} (ho : w'.heap[p.block]? = some o) (hT : T o) (hB : B ≤ p.block) (u : Value) : Keeps B T w (w'.setCell p u) :=
  h.trans ⟨rfl, rfl, rfl, by simp [World.setCell], fun k hk => Below.heap_setCell _ _ _ _ (by omega), fun k o' ho' hT' => by
    rw [Below.heap_setCell _ _ _ _ (fun e => hT' (by subst e; rw [ho] at ho'; cases ho'; exact hT))]
    exact ho'⟩
theorem Keeps.grown (h : Keeps B T w w') {b : Nat} {o : Obj} (ho : w'.heap[b]? = some o) (hT : T o) (hB : B ≤ b) (hg : w'.grownBy w2 (some b)) : Keeps B T w w2 :=
  h.trans ⟨hg.os, hg.tape, hg.output, hg.size, fun k hk => hg.block k (Nat.lt_trans hk (by have := lt_of_some ho; omega)) (by intro e; cases e; omega), fun k o' ho' hT' => by
    rw [hg.block k (lt_of_some ho') (by intro e; cases e; rw [ho] at ho'; cases ho'; exact hT' hT)]
    exact ho'⟩
theorem Keeps.below (h : Keeps B T w w') {C : Nat} (hC : C ≤ B) : Below C w w' := ⟨h.os, h.tape, h.output, h.size, fun k hk => h.low k (by omega)⟩
theorem Keeps.mono (h : Keeps B T w w') {C : Nat} (hC : C ≤ B) : Keeps C T w w' := ⟨h.os, h.tape, h.output, h.size, fun k hk => h.low k (by omega), h.block⟩
end

/-- What the program's calls write into: stores, inodes, maps. -/
def PT (o : Obj) : Prop := (∃ c s, o = .cells c 57 s) ∨ (∃ c s, o = .cells c 74 s) ∨ ∃ es c, o = .map es c

/-- A slice value that reads as extents, in a block of extents. -/
def XE (w : World) (v : Value) (l : List (Int × ByteArray)) : Prop := ∃ ao n c, v = .slice ao n c ∧ XS w ao n c l ∧ ∀ a, ao = some a → ∃ cur, w.heap[a.block]? = some (.cells cur 94 (0, 0))
section
variable {w w' : World} {v : Value} {l : List (Int × ByteArray)}
theorem XE.move (h : XE w v l) (hk : ∀ (b : Nat) cur, w.heap[b]? = some (.cells cur 94 (0, 0)) → w'.heap[b]? = w.heap[b]?) : XE w' v l := by
  obtain ⟨ao, n, c, rfl, hx, ht⟩ := h
  refine ⟨ao, n, c, rfl, ⟨hx.1, hx.2.1, hx.2.2.1, hx.2.2.2.1, fun a ha j u hu => ?_⟩, fun a ha => ?_⟩
  · have hc := hx.2.2.2.2 a ha j u hu
    obtain ⟨cur, hb⟩ := ht a ha
    have ea : (a.add j).block = a.block := by
      unfold Addr.add
      split <;> rfl
    rw [World.cell?_of_block (w := w) (w' := w') (a := a.add j) (by rw [ea]; exact hk _ cur hb)]
    exact hc
  · obtain ⟨cur, hb⟩ := ht a ha
    exact ⟨cur, (hk _ cur hb).trans hb⟩
theorem XE.keeps (h : XE w v l) {B : Nat} {T : Obj → Prop} (hK : Keeps B T w w') (hT : ∀ c, ¬ T (.cells c 94 (0, 0))) : XE w' v l :=
  h.move fun b cur hb => (hK.block b _ hb (hT cur)).trans hb.symm
theorem XE.keep (h : XE w v l) (hb : Below w.heap.size w w') : XE w' v l := h.move fun b cur hc => hb.block b (lt_of_some hc)
theorem XE.alloc (h : XE w v l) (o : Obj) : XE (w.alloc o) v l := h.keep ((Below.refl _ _).alloc (Nat.le_refl _) o)
theorem XE.drew (h : XE w v l) (n : Nat) : XE (w.drewN n) v l := h
theorem XE.nil (w : World) : XE w (.slice none 0 0) [] := ⟨none, 0, 0, rfl, XS.nil w, fun _ h => by cases h⟩
theorem XE.own {base : Nat} (h : w.ownsRow base 94 2 v l.length (ecl l)) : XE w v l := by
  obtain ⟨ao, c, rfl⟩ := Own.form h
  refine ⟨ao, _, c, rfl, XS_own h, fun a ha => ?_⟩
  subst ha
  rcases h.2 with ⟨h', _⟩ | ⟨g, cap, cur, h', _, hg, _⟩
  · simp at h'
  · simp only [Value.slice.injEq, Option.some.injEq] at h'
    obtain ⟨rfl, -, rfl⟩ := h'
    exact ⟨cur, hg⟩
end

/-- An inode's cells. -/
def ncl (d : Nd) (v : Value) : List Value := [.int .i64 d.kind, .int .i64 d.links, .int .i64 d.opens, .int .i64 d.size, v]
/-- Block g holds inode d. -/
def NB (w : World) (g : Nat) (d : Nd) (v : Value) : Prop := Blk w g 74 (ncl d v) ∧ XE w v d.l

theorem blk_ne {w : World} {g b : Nat} {e f : TypeId} {l m : List Value} (h : Blk w g e l) (k : Blk w b f m) (hef : e ≠ f) : g ≠ b := by
  intro e'
  subst e'
  unfold Blk at h k
  rw [h] at k
  simp only [Option.some.injEq, Obj.cells.injEq] at k
  exact hef k.2.1
theorem map_obj {w : World} {b : Nat} {M : Int → Option Nat} (h : IS.MB w b M) : ∃ es c, w.heap[b]? = some (.map es c) := by
  obtain ⟨D, ⟨es, clock, hb, _⟩, _⟩ := h.ex
  exact ⟨es, clock, hb⟩
theorem blk_map {w : World} {g b : Nat} {e : TypeId} {l : List Value} {M : Int → Option Nat} (h : Blk w g e l) (k : IS.MB w b M) : g ≠ b := by
  intro e'
  subst e'
  obtain ⟨es, c, hm⟩ := map_obj k
  unfold Blk at h
  rw [h] at hm
  cases hm

/-- The store in memory. -/
structure PM (base : Nat) (w : World) (sg mb : Nat) (M : Int → Option Nat) (I L left : Int) (S : Int → Option Nd) : Prop where
  box : Blk w sg 57 [.map (some mb), .int .i64 I, .int .i64 L, .int .i64 left]
  mp : IS.MB w mb M
  dom : ∀ n, M n = none ↔ S n = none
  node : ∀ n g d, M n = some g → S n = some d → ∃ v, NB w g d v
  inj : ∀ n m g, M n = some g → M m = some g → n = m
  ge : base ≤ sg ∧ base ≤ mb ∧ ∀ n g, M n = some g → base ≤ g
section
variable {base : Nat} {w w' : World} {sg mb : Nat} {M : Int → Option Nat} {I L left : Int} {S : Int → Option Nd}
theorem PM.moved (h : PM base w sg mb M I L left S) (h1 : w'.heap[sg]? = w.heap[sg]?) (h2 : w'.heap[mb]? = w.heap[mb]?) (h3 : ∀ n g, M n = some g → w'.heap[g]? = w.heap[g]?) (h4 : ∀ (b : Nat) (cur : Array Value), w.heap[b]? = some (.cells cur 94 (0, 0)) → w'.heap[b]? = w.heap[b]?) : PM base w' sg mb M I L left S :=
  ⟨h1.trans h.box, h.mp.heap h2, h.dom, fun n g d hM hS => by
    obtain ⟨v, hb, hx⟩ := h.node n g d hM hS
    exact ⟨v, (h3 n g hM).trans hb, hx.move h4⟩, h.inj, h.ge⟩
theorem PM.glt (h : PM base w sg mb M I L left S) {n : Int} {g : Nat} (hM : M n = some g) : g < w.heap.size := by
  cases hS : S n with
  | none => rw [(h.dom n).2 hS] at hM; cases hM
  | some d => obtain ⟨v, hb, _⟩ := h.node n g d hM hS; exact hb.lt
theorem PM.keep (h : PM base w sg mb M I L left S) (hb : Below w.heap.size w w') : PM base w' sg mb M I L left S :=
  h.moved (hb.block _ h.box.lt) (hb.block _ h.mp.lt) (fun n g hM => hb.block _ (h.glt hM)) (fun b cur hc => hb.block _ (lt_of_some hc))
theorem PM.drew (h : PM base w sg mb M I L left S) (n : Nat) : PM base (w.drewN n) sg mb M I L left S := h.moved rfl rfl (fun _ _ _ => rfl) (fun _ _ _ => rfl)
theorem PM.drew1 (h : PM base w sg mb M I L left S) : PM base w.drew sg mb M I L left S := h.moved rfl rfl (fun _ _ _ => rfl) (fun _ _ _ => rfl)
theorem PM.alloc (h : PM base w sg mb M I L left S) (o : Obj) : PM base (w.alloc o) sg mb M I L left S := h.keep ((Below.refl _ _).alloc (Nat.le_refl _) o)
/-- Other calls' work. -/
theorem PM.keeps (h : PM base w sg mb M I L left S) {B : Nat} {T : Obj → Prop} (hK : Keeps B T w w') (h1 : ∀ c s, ¬ T (.cells c 57 s)) (h2 : ∀ c s, ¬ T (.cells c 74 s)) (h3 : ∀ es c, ¬ T (.map es c)) (h4 : ∀ c, ¬ T (.cells c 94 (0, 0))) : PM base w' sg mb M I L left S := by
  obtain ⟨es, c, hm⟩ := map_obj h.mp
  refine h.moved ((hK.block _ _ h.box (h1 _ _)).trans (Eq.symm h.box)) ((hK.block _ _ hm (h3 _ _)).trans hm.symm) (fun n g hM => ?_) (fun b cur hb => (hK.block b _ hb (h4 cur)).trans hb.symm)
  cases hS : S n with
  | none => rw [(h.dom n).2 hS] at hM; cases hM
  | some d =>
    obtain ⟨v, hb, _⟩ := h.node n g d hM hS
    exact (hK.block _ _ hb (h2 _ _)).trans (Eq.symm hb)
theorem PM.has (h : PM base w sg mb M I L left S) {n : Int} {d : Nd} (hS : S n = some d) : ∃ g v, M n = some g ∧ NB w g d v ∧ base ≤ g ∧ g ≠ sg ∧ g ≠ mb := by
  cases hM : M n with
  | none => rw [(h.dom n).1 hM] at hS; cases hS
  | some g =>
    obtain ⟨v, hN⟩ := h.node n g d hM hS
    exact ⟨g, v, rfl, hN, h.ge.2.2 n g hM, blk_ne hN.1 h.box (by decide), blk_map hN.1 h.mp⟩

/-- A store into an inode. -/
theorem PM.setNode (h : PM base w sg mb M I L left S) {n : Int} {g : Nat} {d d' : Nd} {v v' : Value} (hM : M n = some g) (hS : S n = some d) (hb : Blk w g 74 (ncl d v)) (hx : XE w v' d'.l) (j : Nat) (u : Value) (he : (ncl d v).set j u = ncl d' v') :
    PM base (w.setCell ⟨g, j, none⟩ u) sg mb M I L left (upd S n (some d')) ∧ NB (w.setCell ⟨g, j, none⟩ u) g d' v' ∧ Keeps base PT w (w.setCell ⟨g, j, none⟩ u) := by
  have hgs : sg ≠ g := (blk_ne hb h.box (by decide)).symm
  have hgm : mb ≠ g := (blk_map hb h.mp).symm
  have hext : ∀ (b : Nat) (cur : Array Value), w.heap[b]? = some (.cells cur 94 (0, 0)) → (w.setCell ⟨g, j, none⟩ u).heap[b]? = w.heap[b]? := fun b cur hc => Below.heap_setCell _ _ _ _ (fun e => by
    have e' : b = g := e
    subst e'
    unfold Blk at hb
    rw [hb] at hc
    simp only [Option.some.injEq, Obj.cells.injEq] at hc
    exact absurd hc.2.1 (by decide))
  have hnew : Blk (w.setCell ⟨g, j, none⟩ u) g 74 (ncl d' v') := by
    have := hb.set j u
    rw [he] at this
    exact this
  refine ⟨⟨h.box.far hgs u, h.mp.far hgm u, fun m => ?_, fun m g' d'' hM' hS' => ?_, h.inj, h.ge⟩, ⟨hnew, hx.move hext⟩, (Keeps.refl base PT w).setCell (p := ⟨g, j, none⟩) (o := .cells (ncl d v).toArray 74 (0, 0)) hb (.inr (.inl ⟨_, _, rfl⟩)) (h.ge.2.2 n g hM) u⟩
  · by_cases e : m = n
    · subst e; rw [upd_at, hM]; simp
    · rw [upd_ne e]; exact h.dom m
  · by_cases e : m = n
    · subst e
      rw [upd_at] at hS'
      cases hS'
      rw [hM] at hM'
      cases hM'
      exact ⟨v', hnew, hx.move hext⟩
    · rw [upd_ne e] at hS'
      obtain ⟨v'', hb', hx'⟩ := h.node m g' d'' hM' hS'
      exact ⟨v'', hb'.far (p := ⟨g, j, none⟩) (fun e' => e (h.inj m n g (by have e2 : g' = g := e'; rw [← e2]; exact hM') hM)) u, hx'.move hext⟩
/-- A store into the count of bytes that are left. -/
theorem PM.setLeft (h : PM base w sg mb M I L left S) (x : Int) : PM base (w.setCell ⟨sg, 3, none⟩ (.int .i64 x)) sg mb M I L x S ∧ Keeps base PT w (w.setCell ⟨sg, 3, none⟩ (.int .i64 x)) := by
  have hext : ∀ (b : Nat) (cur : Array Value), w.heap[b]? = some (.cells cur 94 (0, 0)) → (w.setCell ⟨sg, 3, none⟩ (.int .i64 x)).heap[b]? = w.heap[b]? := fun b cur hc => Below.heap_setCell _ _ _ _ (fun e => by
    have e' : b = sg := e
    subst e'
    have hb := h.box
    unfold Blk at hb
    rw [hb] at hc
    simp only [Option.some.injEq, Obj.cells.injEq] at hc
    exact absurd hc.2.1 (by decide))
  refine ⟨⟨h.box.set 3 _, h.mp.far (blk_map h.box h.mp).symm _, h.dom, fun n g d hM hS => ?_, h.inj, h.ge⟩, (Keeps.refl base PT w).setCell (p := ⟨sg, 3, none⟩) (o := .cells [Value.map (some mb), .int .i64 I, .int .i64 L, .int .i64 left].toArray 57 (0, 0)) h.box (.inl ⟨_, _, rfl⟩) h.ge.1 _⟩
  obtain ⟨v, hb, hx⟩ := h.node n g d hM hS
  exact ⟨v, hb.far (blk_ne hb h.box (by decide)) _, hx.move hext⟩
/-- The map turned. -/
theorem PM.turn (h : PM base w sg mb M I L left S) {M' : Int → Option Nat} (hm : IS.MB w' mb M') (hg : w.grownBy w' (some mb)) (S' : Int → Option Nd) (hd : ∀ n, M' n = none ↔ S' n = none)
    (hn : ∀ n g d, M' n = some g → S' n = some d → (M n = some g ∧ S n = some d) ∨ ∃ v, NB w g d v ∧ base ≤ g) (hi : ∀ n m g, M' n = some g → M' m = some g → n = m) : PM base w' sg mb M' I L left S' ∧ Keeps base PT w w' := by
  obtain ⟨es, c, hmo⟩ := map_obj h.mp
  have hext : ∀ (b : Nat) (cur : Array Value), w.heap[b]? = some (.cells cur 94 (0, 0)) → w'.heap[b]? = w.heap[b]? := fun b cur hc => hg.block b (lt_of_some hc) (fun e => by cases e; rw [hmo] at hc; cases hc)
  have hmv : ∀ {g : Nat} {d : Nd} {v : Value}, NB w g d v → NB w' g d v := fun {g d v} k => ⟨k.1.grown hg (fun e => blk_map k.1 h.mp (Option.some.inj e)), k.2.move hext⟩
  refine ⟨⟨h.box.grown hg (fun e => blk_map h.box h.mp (Option.some.inj e)), hm, hd, fun n g d hM hS => ?_, hi, h.ge.1, h.ge.2.1, fun n g hM => ?_⟩, (Keeps.refl _ _ _).grown hmo (.inr (.inr ⟨_, _, rfl⟩)) h.ge.2.1 hg⟩
  · rcases hn n g d hM hS with ⟨h1, h2⟩ | ⟨v, h1, _⟩
    · obtain ⟨v, hN⟩ := h.node n g d h1 h2
      exact ⟨v, hmv hN⟩
    · exact ⟨v, hmv h1⟩
  · cases hS : S' n with
    | none => rw [(hd n).2 hS] at hM; cases hM
    | some d =>
      rcases hn n g d hM hS with ⟨h1, h2⟩ | ⟨v, _, h1⟩
      · exact h.ge.2.2 n g h1
      · exact h1
end
end IN
end Go.Proofs.Ytieneehpijilpaa

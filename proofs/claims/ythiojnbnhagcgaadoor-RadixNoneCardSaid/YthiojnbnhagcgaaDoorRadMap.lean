/- The map of tables in memory: a block that is a map of numbers to tables of 512 words. -/
import Derived.Test.YthiojnbnhagcgaaDoorBlk
import Derived.Maps.OwnSet
import Derived.Maps.RangeWalk
import Derived.Carry
namespace Go.Proofs.YthiojnbnhagcgaaDoor
open Go.ChangeShapes Go.WideShapes Go.ChangeAt Go.RowKit Go.Maps
open Go.WideElems (Fit rd rg pl rd_val rd_key rg_of)
set_option linter.unusedVariables false
set_option linter.unusedSimpArgs false

/-- A table's words, as cells. -/
def tw (ws : Nat → Nat) : List Value := (List.range 512).map fun i => .int .u64 ((ws i : Nat) : Int)
theorem tw_len (ws : Nat → Nat) : (tw ws).length = 512 := by simp [tw]
theorem tw_get (ws : Nat → Nat) (i : Nat) (hi : i < 512) : (tw ws)[i]? = some (.int .u64 ((ws i : Nat) : Int)) := by simp [tw, hi]
theorem tw_congr {ws vs : Nat → Nat} (h : ∀ i, i < 512 → ws i = vs i) : tw ws = tw vs := by
  unfold tw
  exact List.map_congr_left fun i hi => by rw [h i (List.mem_range.1 hi)]
def wset (ws : Nat → Nat) (i v : Nat) : Nat → Nat := fun j => if j = i then v else ws j
theorem tw_set (ws : Nat → Nat) (i v : Nat) (hi : i < 512) : (tw ws).set i (.int .u64 (v : Int)) = tw (wset ws i v) := by
  apply List.ext_getElem?
  intro j
  rw [List.getElem?_set]
  by_cases hj : j < 512
  · rw [tw_get (wset ws i v) j hj]
    by_cases e : i = j
    · subst e
      rw [if_pos rfl, if_pos (by rw [tw_len]; exact hi)]
      simp [wset]
    · rw [if_neg e, tw_get _ _ hj]
      simp [wset, Ne.symm e]
  · have e1 : (tw (wset ws i v))[j]? = none := by rw [List.getElem?_eq_none]; rw [tw_len]; omega
    rw [e1, if_neg (by omega), List.getElem?_eq_none]
    rw [tw_len]; omega
def zero : Nat → Nat := fun _ => 0

/-- How a table reads. -/
def litOf : Value → DataW Unit
  | .int k a => .lit (.int k a)
  | _ => .nil
def TR : Value → Option (DataW Unit × List MemPlace)
  | .agg vs => some (.agg (vs.toList.map litOf), [])
  | _ => none
theorem lit_inv : ∀ {vs : List Value} {zs : List Int}, vs.map litOf = zs.map (fun a => .lit (.int .u64 a)) → vs = zs.map (.int .u64 ·)
  | [], [], _ => rfl
  | [], _ :: _, h => by simp at h
  | _ :: _, [], h => by simp at h
  | v :: vs, a :: zs, h => by
    simp only [List.map_cons, List.cons.injEq] at h
    have h1 : v = .int .u64 a := by
      cases v <;> simp [litOf] at h
      obtain ⟨⟨rfl, rfl⟩, -⟩ := h
      rfl
    rw [List.map_cons, h1, lit_inv h.2]
def td (ws : Nat → Nat) : DataW Unit := .agg ((tw ws).map litOf)
theorem TR_tw (ws : Nat → Nat) : TR (.agg (tw ws).toArray) = some (td ws, []) := by simp [TR, td]
theorem TR_inv {v : Value} {ws : Nat → Nat} {ps : List MemPlace} (h : TR v = some (td ws, ps)) : v = .agg (tw ws).toArray := by
  cases v <;> simp [TR] at h
  rename_i vs
  obtain ⟨h, -⟩ := h
  simp only [td, DataW.agg.injEq] at h
  have e : (tw ws).map litOf = ((List.range 512).map fun i => ((ws i : Nat) : Int)).map (fun a => .lit (.int .u64 a)) := by
    simp [tw, litOf, Function.comp_def]
  rw [e] at h
  have := lit_inv h
  have e2 : tw ws = ((List.range 512).map fun i => ((ws i : Nat) : Int)).map (.int .u64 ·) := by simp [tw, Function.comp_def]
  rw [e2, ← this]

theorem und_map : Tryd.prog.underlying 51 = some (.map 22 50) := by kernel_rfl
theorem und_u64 : Tryd.prog.underlying 22 = some (.int .u64) := by kernel_rfl
theorem keyed_u64 : Keyed Tryd.prog 22 := int_keyed und_u64
def key (f : Nat) : Lit := .int .u64 (f : Int)
theorem wf_u64 {f : Nat} (h : f < 18446744073709551616) : (Lit.int .u64 (f : Int)).wf = true := by simp [Lit.wf, IntKind.min, IntKind.max, IntKind.signed, IntKind.bits]; omega
theorem wf_u64_bounds {x : Int} (h : (Lit.int .u64 x).wf = true) : 0 ≤ x ∧ x < 18446744073709551616 := by
  simp [Lit.wf, IntKind.min, IntKind.max, IntKind.signed, IntKind.bits] at h; omega
theorem key_of (f : Nat) (h : f < 18446744073709551616) : keyOf Tryd.prog 22 (.int .u64 (f : Int)) = some (key f) := keyOf_int_mk und_u64 (wf_u64 h)
theorem key_ne {f g : Nat} (h : f ≠ g) : key f ≠ key g := by
  intro e
  simp only [key, Lit.int.injEq, true_and] at e
  omega
theorem isKey (f : Nat) (h : f < 18446744073709551616) : WideAt.IsKeyLit (key f) := keyed_u64.key (key_of f h)
theorem zero_table (w : World) : (zeroValue 50).run Tryd.prog w = .ok (.agg (tw zero).toArray) w := by kernel_rfl

theorem nodup_le : ∀ (N : Nat) (l : List Nat), l.Nodup → (∀ x ∈ l, x < N) → l.length ≤ N
  | 0, l, _, h => by
    cases l with
    | nil => simp
    | cons a l => have := h a (by simp); omega
  | N + 1, l, hn, h => by
    by_cases hm : N ∈ l
    · have h1 := nodup_le N (l.erase N) (hn.erase N) (fun x hx => by
        have := (hn.mem_erase_iff).1 hx
        have := h x this.2
        omega)
      rw [List.length_erase_of_mem hm] at h1
      omega
    · have := nodup_le N l hn (fun x hx => by
        have h2 := h x hx
        have : x ≠ N := fun e => hm (e ▸ hx)
        omega)
      omega

/-- Block b is a map of these tables. -/
structure MB (w : World) (b : Nat) (M : Nat → Option (Nat → Nat)) : Prop where
  ex : ∃ D : DataW Unit, w.ownsMap Tryd.prog 22 TR b (Maps.size D) D ∧ (∀ f, f < 18446744073709551616 → Maps.has D (key f) = (M f).isSome) ∧ (∀ f ws, f < 18446744073709551616 → M f = some ws → ∀ z, D.atKey (key f) z = td ws)
  bound : ∀ f, M f ≠ none → f < 65536

section
variable {w w' : World} {b : Nat} {M : Nat → Option (Nat → Nat)}

theorem own_tight {n : Nat} {D : DataW Unit} (h : w.ownsMap Tryd.prog 22 TR b n D) : w.ownsMap Tryd.prog 22 TR b (Maps.size D) D := by
  obtain ⟨es, clock, hb, F, hs, rfl⟩ := h
  exact ⟨es, clock, hb, F, by simp [Maps.size, length_sorted], rfl⟩

theorem own_size {n : Nat} {D : DataW Unit} (h : w.ownsMap Tryd.prog 22 TR b n D) (hf : ∀ f, f < 18446744073709551616 → Maps.has D (key f) = true → f < 65536) : Maps.size D ≤ 65536 := by
  obtain ⟨es0, rfl, hne, -⟩ := h.entries keyed_u64
  obtain ⟨es, clock, hb, F, hs, hD⟩ := h
  simp only [DataW.map.injEq] at hD
  have hk : ∀ p ∈ es0, ∃ f : Nat, f < 18446744073709551616 ∧ p.1 = key f := by
    intro p hp
    rw [hD] at hp
    obtain ⟨v, hv⟩ := fit_keys F p (mem_sorted.1 hp)
    obtain ⟨x, rfl, hx, hwf⟩ := Maps.keyOf_int_inv und_u64 hv
    have := wf_u64_bounds hwf
    exact ⟨x.toNat, by omega, by rw [hx]; simp only [key, Lit.int.injEq, true_and]; omega⟩
  have e : (es0.map fun p => match p.1 with | .int _ x => x.toNat | _ => 0).length ≤ 65536 := by
    apply nodup_le
    · unfold List.Nodup
      rw [List.pairwise_map]
      refine hne.imp_of_mem ?_
      intro p q hp hq hpq
      obtain ⟨f, -, e1⟩ := hk p hp
      obtain ⟨g, -, e2⟩ := hk q hq
      rw [e1, e2] at hpq
      rw [e1, e2]
      intro hfg
      apply hpq
      simp only [key, Int.toNat_natCast] at hfg
      rw [hfg]
    · intro x hx
      obtain ⟨p, hp, rfl⟩ := List.mem_map.1 hx
      obtain ⟨f, hf1, e1⟩ := hk p hp
      have := hf f hf1 (by
        rw [Maps.has_eq]
        exact List.any_eq_true.2 ⟨p, hp, by rw [e1]; exact WideAt.sameKey_self (isKey f hf1)⟩)
      rw [e1]
      simpa [key] using this
  simpa [Maps.size] using e

theorem MB.congr (h : MB w b M) {M' : Nat → Option (Nat → Nat)} (hM : ∀ f, (M f = none ↔ M' f = none) ∧ ∀ ws vs, M f = some ws → M' f = some vs → ∀ i, i < 512 → ws i = vs i) : MB w b M' := by
  obtain ⟨⟨D, ho, h1, h2⟩, hb⟩ := h
  refine ⟨⟨D, ho, fun f hf => ?_, fun f vs hf hv z => ?_⟩, fun f hf => hb f fun e => hf ((hM f).1.1 e)⟩
  · rw [h1 f hf]
    have := (hM f).1
    cases hm : M f <;> cases hm' : M' f <;> simp_all
  · cases hm : M f with
    | none => rw [(hM f).1.1 hm] at hv; cases hv
    | some ws =>
      rw [h2 f ws hf hm z]
      unfold td
      rw [tw_congr ((hM f).2 ws vs hm hv)]
theorem MB.lt (h : MB w b M) : b < w.heap.size := by obtain ⟨D, ho, _⟩ := h.ex; exact ho.lt
theorem MB.grown (h : MB w b M) {row : Option Nat} (hg : w.grownBy w' row) (hne : some b ≠ row) : MB w' b M := by
  obtain ⟨⟨D, ho, h1, h2⟩, hb⟩ := h
  exact ⟨⟨D, ho.kept hg hne, h1, h2⟩, hb⟩
theorem MB.heap (h : MB w b M) (e : w'.heap[b]? = w.heap[b]?) : MB w' b M := by
  obtain ⟨⟨D, ⟨es, clock, hb, F, hs, hD⟩, h1, h2⟩, hbd⟩ := h
  exact ⟨⟨D, ⟨es, clock, e.trans hb, F, hs, hD⟩, h1, h2⟩, hbd⟩
theorem MB.keep (h : MB w b M) (hb : Below w.heap.size w w') : MB w' b M := h.heap (hb.block b h.lt)
theorem MB.far (h : MB w b M) {p : Addr} (hp : b ≠ p.block) (u : Value) : MB (w.setCell p u) b M := h.heap (Below.heap_setCell w p u b hp)
theorem MB.alloc (h : MB w b M) (o : Obj) : MB (w.alloc o) b M := h.heap (Below.heap_alloc w o b h.lt)
theorem MB.drew (h : MB w b M) (t : Nat) : MB (w.drewN t) b M := h.heap rfl

/-- A look-up. -/
theorem MB.look (h : MB w b M) (f : Nat) (hf : f < 18446744073709551616) :
    (Instr.lookup 51 (.map (some b)) (.int .u64 (f : Int)) false).run Tryd.prog w = .ok (.agg (tw ((M f).getD zero)).toArray) w := by
  obtain ⟨⟨D, ho, h1, h2⟩, hb⟩ := h
  obtain ⟨v, ps, hrun, hv⟩ := ho.lookup keyed_u64 und_map (zero_table w) (TR_tw zero) (key_of f hf)
  have e : v = .agg (tw ((M f).getD zero)).toArray := by
    apply TR_inv (ps := ps)
    rw [hv]
    cases hm : M f with
    | none => have := h1 f hf; rw [hm] at this; rw [Maps.atKey_of_not_has (by simpa using this)]; rfl
    | some ws => rw [h2 f ws hf hm]; rfl
  rw [hrun, e]
theorem MB.look_ok (h : MB w b M) (f : Nat) (hf : f < 18446744073709551616) :
    (Instr.lookup 51 (.map (some b)) (.int .u64 (f : Int)) true).run Tryd.prog w = .ok (.tuple #[.agg (tw ((M f).getD zero)).toArray, .bool (M f).isSome]) w := by
  obtain ⟨⟨D, ho, h1, h2⟩, hb⟩ := h
  obtain ⟨v, ps, hrun, hv⟩ := ho.look_ok keyed_u64 und_map (zero_table w) (TR_tw zero) (key_of f hf)
  rw [hrun, h1 f hf]
  have e : v = .agg (tw ((M f).getD zero)).toArray := by
    apply TR_inv (ps := ps)
    rw [hv]
    cases hm : M f with
    | none => have := h1 f hf; rw [hm] at this; rw [Maps.atKey_of_not_has (by simpa using this)]; rfl
    | some ws => rw [h2 f ws hf hm]; rfl
  rw [e]

def upd (M : Nat → Option (Nat → Nat)) (f : Nat) (x : Option (Nat → Nat)) : Nat → Option (Nat → Nat) := fun g => if g = f then x else M g

/-- A store. -/
theorem MB.put (h : MB w b M) (f : Nat) (ws : Nat → Nat) (hf : f < 65536) :
    ∃ w', (Instr.mapUpdate 51 (.map (some b)) (.int .u64 (f : Int)) (.agg (tw ws).toArray)).run Tryd.prog w = .ok () w' ∧ MB w' b (upd M f (some ws)) ∧ w.grownBy w' (some b) ∧ w'.heap.size = w.heap.size := by
  obtain ⟨⟨D, ho, h1, h2⟩, hb⟩ := h
  have hf2 : f < 18446744073709551616 := by omega
  have hsz : Maps.size D ≤ 65536 := own_size ho (fun g hg hh => hb g (by rw [h1 g hg] at hh; intro e; rw [e] at hh; simp at hh))
  obtain ⟨w', hrun, ho', ht⟩ := ho.store keyed_u64 und_map (by unfold maxLen; omega) (key_of f hf2) (TR_tw ws)
  refine ⟨w', hrun, ⟨⟨_, own_tight ho', fun g hg => ?_, fun g vs hg hv z => ?_⟩, fun g hg => ?_⟩, ht.grown, ?_⟩
  · unfold upd
    by_cases e : g = f
    · subst e; rw [if_pos rfl, Maps.has_put_same ho.isMap (isKey g hg)]; rfl
    · rw [if_neg e, Maps.has_put_other (key_ne e), h1 g hg]
  · unfold upd at hv
    by_cases e : g = f
    · subst e; rw [if_pos rfl] at hv; cases hv; exact Maps.atKey_put_same ho.isMap (isKey g hg) _ _
    · rw [if_neg e] at hv; rw [Maps.atKey_put_other (key_ne e)]; exact h2 g vs hg hv z
  · unfold upd at hg
    by_cases e : g = f
    · omega
    · rw [if_neg e] at hg; exact hb g hg
  · obtain ⟨es, c, es', c', hbb, rfl⟩ := ht
    simp [ChangeMaps.setBlock]

/-- A key is struck. -/
theorem MB.del (h : MB w b M) (f : Nat) (hf : f < 18446744073709551616) (ty : TypeId) :
    ∃ w', (Builtin.delete_ #[51, 22] ty #[.map (some b), .int .u64 (f : Int)]).run Tryd.prog w = .ok (.tuple #[]) w' ∧ MB w' b (upd M f none) ∧ w.grownBy w' (some b) ∧ w'.heap.size = w.heap.size := by
  obtain ⟨⟨D, ho, h1, h2⟩, hb⟩ := h
  obtain ⟨w', hrun, ho', ht⟩ := ho.drop keyed_u64 und_map (key_of f hf) ty
  refine ⟨w', hrun, ⟨⟨_, own_tight ho', fun g hg => ?_, fun g vs hg hv z => ?_⟩, fun g hg => ?_⟩, ht.grown, ?_⟩
  · unfold upd
    by_cases e : g = f
    · subst e; rw [if_pos rfl, Maps.has_del_same]; rfl
    · rw [if_neg e, Maps.has_del_other (key_ne e), h1 g hg]
  · unfold upd at hv
    by_cases e : g = f
    · rw [if_pos e] at hv; cases hv
    · rw [if_neg e] at hv; rw [Maps.atKey_del_other (key_ne e)]; exact h2 g vs hg hv z
  · unfold upd at hg
    by_cases e : g = f
    · rw [if_pos e] at hg; exact absurd rfl hg
    · rw [if_neg e] at hg; exact hb g hg
  · obtain ⟨es, c, es', c', hbb, rfl⟩ := ht
    simp [ChangeMaps.setBlock]

theorem MB.new (w : World) : MB (w.alloc (.map #[] 0)) w.heap.size (fun _ => none) :=
  ⟨⟨.map [], own_tight (World.ownsMap_made w _ _ TR), fun _ _ => rfl, fun _ _ _ h => by cases h⟩, fun _ h => absurd rfl h⟩
end
end Go.Proofs.YthiojnbnhagcgaaDoor

/- Package proc's map of processes in memory: a block that is a map of numbers to pointers. -/
import Derived.Test.YtahcpimpmedbiaaInoMap
namespace Go.Proofs.Ytahcpimpmedbiaa
open Go.ChangeShapes Go.WideShapes Go.ChangeAt Go.RowKit Go.Maps
set_option linter.unusedVariables false
set_option linter.unusedSimpArgs false
namespace PC
open IS (ptr PR pd PR_ptr PR_inv key key_of key_ne isKey keyed_int I64 i64_nat Nums nodup_sub nodup_le own_tight own_nums und_int upd)
theorem cund_map : Try.prog.underlying 56 = some (.map 3 62) := by kernel_rfl
theorem czero_ptr (w : World) : (zeroValue 62).run Try.prog w = .ok (ptr none) w := by kernel_rfl

/-- Block b is a map of these numbers to these blocks. -/
structure CM (w : World) (b : Nat) (M : Int → Option Nat) : Prop where
  ex : ∃ D : DataW Unit, w.ownsMap Try.prog 3 PR b (Maps.size D) D ∧ (∀ f, I64 f → Maps.has D (key f) = (M f).isSome) ∧ (∀ f g, I64 f → M f = some g → ∀ z, D.atKey (key f) z = pd (some g))
  bound : ∀ f, M f ≠ none → 0 ≤ f ∧ f < 65536

section
variable {w w' : World} {b : Nat} {M : Int → Option Nat}
theorem cnums_lt {ss : List Nat} (h : Nums M ss) (hm : CM w b M) : ∀ f ∈ ss, f < 65536 := fun f hf => by have := hm.bound f ((h.2 f).1 hf); omega
theorem cnums_len {ss : List Nat} (h : Nums M ss) (hm : CM w b M) : ss.length ≤ 65536 := nodup_le 65536 ss h.1 (cnums_lt h hm)

theorem CM.congr (h : CM w b M) {M' : Int → Option Nat} (hM : ∀ f, M f = M' f) : CM w b M' := by
  obtain rfl : M = M' := funext hM
  exact h
theorem CM.lt (h : CM w b M) : b < w.heap.size := by obtain ⟨D, ho, _⟩ := h.ex; exact ho.lt
theorem CM.grown (h : CM w b M) {row : Option Nat} (hg : w.grownBy w' row) (hne : some b ≠ row) : CM w' b M := by
  obtain ⟨⟨D, ho, h1, h2⟩, hb⟩ := h
  exact ⟨⟨D, ho.kept hg hne, h1, h2⟩, hb⟩
theorem CM.heap (h : CM w b M) (e : w'.heap[b]? = w.heap[b]?) : CM w' b M := by
  obtain ⟨⟨D, ⟨es, clock, hb, F, hs, hD⟩, h1, h2⟩, hbd⟩ := h
  exact ⟨⟨D, ⟨es, clock, e.trans hb, F, hs, hD⟩, h1, h2⟩, hbd⟩
theorem CM.keep (h : CM w b M) (hb : Below w.heap.size w w') : CM w' b M := h.heap (hb.block b h.lt)
theorem CM.far (h : CM w b M) {p : Addr} (hp : b ≠ p.block) (u : Value) : CM (w.setCell p u) b M := h.heap (Below.heap_setCell w p u b hp)
theorem CM.alloc (h : CM w b M) (o : Obj) : CM (w.alloc o) b M := h.heap (Below.heap_alloc w o b h.lt)
theorem CM.drew (h : CM w b M) (t : Nat) : CM (w.drewN t) b M := h.heap rfl
theorem CM.drew1 (h : CM w b M) : CM w.drew b M := h.heap rfl

/-- A look-up. -/
theorem CM.look (h : CM w b M) (f : Int) (hf : I64 f) :
    (Instr.lookup 56 (.map (some b)) (.int .i64 f) false).run Try.prog w = .ok (ptr (M f)) w := by
  obtain ⟨⟨D, ho, h1, h2⟩, hb⟩ := h
  obtain ⟨v, ps, hrun, hv⟩ := ho.lookup keyed_int cund_map (czero_ptr w) (PR_ptr none) (key_of f hf)
  have e : v = ptr (M f) := by
    apply PR_inv (ps := ps)
    rw [hv]
    cases hm : M f with
    | none => have := h1 f hf; rw [hm] at this; rw [Maps.atKey_of_not_has (by simpa using this)]
    | some g => rw [h2 f g hf hm]
  rw [hrun, e]
/-- How many entries. -/
theorem CM.count (h : CM w b M) {ss : List Nat} (hs : Nums M ss) (ty : TypeId) : (Builtin.len_ #[56] ty #[.map (some b)]).run Try.prog w = .ok (.int .i64 (ss.length : Int)) w := by
  obtain ⟨⟨D, ho, h1, h2⟩, hb⟩ := h
  obtain ⟨ss', h3, h4⟩ := own_nums ho h1 hb
  rw [ho.len cund_map ty, ← h4, h3.len_eq hs]

/-- A store. -/
theorem CM.put (h : CM w b M) (f : Int) (g : Nat) (hf : 0 ≤ f ∧ f < 65536) :
    ∃ w', (Instr.mapUpdate 56 (.map (some b)) (.int .i64 f) (.pointer (some ⟨g, 0, none⟩))).run Try.prog w = .ok () w' ∧ CM w' b (upd M f (some g)) ∧ w.grownBy w' (some b) ∧ w'.heap.size = w.heap.size := by
  obtain ⟨⟨D, ho, h1, h2⟩, hb⟩ := h
  have hf2 : I64 f := ⟨by omega, by omega⟩
  obtain ⟨ss, hN, hL⟩ := own_nums ho h1 hb
  have hsz : Maps.size D ≤ 65536 := by
    rw [← hL]
    exact nodup_le 65536 ss hN.1 fun x hx => by have := hb x ((hN.2 x).1 hx); omega
  obtain ⟨w', hrun, ho', ht⟩ := ho.store keyed_int cund_map (by unfold maxLen; omega) (key_of f hf2) (PR_ptr (some g))
  refine ⟨w', hrun, ⟨⟨_, own_tight ho', fun k hk => ?_, fun k vs hk hv z => ?_⟩, fun k hk => ?_⟩, ht.grown, ?_⟩
  · unfold upd
    by_cases e : k = f
    · subst e; rw [if_pos rfl, Maps.has_put_same ho.isMap (isKey k hk)]; rfl
    · rw [if_neg e, Maps.has_put_other (key_ne e), h1 k hk]
  · unfold upd at hv
    by_cases e : k = f
    · subst e; rw [if_pos rfl] at hv; cases hv; exact Maps.atKey_put_same ho.isMap (isKey k hk) _ _
    · rw [if_neg e] at hv; rw [Maps.atKey_put_other (key_ne e)]; exact h2 k vs hk hv z
  · unfold upd at hk
    by_cases e : k = f
    · omega
    · rw [if_neg e] at hk; exact hb k hk
  · obtain ⟨es, c, es', c', hbb, rfl⟩ := ht
    simp [ChangeMaps.setBlock]

/-- A key is struck. -/
theorem CM.del (h : CM w b M) (f : Int) (hf : I64 f) (ty : TypeId) :
    ∃ w', (Builtin.delete_ #[56, 3] ty #[.map (some b), .int .i64 f]).run Try.prog w = .ok (.tuple #[]) w' ∧ CM w' b (upd M f none) ∧ w.grownBy w' (some b) ∧ w'.heap.size = w.heap.size := by
  obtain ⟨⟨D, ho, h1, h2⟩, hb⟩ := h
  obtain ⟨w', hrun, ho', ht⟩ := ho.drop keyed_int cund_map (key_of f hf) ty
  refine ⟨w', hrun, ⟨⟨_, own_tight ho', fun g hg => ?_, fun g vs hg hv z => ?_⟩, fun g hg => ?_⟩, ht.grown, ?_⟩
  · unfold upd
    by_cases e : g = f
    · subst e; rw [if_pos rfl, Maps.has_del_same]; rfl
    · rw [if_neg e, Maps.has_del_other (key_ne e), h1 g hg]
  · unfold upd at hv
    by_cases e : g = f
    · rw [if_pos e] at hv; cases hv
    · rw [if_neg e] at hv; rw [Maps.atKey_del_other (key_ne e)]; exact h2 g vs hg hv z
  · unfold upd at hg
    by_cases e : g = f
    · rw [if_pos e] at hg; exact absurd rfl hg
    · rw [if_neg e] at hg; exact hb g hg
  · obtain ⟨es, c, es', c', hbb, rfl⟩ := ht
    simp [ChangeMaps.setBlock]

theorem CM.new (w : World) : CM (w.alloc (.map #[] 0)) w.heap.size (fun _ => none) :=
  ⟨⟨.map [], own_tight (World.ownsMap_made w _ _ PR), fun _ _ => rfl, fun _ _ _ h => by cases h⟩, fun _ h => absurd rfl h⟩
end
end PC
end Go.Proofs.Ytahcpimpmedbiaa

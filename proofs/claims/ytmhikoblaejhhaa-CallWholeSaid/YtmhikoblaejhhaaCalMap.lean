/- The map of calls' shapes in memory: a block that is a map of numbers to structs of one string. -/
import Derived.Test.YtmhikoblaejhhaaBlk
import Derived.Maps.OwnSet
import Derived.Maps.RangeWalk
import Derived.Carry
namespace Go.Proofs.Ytmhikoblaejhhaa
open Go.ChangeShapes Go.WideShapes Go.ChangeAt Go.RowKit Go.Maps
open Go.WideElems (Fit rd rg pl rd_val rd_key rg_of)
set_option linter.unusedVariables false
set_option linter.unusedSimpArgs false
namespace CA

/-- A shape, as a value. -/
def sv (s : ByteArray) : Value := .agg #[.string s]
def SR : Value → Option (DataW Unit × List MemPlace)
  | .agg vs => match vs.toList with
    | [.string s] => some (.lit (.string s.data.toList), [])
    | _ => none
  | _ => none
def sd (s : ByteArray) : DataW Unit := .lit (.string s.data.toList)
theorem SR_sv (s : ByteArray) : SR (sv s) = some (sd s, []) := rfl
theorem SR_inv {v : Value} {s : ByteArray} {ps : List MemPlace} (h : SR v = some (sd s, ps)) : v = sv s := by
  unfold SR at h
  split at h
  · rename_i vs
    split at h
    · rename_i t ht
      simp only [sd, Option.some.injEq, Prod.mk.injEq, DataW.lit.injEq, Lit.string.injEq] at h
      have e : t = s := by
        cases t; cases s
        simp only [ByteArray.mk.injEq]
        exact Array.toList_inj.1 h.1
      have e2 : vs = #[.string s] := by rw [← e]; exact Array.toList_inj.1 ht
      rw [e2]; rfl
    · cases h
  · cases h
theorem und_map : Try.prog.underlying 47 = some (.map 49 45) := by kernel_rfl
theorem und_u64 : Try.prog.underlying 49 = some (.int .u64) := by kernel_rfl
theorem keyed_u64 : Keyed Try.prog 49 := int_keyed und_u64
def key (f : Nat) : Lit := .int .u64 (f : Int)
theorem wf_u64 {f : Nat} (h : f < 18446744073709551616) : (Lit.int .u64 (f : Int)).wf = true := by simp [Lit.wf, IntKind.min, IntKind.max, IntKind.signed, IntKind.bits]; omega
theorem key_of (f : Nat) (h : f < 18446744073709551616) : keyOf Try.prog 49 (.int .u64 (f : Int)) = some (key f) := keyOf_int_mk und_u64 (wf_u64 h)
theorem key_ne {f g : Nat} (h : f ≠ g) : key f ≠ key g := by
  intro e
  simp only [key, Lit.int.injEq, true_and] at e
  omega
theorem isKey (f : Nat) (h : f < 18446744073709551616) : WideAt.IsKeyLit (key f) := keyed_u64.key (key_of f h)
theorem zero_shape (w : World) : (zeroValue 45).run Try.prog w = .ok (sv ByteArray.empty) w := by kernel_rfl

def upd (M : Nat → Option ByteArray) (f : Nat) (x : Option ByteArray) : Nat → Option ByteArray := fun g => if g = f then x else M g
/-- Block b is a map of these shapes, of n entries at most. -/
structure SM (w : World) (b n : Nat) (M : Nat → Option ByteArray) : Prop where
  ex : ∃ D : DataW Unit, w.ownsMap Try.prog 49 SR b (Maps.size D) D ∧ Maps.size D ≤ n ∧ (∀ f, f < 18446744073709551616 → Maps.has D (key f) = (M f).isSome) ∧ (∀ f s, f < 18446744073709551616 → M f = some s → ∀ z, D.atKey (key f) z = sd s)
section
variable {w w' : World} {b n : Nat} {M : Nat → Option ByteArray}
theorem own_tight {n : Nat} {D : DataW Unit} (h : w.ownsMap Try.prog 49 SR b n D) : w.ownsMap Try.prog 49 SR b (Maps.size D) D := by
  obtain ⟨es, clock, hb, F, hs, rfl⟩ := h
  exact ⟨es, clock, hb, F, by simp [Maps.size, length_sorted], rfl⟩
theorem own_size {D : DataW Unit} (h : w.ownsMap Try.prog 49 SR b n D) : Maps.size D ≤ n := by
  obtain ⟨es, clock, hb, F, hs, rfl⟩ := h
  simpa [Maps.size, length_sorted] using hs
theorem SM.lt (h : SM w b n M) : b < w.heap.size := by obtain ⟨D, ho, _⟩ := h.ex; exact ho.lt
theorem SM.heap (h : SM w b n M) (e : w'.heap[b]? = w.heap[b]?) : SM w' b n M := by
  obtain ⟨⟨D, ⟨es, clock, hb, F, hs, hD⟩, hz, h1, h2⟩⟩ := h
  exact ⟨⟨D, ⟨es, clock, e.trans hb, F, hs, hD⟩, hz, h1, h2⟩⟩
theorem SM.keep (h : SM w b n M) (hb : Below w.heap.size w w') : SM w' b n M := h.heap (hb.block b h.lt)
theorem SM.look_ok (h : SM w b n M) (f : Nat) (hf : f < 18446744073709551616) :
    (Instr.lookup 47 (.map (some b)) (.int .u64 (f : Int)) true).run Try.prog w = .ok (.tuple #[sv ((M f).getD ByteArray.empty), .bool (M f).isSome]) w := by
  obtain ⟨⟨D, ho, hs, h1, h2⟩⟩ := h
  obtain ⟨v, ps, hrun, hv⟩ := ho.look_ok keyed_u64 und_map (zero_shape w) (SR_sv ByteArray.empty) (key_of f hf)
  rw [hrun, h1 f hf]
  have e : v = sv ((M f).getD ByteArray.empty) := by
    apply SR_inv (ps := ps)
    rw [hv]
    cases hm : M f with
    | none => have := h1 f hf; rw [hm] at this; rw [Maps.atKey_of_not_has (by simpa using this)]; rfl
    | some ws => rw [h2 f ws hf hm]; rfl
  rw [e]
theorem SM.put (h : SM w b n M) (hn : n < maxLen) (f : Nat) (s : ByteArray) (hf : f < 18446744073709551616) :
    ∃ w', (Instr.mapUpdate 47 (.map (some b)) (.int .u64 (f : Int)) (sv s)).run Try.prog w = .ok () w' ∧ SM w' b (n + 1) (upd M f (some s)) ∧ w.grownBy w' (some b) ∧ w'.heap.size = w.heap.size := by
  obtain ⟨⟨D, ho, hs, h1, h2⟩⟩ := h
  obtain ⟨w', hrun, ho', ht⟩ := ho.store keyed_u64 und_map (by omega) (key_of f hf) (SR_sv s)
  refine ⟨w', hrun, ⟨⟨_, own_tight ho', ?_, fun g hg => ?_, fun g vs hg hv z => ?_⟩⟩, ht.grown, ?_⟩
  · exact Nat.le_trans (own_size ho') (by omega)
  · unfold upd
    by_cases e : g = f
    · subst e; rw [if_pos rfl, Maps.has_put_same ho.isMap (isKey g hg)]; rfl
    · rw [if_neg e, Maps.has_put_other (key_ne e), h1 g hg]
  · unfold upd at hv
    by_cases e : g = f
    · subst e; rw [if_pos rfl] at hv; cases hv; exact Maps.atKey_put_same ho.isMap (isKey g hg) _ _
    · rw [if_neg e] at hv; rw [Maps.atKey_put_other (key_ne e)]; exact h2 g vs hg hv z
  · obtain ⟨es, c, es', c', hbb, rfl⟩ := ht
    simp [ChangeMaps.setBlock]
theorem SM.new (w : World) : SM (w.alloc (.map #[] 0)) w.heap.size 0 (fun _ => none) :=
  ⟨⟨.map [], own_tight (World.ownsMap_made w _ _ SR), Nat.le_refl _, fun _ _ => rfl, fun _ _ _ h => by cases h⟩⟩

/-- The map of shapes in the making. -/
def Sh (w0 w : World) (n : Nat) (M : Nat → Option ByteArray) : Prop := SM w w0.heap.size n M ∧ Below w0.heap.size w0 w
theorem wpList_insert_s {w0 : World} {ops : Array Oper} {rest : List Oper} {o : Oper} {a : Act} {Q : Exit → Act → World → Prop} (h : Sh w0 w n M) (hg : o.guard = none) (m x v : Operand) (hop : o.op = Op.insert 47 m x v)
    (f : Nat) (z : Int) (hz : z = f) (s : ByteArray) (hm : a.eval m = .map (some w0.heap.size)) (hx : a.eval x = .int .u64 z) (hv : a.eval v = .agg #[.string s]) (hn : n < maxLen) (hf : f < 18446744073709551616)
    (hK : ∀ w', Sh w0 w' (n + 1) (upd M f (some s)) → wpList Try.prog ops Q rest (a.put o.dst undef) w') : wpList Try.prog ops Q (o :: rest) a w := by
  subst hz
  refine wpList_plain hg fun K' hK' => ?_
  obtain ⟨w', hrun, r1, r2, r3⟩ := h.1.put hn f s hf
  unfold sv at hrun
  unfold Oper.wp
  simp [execOp, hop, hm, hx, hv, hrun, Result.andThen]
  exact hK' _ _ (hK w' ⟨r1, h.2.grown r2 h.2.size (fun k h => by cases h; exact Nat.le_refl _)⟩)
end

def bs (l : List UInt8) : ByteArray := ⟨l.toArray⟩
/-- The calls' shapes. -/
def shp : Nat → Option ByteArray :=
  upd (upd (upd (upd (upd (upd (upd (upd (upd (upd (upd (upd (upd (upd (upd (upd (upd (upd (upd (upd (upd (upd (upd (upd (upd (fun _ => none)
    1 (some (bs [116, 110]))) 2 (some (bs [110]))) 3 (some (bs [110]))) 4 (some (bs [110, 110]))) 5 (some (bs [110, 116]))) 6 (some (bs [110, 110, 110]))) 7 (some (bs [110, 110]))) 8 (some (bs [110])))
    9 (some (bs [116]))) 10 (some (bs [116]))) 11 (some (bs [116, 116]))) 12 (some (bs [116]))) 13 (some (bs [116, 116]))) 14 (some (bs [116]))) 15 (some (bs [110, 110, 110]))) 16 (some (bs [110, 110])))
    17 (some (bs [110, 110, 110]))) 18 (some (bs [110]))) 19 (some (bs [110, 110]))) 20 (some (bs [110]))) 21 (some (bs [110]))) 22 (some (bs [110]))) 23 (some (bs [110, 110]))) 24 (some (bs [110]))) 25 (some (bs []))

set_option maxRecDepth 100000 in
set_option maxHeartbeats 4000000 in
theorem shapes_any (w : World) : Calls Try.prog 19 #[] w fun e w' => ∃ b, e = .returned (.map (some b)) ∧ SM w' b 25 shp ∧ Below w.heap.size w w' := by
  have h0 : Sh w (w.alloc (.map #[] 0)) 0 (fun _ => none) := ⟨SM.new w, (Below.refl _ _).alloc (Nat.le_refl _) _⟩
  have hmm := @run_makeMap Try.prog
  go_enter Try.func19, Try.ntmps19
  go_wp2_with (with_reducible show wpList _ _ _ _ _ _; refine wpList_insert_s (by assumption) rfl _ _ _ rfl _ _ rfl _ rfl rfl rfl (by decide) (by decide) ?_; intro wx hx)
  go_ret
  exact ⟨_, rfl, (by assumption : Sh w _ 25 _).1, (by assumption : Sh w _ 25 _).2⟩
end CA
end Go.Proofs.Ytmhikoblaejhhaa

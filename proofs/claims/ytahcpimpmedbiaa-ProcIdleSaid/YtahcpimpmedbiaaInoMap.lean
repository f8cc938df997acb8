/- The map of inodes in memory: a block that is a map of numbers to pointers; free of any other layer. -/
import Derived.Test.YtahcpimpmedbiaaBlk
import Derived.Maps.OwnSet
import Derived.Maps.RangeWalk
import Derived.Carry
namespace Go.Proofs.Ytahcpimpmedbiaa
open Go.ChangeShapes Go.WideShapes Go.ChangeAt Go.RowKit Go.Maps
open Go.WideElems (Fit rd rg pl rd_val rd_key rg_of)
set_option linter.unusedVariables false
set_option linter.unusedSimpArgs false
namespace IS

/-- A pointer to a block, or none. -/
def ptr : Option Nat → Value
  | none => .pointer none
  | some g => .pointer (some ⟨g, 0, none⟩)
/-- How a pointer reads. -/
def PR : Value → Option (DataW Unit × List MemPlace)
  | .pointer none => some (.nil, [])
  | .pointer (some ⟨g, 0, none⟩) => some (.lit (.int .i64 (g : Int)), [])
  | _ => none
def pd : Option Nat → DataW Unit
  | none => .nil
  | some g => .lit (.int .i64 (g : Int))
theorem PR_ptr (x : Option Nat) : PR (ptr x) = some (pd x, []) := by cases x <;> rfl
theorem PR_inv {v : Value} {x : Option Nat} {ps : List MemPlace} (h : PR v = some (pd x, ps)) : v = ptr x := by
  unfold PR at h
  split at h
  · cases x with
    | none => rfl
    | some g => simp [pd] at h
  · rename_i g
    cases x with
    | none => simp [pd] at h
    | some g' =>
      simp only [pd, Option.some.injEq, Prod.mk.injEq, DataW.lit.injEq, Lit.int.injEq, true_and] at h
      obtain ⟨h, -⟩ := h
      have : g = g' := by omega
      subst this; rfl
  · cases h

theorem und_int : Try.prog.underlying 3 = some (.int .i64) := by kernel_rfl
theorem keyed_int : Keyed Try.prog 3 := int_keyed und_int
def key (f : Int) : Lit := .int .i64 f
/-- A number that an int can be. -/
def I64 (f : Int) : Prop := -9223372036854775808 ≤ f ∧ f ≤ 9223372036854775807
theorem i64_nat {f : Nat} (h : f < 65536) : I64 (f : Int) := ⟨by omega, by omega⟩
theorem wf_i64 {f : Int} (h : I64 f) : (Lit.int .i64 f).wf = true := by
  unfold I64 at h
  simp [Lit.wf, IntKind.min, IntKind.max, IntKind.signed, IntKind.bits]; omega
theorem wf_bounds {x : Int} (h : (Lit.int .i64 x).wf = true) : I64 x := by
  simp [Lit.wf, IntKind.min, IntKind.max, IntKind.signed, IntKind.bits] at h
  exact ⟨by omega, by omega⟩
theorem key_of (f : Int) (h : I64 f) : keyOf Try.prog 3 (.int .i64 f) = some (key f) := keyOf_int_mk und_int (wf_i64 h)
theorem key_ne {f g : Int} (h : f ≠ g) : key f ≠ key g := by
  intro e
  simp only [key, Lit.int.injEq, true_and] at e
  exact h e
theorem isKey (f : Int) (h : I64 f) : WideAt.IsKeyLit (key f) := keyed_int.key (key_of f h)
theorem nodup_sub : ∀ (l m : List Nat), l.Nodup → (∀ x ∈ l, x ∈ m) → l.length ≤ m.length
  | [], _, _, _ => Nat.zero_le _
  | a :: l, m, hn, h => by
    have hn' := List.nodup_cons.1 hn
    have h1 := nodup_sub l (m.erase a) hn'.2 (fun x hx => by
      have hm := h x (List.mem_cons_of_mem _ hx)
      exact (List.mem_erase_of_ne (fun e => hn'.1 (by rw [← e]; exact hx))).2 hm)
    have ha := h a List.mem_cons_self
    rw [List.length_erase_of_mem ha] at h1
    have : 0 < m.length := List.length_pos_of_mem ha
    simp only [List.length_cons]
    omega
theorem nodup_le (N : Nat) (l : List Nat) (h : l.Nodup) (hl : ∀ x ∈ l, x < N) : l.length ≤ N := by
  have := nodup_sub l (List.range N) h (fun x hx => List.mem_range.2 (hl x hx))
  simpa using this

/-- Every number, once. -/
def Nums (M : Int → Option Nat) (ss : List Nat) : Prop := ss.Nodup ∧ ∀ f : Nat, f ∈ ss ↔ M f ≠ none
theorem Nums.len_eq {M : Int → Option Nat} {a b : List Nat} (ha : Nums M a) (hb : Nums M b) : a.length = b.length :=
  Nat.le_antisymm (nodup_sub a b ha.1 fun x hx => (hb.2 x).2 ((ha.2 x).1 hx)) (nodup_sub b a hb.1 fun x hx => (ha.2 x).2 ((hb.2 x).1 hx))

/-- Block b is a map of these numbers to these blocks. -/
structure MB (w : World) (b : Nat) (M : Int → Option Nat) : Prop where
  ex : ∃ D : DataW Unit, w.ownsMap Try.prog 3 PR b (Maps.size D) D ∧ (∀ f, I64 f → Maps.has D (key f) = (M f).isSome) ∧ (∀ f g, I64 f → M f = some g → ∀ z, D.atKey (key f) z = pd (some g))
  bound : ∀ f, M f ≠ none → 0 ≤ f ∧ f < 65536

section
variable {w w' : World} {b : Nat} {M : Int → Option Nat}
theorem Nums.lt {ss : List Nat} (h : Nums M ss) (hm : MB w b M) : ∀ f ∈ ss, f < 65536 := fun f hf => by have := hm.bound f ((h.2 f).1 hf); omega
theorem Nums.len {ss : List Nat} (h : Nums M ss) (hm : MB w b M) : ss.length ≤ 65536 := nodup_le 65536 ss h.1 (h.lt hm)

theorem own_tight {n : Nat} {D : DataW Unit} (h : w.ownsMap Try.prog 3 PR b n D) : w.ownsMap Try.prog 3 PR b (Maps.size D) D := by
  obtain ⟨es, clock, hb, F, hs, rfl⟩ := h
  exact ⟨es, clock, hb, F, by simp [Maps.size, length_sorted], rfl⟩

/-- How many there are: as many as a list that has each once. -/
theorem own_nums {n : Nat} {D : DataW Unit} (h : w.ownsMap Try.prog 3 PR b n D) (hf : ∀ f, I64 f → Maps.has D (key f) = (M f).isSome) (hb : ∀ f, M f ≠ none → 0 ≤ f ∧ f < 65536) : ∃ ss, Nums M ss ∧ ss.length = Maps.size D := by
  obtain ⟨es0, rfl, hne, -⟩ := h.entries keyed_int
  obtain ⟨es, clock, hbk, F, hs, hD⟩ := h
  simp only [DataW.map.injEq] at hD
  have hk : ∀ p ∈ es0, ∃ f : Nat, f < 65536 ∧ p.1 = key f ∧ M f ≠ none := by
    intro p hp
    have hp0 := hp
    rw [hD] at hp
    obtain ⟨v, hv⟩ := fit_keys F p (mem_sorted.1 hp)
    obtain ⟨x, rfl, hx, hwf⟩ := Maps.keyOf_int_inv und_int hv
    have hI := wf_bounds hwf
    have hh := hf x hI
    have h1 : Maps.has (DataW.map es0) (key x) = true := by
      rw [Maps.has_eq]
      exact List.any_eq_true.2 ⟨p, hp0, by rw [hx]; exact WideAt.sameKey_self (isKey x hI)⟩
    rw [h1] at hh
    have hM : M x ≠ none := fun e => by rw [e] at hh; cases hh
    obtain ⟨h2, h3⟩ := hb x hM
    refine ⟨x.toNat, by omega, ?_, ?_⟩
    · rw [hx]; simp only [key, Lit.int.injEq, true_and]; omega
    · rw [Int.toNat_of_nonneg h2]; exact hM
  refine ⟨es0.map fun p => match p.1 with | .int _ x => x.toNat | _ => 0, ⟨?_, fun f => ?_⟩, by simp [Maps.size]⟩
  · unfold List.Nodup
    rw [List.pairwise_map]
    refine hne.imp_of_mem ?_
    intro p q hp hq hpq
    obtain ⟨f, -, e1, -⟩ := hk p hp
    obtain ⟨g, -, e2, -⟩ := hk q hq
    rw [e1, e2] at hpq
    rw [e1, e2]
    intro hfg
    apply hpq
    simp only [key, Int.toNat_natCast] at hfg
    rw [hfg]
  · rw [List.mem_map]
    constructor
    · rintro ⟨p, hp, rfl⟩
      obtain ⟨f, hf1, e1, hM⟩ := hk p hp
      rw [e1]
      simpa [key] using hM
    · intro hM
      have hbd := hb f hM
      have h1 := hf f (i64_nat (by omega))
      have h2 : Maps.has (DataW.map es0) (key f) = true := by
        rw [h1]
        cases e : M f with
        | none => exact absurd e hM
        | some _ => rfl
      rw [Maps.has_eq] at h2
      obtain ⟨p, hp, hs⟩ := List.any_eq_true.1 h2
      obtain ⟨g, -, e1, -⟩ := hk p hp
      refine ⟨p, hp, ?_⟩
      rw [e1] at hs ⊢
      simp only [key, Lit.sameKey] at hs
      simp only [key, Int.toNat_natCast]
      simp at hs
      omega

theorem MB.congr (h : MB w b M) {M' : Int → Option Nat} (hM : ∀ f, M f = M' f) : MB w b M' := by
  obtain rfl : M = M' := funext hM
  exact h
theorem MB.lt (h : MB w b M) : b < w.heap.size := by obtain ⟨D, ho, _⟩ := h.ex; exact ho.lt
theorem MB.grown (h : MB w b M) {row : Option Nat} (hg : w.grownBy w' row) (hne : some b ≠ row) : MB w' b M := by
  obtain ⟨⟨D, ho, h1, h2⟩, hb⟩ := h
  exact ⟨⟨D, ho.kept hg hne, h1, h2⟩, hb⟩
theorem MB.heap (h : MB w b M) (e : w'.heap[b]? = w.heap[b]?) : MB w' b M := by
  obtain ⟨⟨D, ⟨es, clock, hb, F, hs, hD⟩, h1, h2⟩, hbd⟩ := h
  exact ⟨⟨D, ⟨es, clock, e.trans hb, F, hs, hD⟩, h1, h2⟩, hbd⟩
theorem MB.keep (h : MB w b M) (hb : Below w.heap.size w w') : MB w' b M := h.heap (hb.block b h.lt)
theorem MB.far (h : MB w b M) {p : Addr} (hp : b ≠ p.block) (u : Value) : MB (w.setCell p u) b M := h.heap (Below.heap_setCell w p u b hp)
theorem MB.alloc (h : MB w b M) (o : Obj) : MB (w.alloc o) b M := h.heap (Below.heap_alloc w o b h.lt)
theorem MB.drew (h : MB w b M) (t : Nat) : MB (w.drewN t) b M := h.heap rfl
theorem MB.drew1 (h : MB w b M) : MB w.drew b M := h.heap rfl

def upd (M : Int → Option Nat) (f : Int) (x : Option Nat) : Int → Option Nat := fun g => if g = f then x else M g

theorem MB.new (w : World) : MB (w.alloc (.map #[] 0)) w.heap.size (fun _ => none) :=
  ⟨⟨.map [], own_tight (World.ownsMap_made w _ _ PR), fun _ _ => rfl, fun _ _ _ h => by cases h⟩, fun _ h => absurd rfl h⟩
end
end IS
end Go.Proofs.Ytahcpimpmedbiaa

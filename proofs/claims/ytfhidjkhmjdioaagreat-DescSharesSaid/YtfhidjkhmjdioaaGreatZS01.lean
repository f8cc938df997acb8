/- Contracts of package inode's New, Link, Unlink, Open, Close, of stores that are there. -/
import Derived.Test.YtfhidjkhmjdioaaGreatRows
import Derived.WalkKit
import Derived.ProofKit
import Derived.KernelRfl
import Derived.Laws.AppendOwn
import Derived.WalkSmall
import Derived.OpenShut
import Derived.Laws.OwnMore
import Derived.Deep.OwnRows
import Derived.Maps.OwnSet
import Derived.Maps.RangeWalk
import Derived.Carry
import Derived.Outline
import Derived.WalkLawsBesides
import Derived.Deep.QuietTactic
import Derived.BigQuiet
import Derived.Deep.RegionWith
import Derived.Deep.RegionLaw
import Derived.RegionTactic
import Derived.Deep.DeepAppendWide
import Derived.Laws.AppendOwnNone
import Derived.Maps.AppendAt
import Derived.Deep.RegionHeld3
import Derived.IntWalk
import Derived.Laws.BitsAllLaws
import Derived.Laws.BytesArg
import Derived.Laws.CopyOwn
import Derived.Lib.AppendStr
import Derived.Lib.BufferWrite

namespace Go.Proofs.YtfhidjkhmjdioaaGreat
open Go.ChangeShapes Go.WideShapes Go.ChangeAt Go.RowKit
theorem W_hid {p : Prop} (h : p) : Hid p := h
theorem ret_int {k : IntKind} {a b : Int} (h : a = b) : Ending.returned (.int k a) = .returned (.int k b) := by rw [h]
theorem ret_bool {a b : Bool} (h : a = b) : Ending.returned (.bool a) = .returned (.bool b) := by rw [h]
theorem ret_u64 {a b : Int} (h : a = b) : Ending.returned (.int .u64 a) = .returned (.int .u64 b) := by rw [h]
theorem info_byte : (Tryz.prog.info? 5).map (fun i => (i.zero, i.size, i.bytes)) = some (some (.int .u8 0), 1, 1) := by kernel_rfl
theorem own_ge {w : World} {base e size n : Nat} {v : Value} {xs : List Value} (hown : w.ownsRow base e size v n xs) (g : Nat) (hg : v.ownBlock = some g) : base ≤ g := by
  rcases hown.2 with ⟨rfl, _⟩ | ⟨g', cap, cur, rfl, hb, _⟩
  · cases hg
  · cases hg; exact hb
theorem own_base {w : World} {base base' e size : Nat} {v : Value} {n : Nat} {xs : List Value} (h : base' ≤ base) (hown : w.ownsRow base e size v n xs) : w.ownsRow base' e size v n xs := by
  rcases hown.2 with h0 | ⟨g, cap, cur, h1, h2, h3⟩
  · exact ⟨hown.1, .inl h0⟩
  · exact ⟨hown.1, .inr ⟨g, cap, cur, h1, Nat.le_trans h h2, h3⟩⟩
end Go.Proofs.YtfhidjkhmjdioaaGreat

namespace Go.Proofs.YtfhidjkhmjdioaaGreat
open Go.ChangeShapes Go.WideShapes Go.ChangeAt Go.RowKit
set_option linter.unusedVariables false
set_option linter.unusedSimpArgs false
theorem bundrew {B : Nat} {w w' : World} (h : Below B w.drew w') : Below B w w' := ⟨h.os, h.tape, h.output, h.size, h.block⟩
def Blk (w : World) (g : Nat) (e : TypeId) (l : List Value) : Prop := w.heap[g]? = some (.cells l.toArray e (0, 0))
section
variable {w w' : World} {g : Nat} {e : TypeId} {l : List Value}
theorem Blk.cell (h : Blk w g e l) {j : Nat} {v : Value} (hj : l[j]? = some v) : w.cell? ⟨g, j, none⟩ = some v := by
  rw [cell_of_row w g j _ _ _ h]; simpa using hj
theorem Blk.fz (h : Blk w g e l) (i : Nat) : w.frozen? ⟨g, i, none⟩ = false := by unfold Blk at h; simp [World.frozen?, h]
theorem Blk.lt (h : Blk w g e l) : g < w.heap.size := by
  rcases Nat.lt_or_ge g w.heap.size with hlt | hge
  · exact hlt
  · unfold Blk at h; rw [Array.getElem?_eq_none hge] at h; cases h
theorem Blk.below {B : Nat} (h : Blk w g e l) (hb : Below B w w') (hg : g < B) : Blk w' g e l := (hb.block g hg).trans h
theorem Blk.keep (h : Blk w g e l) (hb : Below w.heap.size w w') : Blk w' g e l := h.below hb h.lt
theorem Blk.alloc (h : Blk w g e l) (o : Obj) : Blk (w.alloc o) g e l := (Below.heap_alloc w o g h.lt).trans h
theorem Blk.grown {row : Option Nat} (h : Blk w g e l) (hb : w.grownBy w' row) (hg : some g ≠ row) : Blk w' g e l := (hb.block g h.lt hg).trans h
theorem Blk.far (h : Blk w g e l) {p : Addr} (hp : g ≠ p.block) (u : Value) : Blk (w.setCell p u) g e l := (Below.heap_setCell w p u g hp).trans h
theorem Blk.set (h : Blk w g e l) (j : Nat) (u : Value) : Blk (w.setCell ⟨g, j, none⟩ u) g e (l.set j u) := by
  unfold Blk at h ⊢
  rw [heap_setCell_same w g j _ _ u h]
  simp
theorem Blk.own {base size n cap : Nat} (h : w.ownsRow base e size (.slice (some ⟨g, 0, none⟩) n n) n l) : Blk w g e l := by
  rcases h.2 with ⟨h', _⟩ | ⟨g', cap', cur, h', _, hg, _, _, hcs, htake⟩
  · simp at h'
  · simp only [Value.slice.injEq, Option.some.injEq, Addr.mk.injEq, and_true, true_and] at h'
    obtain ⟨rfl, rfl⟩ := h'
    rw [List.take_of_length_le (by simp; omega)] at htake
    unfold Blk
    rw [hg, ← htake]
end
theorem Blk.new (w : World) (e : TypeId) (l : List Value) {x : Nat} (hx : x = w.heap.size) : Blk (w.alloc (.cells l.toArray e)) x e l := by subst hx; exact heap_alloc_new w _
structure Two (g b : Nat) (w w' : World) : Prop where
  os : w'.os = w.os
  tape : w'.tape = w.tape
  output : w'.output = w.output
  size : w.heap.size ≤ w'.heap.size
  block : ∀ k, k < w.heap.size → k ≠ g → k ≠ b → w'.heap[k]? = w.heap[k]?
section
variable {w w' w2 : World} {g b : Nat}
theorem Two.of (h : Below w.heap.size w w') : Two g b w w' := ⟨h.os, h.tape, h.output, h.size, fun k hk _ _ => h.block k hk⟩
theorem Two.refl (g b : Nat) (w : World) : Two g b w w := Two.of (Below.refl _ _)
theorem Two.trans (h : Two g b w w') (k : Two g b w' w2) : Two g b w w2 :=
  ⟨k.os.trans h.os, k.tape.trans h.tape, k.output.trans h.output, Nat.le_trans h.size k.size, fun i hi h1 h2 => (k.block i (Nat.lt_of_lt_of_le hi h.size) h1 h2).trans (h.block i hi h1 h2)⟩
theorem Two.setCell (h : Two g b w w') {p : Addr} (hp : p.block = g ∨ p.block = b) (u : Value) : Two g b w (w'.setCell p u) :=
  h.trans ⟨rfl, rfl, rfl, by simp [World.setCell], fun k hk h1 h2 => Below.heap_setCell _ _ _ _ (by rcases hp with hp | hp <;> omega)⟩
theorem Two.drew (h : Two g b w w') (n : Nat) : Two g b w (w'.drewN n) := ⟨h.os, h.tape, h.output, h.size, h.block⟩
theorem Two.wide (h : Two b b w w') : Two g b w w' := ⟨h.os, h.tape, h.output, h.size, fun k hk _ h2 => h.block k hk h2 h2⟩
theorem Two.below {B : Nat} (h : Two g b w w') (hB : B ≤ w.heap.size) (hg : B ≤ g) (hb : B ≤ b) : Below B w w' := ⟨h.os, h.tape, h.output, h.size, fun k hk => h.block k (by omega) (by omega) (by omega)⟩
theorem Blk.two {x : Nat} {e : TypeId} {l : List Value} (h : Blk w x e l) (t : Two g b w w') (h1 : x ≠ g) (h2 : x ≠ b) : Blk w' x e l := (t.block x h.lt h1 h2).trans h
end
theorem Two.undrew {g b : Nat} {w w' : World} (h : Two g b w.drew w') : Two g b w w' := ⟨h.os, h.tape, h.output, h.size, h.block⟩
def IsRow (k : IntKind) (w : World) (a : Option Addr) (len cap : Nat) (zs : List Int) : Prop :=
  (a = none ∧ len = 0 ∧ cap = 0 ∧ zs = []) ∨
  ∃ x, a = some x ∧ len ≤ cap ∧ cap ≤ maxLen ∧ zs.length = cap ∧ (∀ i, i < zs.length → w.cell? (x.add i) = some (.int k (zs.getD i 0))) ∧ ∀ n ∈ zs, (Lit.int k n).wf = true
end Go.Proofs.YtfhidjkhmjdioaaGreat

namespace Go.Proofs.YtfhidjkhmjdioaaGreat
open Go.ChangeShapes Go.WideShapes Go.ChangeAt Go.RowKit Go.Maps
open Go.WideElems (Fit rd rg pl rd_val rd_key rg_of)
set_option linter.unusedVariables false
set_option linter.unusedSimpArgs false
namespace IS
def ptr : Option Nat → Value
  | none => .pointer none
  | some g => .pointer (some ⟨g, 0, none⟩)
def PR : Value → Option (DataW Unit × List MemPlace)
  | .pointer none => some (.nil, [])
  | .pointer (some ⟨g, 0, none⟩) => some (.lit (.int .i64 (g : Int)), [])
  | _ => none
def pd : Option Nat → DataW Unit
  | none => .nil
  | some g => .lit (.int .i64 (g : Int))
theorem PR_ptr (x : Option Nat) : PR (ptr x) = some (pd x, []) := by cases x <;> rfl
theorem PR_inv {v : Value} {x : Option Nat} {ps : List MemPlace} (h : PR v = some (pd x, ps)) : v = ptr x := by
  unfold PR at h
  split at h
  · cases x with
    | none => rfl
    | some g => simp [pd] at h
  · rename_i g
    cases x with
    | none => simp [pd] at h
    | some g' =>
      simp only [pd, Option.some.injEq, Prod.mk.injEq, DataW.lit.injEq, Lit.int.injEq, true_and] at h
      obtain ⟨h, -⟩ := h
      have : g = g' := by omega
      subst this; rfl
  · cases h
theorem und_map : Tryz.prog.underlying 84 = some (.map 3 123) := by kernel_rfl
theorem und_int : Tryz.prog.underlying 3 = some (.int .i64) := by kernel_rfl
theorem keyed_int : Keyed Tryz.prog 3 := int_keyed und_int
def key (f : Int) : Lit := .int .i64 f
def I64 (f : Int) : Prop := -9223372036854775808 ≤ f ∧ f ≤ 9223372036854775807
theorem i64_nat {f : Nat} (h : f < 65536) : I64 (f : Int) := ⟨by omega, by omega⟩
theorem wf_i64 {f : Int} (h : I64 f) : (Lit.int .i64 f).wf = true := by
  unfold I64 at h
  simp [Lit.wf, IntKind.min, IntKind.max, IntKind.signed, IntKind.bits]; omega
theorem wf_bounds {x : Int} (h : (Lit.int .i64 x).wf = true) : I64 x := by
  simp [Lit.wf, IntKind.min, IntKind.max, IntKind.signed, IntKind.bits] at h
  exact ⟨by omega, by omega⟩
theorem key_of (f : Int) (h : I64 f) : keyOf Tryz.prog 3 (.int .i64 f) = some (key f) := keyOf_int_mk und_int (wf_i64 h)
theorem key_ne {f g : Int} (h : f ≠ g) : key f ≠ key g := by
  intro e
  simp only [key, Lit.int.injEq, true_and] at e
  exact h e
theorem isKey (f : Int) (h : I64 f) : WideAt.IsKeyLit (key f) := keyed_int.key (key_of f h)
theorem zero_ptr (w : World) : (zeroValue 123).run Tryz.prog w = .ok (ptr none) w := by kernel_rfl
theorem nodup_sub : ∀ (l m : List Nat), l.Nodup → (∀ x ∈ l, x ∈ m) → l.length ≤ m.length
  | [], _, _, _ => Nat.zero_le _
  | a :: l, m, hn, h => by
    have hn' := List.nodup_cons.1 hn
    have h1 := nodup_sub l (m.erase a) hn'.2 (fun x hx => by
      have hm := h x (List.mem_cons_of_mem _ hx)
      exact (List.mem_erase_of_ne (fun e => hn'.1 (by rw [← e]; exact hx))).2 hm)
    have ha := h a List.mem_cons_self
    rw [List.length_erase_of_mem ha] at h1
    have : 0 < m.length := List.length_pos_of_mem ha
    simp only [List.length_cons]
    omega
theorem nodup_le (N : Nat) (l : List Nat) (h : l.Nodup) (hl : ∀ x ∈ l, x < N) : l.length ≤ N := by
  have := nodup_sub l (List.range N) h (fun x hx => List.mem_range.2 (hl x hx))
  simpa using this
def Nums (M : Int → Option Nat) (ss : List Nat) : Prop := ss.Nodup ∧ ∀ f : Nat, f ∈ ss ↔ M f ≠ none
theorem Nums.len_eq {M : Int → Option Nat} {a b : List Nat} (ha : Nums M a) (hb : Nums M b) : a.length = b.length :=
  Nat.le_antisymm (nodup_sub a b ha.1 fun x hx => (hb.2 x).2 ((ha.2 x).1 hx)) (nodup_sub b a hb.1 fun x hx => (ha.2 x).2 ((hb.2 x).1 hx))
structure MB (w : World) (b : Nat) (M : Int → Option Nat) : Prop where
  ex : ∃ D : DataW Unit, w.ownsMap Tryz.prog 3 PR b (Maps.size D) D ∧ (∀ f, I64 f → Maps.has D (key f) = (M f).isSome) ∧ (∀ f g, I64 f → M f = some g → ∀ z, D.atKey (key f) z = pd (some g))
  bound : ∀ f, M f ≠ none → 0 ≤ f ∧ f < 65536
section
variable {w w' : World} {b : Nat} {M : Int → Option Nat}
theorem Nums.lt {ss : List Nat} (h : Nums M ss) (hm : MB w b M) : ∀ f ∈ ss, f < 65536 := fun f hf => by have := hm.bound f ((h.2 f).1 hf); omega
theorem Nums.len {ss : List Nat} (h : Nums M ss) (hm : MB w b M) : ss.length ≤ 65536 := nodup_le 65536 ss h.1 (h.lt hm)
theorem own_tight {n : Nat} {D : DataW Unit} (h : w.ownsMap Tryz.prog 3 PR b n D) : w.ownsMap Tryz.prog 3 PR b (Maps.size D) D := by
  obtain ⟨es, clock, hb, F, hs, rfl⟩ := h
  exact ⟨es, clock, hb, F, by simp [Maps.size, length_sorted], rfl⟩
theorem own_nums {n : Nat} {D : DataW Unit} (h : w.ownsMap Tryz.prog 3 PR b n D) (hf : ∀ f, I64 f → Maps.has D (key f) = (M f).isSome) (hb : ∀ f, M f ≠ none → 0 ≤ f ∧ f < 65536) : ∃ ss, Nums M ss ∧ ss.length = Maps.size D := by
  obtain ⟨es0, rfl, hne, -⟩ := h.entries keyed_int
  obtain ⟨es, clock, hbk, F, hs, hD⟩ := h
  simp only [DataW.map.injEq] at hD
  have hk : ∀ p ∈ es0, ∃ f : Nat, f < 65536 ∧ p.1 = key f ∧ M f ≠ none := by
    intro p hp
    have hp0 := hp
    rw [hD] at hp
    obtain ⟨v, hv⟩ := fit_keys F p (mem_sorted.1 hp)
    obtain ⟨x, rfl, hx, hwf⟩ := Maps.keyOf_int_inv und_int hv
    have hI := wf_bounds hwf
    have hh := hf x hI
    have h1 : Maps.has (DataW.map es0) (key x) = true := by
      rw [Maps.has_eq]
      exact List.any_eq_true.2 ⟨p, hp0, by rw [hx]; exact WideAt.sameKey_self (isKey x hI)⟩
    rw [h1] at hh
    have hM : M x ≠ none := fun e => by rw [e] at hh; cases hh
    obtain ⟨h2, h3⟩ := hb x hM
    refine ⟨x.toNat, by omega, ?_, ?_⟩
    · rw [hx]; simp only [key, Lit.int.injEq, true_and]; omega
    · rw [Int.toNat_of_nonneg h2]; exact hM
  refine ⟨es0.map fun p => match p.1 with | .int _ x => x.toNat | _ => 0, ⟨?_, fun f => ?_⟩, by simp [Maps.size]⟩
  · unfold List.Nodup
    rw [List.pairwise_map]
    refine hne.imp_of_mem ?_
    intro p q hp hq hpq
    obtain ⟨f, -, e1, -⟩ := hk p hp
    obtain ⟨g, -, e2, -⟩ := hk q hq
    rw [e1, e2] at hpq
    rw [e1, e2]
    intro hfg
    apply hpq
    simp only [key, Int.toNat_natCast] at hfg
    rw [hfg]
  · rw [List.mem_map]
    constructor
    · rintro ⟨p, hp, rfl⟩
      obtain ⟨f, hf1, e1, hM⟩ := hk p hp
      rw [e1]
      simpa [key] using hM
    · intro hM
      have hbd := hb f hM
      have h1 := hf f (i64_nat (by omega))
      have h2 : Maps.has (DataW.map es0) (key f) = true := by
        rw [h1]
        cases e : M f with
        | none => exact absurd e hM
        | some _ => rfl
      rw [Maps.has_eq] at h2
      obtain ⟨p, hp, hs⟩ := List.any_eq_true.1 h2
      obtain ⟨g, -, e1, -⟩ := hk p hp
      refine ⟨p, hp, ?_⟩
      rw [e1] at hs ⊢
      simp only [key, Lit.sameKey] at hs
      simp only [key, Int.toNat_natCast]
      simp at hs
      omega
theorem MB.congr (h : MB w b M) {M' : Int → Option Nat} (hM : ∀ f, M f = M' f) : MB w b M' := by
  obtain rfl : M = M' := funext hM
  exact h
theorem MB.lt (h : MB w b M) : b < w.heap.size := by obtain ⟨D, ho, _⟩ := h.ex; exact ho.lt
theorem MB.grown (h : MB w b M) {row : Option Nat} (hg : w.grownBy w' row) (hne : some b ≠ row) : MB w' b M := by
  obtain ⟨⟨D, ho, h1, h2⟩, hb⟩ := h
  exact ⟨⟨D, ho.kept hg hne, h1, h2⟩, hb⟩
theorem MB.heap (h : MB w b M) (e : w'.heap[b]? = w.heap[b]?) : MB w' b M := by
  obtain ⟨⟨D, ⟨es, clock, hb, F, hs, hD⟩, h1, h2⟩, hbd⟩ := h
  exact ⟨⟨D, ⟨es, clock, e.trans hb, F, hs, hD⟩, h1, h2⟩, hbd⟩
theorem MB.keep (h : MB w b M) (hb : Below w.heap.size w w') : MB w' b M := h.heap (hb.block b h.lt)
theorem MB.far (h : MB w b M) {p : Addr} (hp : b ≠ p.block) (u : Value) : MB (w.setCell p u) b M := h.heap (Below.heap_setCell w p u b hp)
theorem MB.alloc (h : MB w b M) (o : Obj) : MB (w.alloc o) b M := h.heap (Below.heap_alloc w o b h.lt)
theorem MB.drew (h : MB w b M) (t : Nat) : MB (w.drewN t) b M := h.heap rfl
theorem MB.drew1 (h : MB w b M) : MB w.drew b M := h.heap rfl
theorem MB.look (h : MB w b M) (f : Int) (hf : I64 f) :
    (Instr.lookup 84 (.map (some b)) (.int .i64 f) false).run Tryz.prog w = .ok (ptr (M f)) w := by
  obtain ⟨⟨D, ho, h1, h2⟩, hb⟩ := h
  obtain ⟨v, ps, hrun, hv⟩ := ho.lookup keyed_int und_map (zero_ptr w) (PR_ptr none) (key_of f hf)
  have e : v = ptr (M f) := by
    apply PR_inv (ps := ps)
    rw [hv]
    cases hm : M f with
    | none => have := h1 f hf; rw [hm] at this; rw [Maps.atKey_of_not_has (by simpa using this)]
    | some g => rw [h2 f g hf hm]
  rw [hrun, e]
theorem MB.count (h : MB w b M) {ss : List Nat} (hs : Nums M ss) (ty : TypeId) : (Builtin.len_ #[84] ty #[.map (some b)]).run Tryz.prog w = .ok (.int .i64 (ss.length : Int)) w := by
  obtain ⟨⟨D, ho, h1, h2⟩, hb⟩ := h
  obtain ⟨ss', h3, h4⟩ := own_nums ho h1 hb
  rw [ho.len und_map ty, ← h4, h3.len_eq hs]
def upd (M : Int → Option Nat) (f : Int) (x : Option Nat) : Int → Option Nat := fun g => if g = f then x else M g
theorem MB.put (h : MB w b M) (f : Int) (g : Nat) (hf : 0 ≤ f ∧ f < 65536) :
    ∃ w', (Instr.mapUpdate 84 (.map (some b)) (.int .i64 f) (.pointer (some ⟨g, 0, none⟩))).run Tryz.prog w = .ok () w' ∧ MB w' b (upd M f (some g)) ∧ w.grownBy w' (some b) ∧ w'.heap.size = w.heap.size := by
  obtain ⟨⟨D, ho, h1, h2⟩, hb⟩ := h
  have hf2 : I64 f := ⟨by omega, by omega⟩
  obtain ⟨ss, hN, hL⟩ := own_nums ho h1 hb
  have hsz : Maps.size D ≤ 65536 := by
    rw [← hL]
    exact nodup_le 65536 ss hN.1 fun x hx => by have := hb x ((hN.2 x).1 hx); omega
  obtain ⟨w', hrun, ho', ht⟩ := ho.store keyed_int und_map (by unfold maxLen; omega) (key_of f hf2) (PR_ptr (some g))
  refine ⟨w', hrun, ⟨⟨_, own_tight ho', fun k hk => ?_, fun k vs hk hv z => ?_⟩, fun k hk => ?_⟩, ht.grown, ?_⟩
  · unfold upd
    by_cases e : k = f
    · subst e; rw [if_pos rfl, Maps.has_put_same ho.isMap (isKey k hk)]; rfl
    · rw [if_neg e, Maps.has_put_other (key_ne e), h1 k hk]
  · unfold upd at hv
    by_cases e : k = f
    · subst e; rw [if_pos rfl] at hv; cases hv; exact Maps.atKey_put_same ho.isMap (isKey k hk) _ _
    · rw [if_neg e] at hv; rw [Maps.atKey_put_other (key_ne e)]; exact h2 k vs hk hv z
  · unfold upd at hk
    by_cases e : k = f
    · omega
    · rw [if_neg e] at hk; exact hb k hk
  · obtain ⟨es, c, es', c', hbb, rfl⟩ := ht
    simp [ChangeMaps.setBlock]
theorem MB.del (h : MB w b M) (f : Int) (hf : I64 f) (ty : TypeId) :
    ∃ w', (Builtin.delete_ #[84, 3] ty #[.map (some b), .int .i64 f]).run Tryz.prog w = .ok (.tuple #[]) w' ∧ MB w' b (upd M f none) ∧ w.grownBy w' (some b) ∧ w'.heap.size = w.heap.size := by
  obtain ⟨⟨D, ho, h1, h2⟩, hb⟩ := h
  obtain ⟨w', hrun, ho', ht⟩ := ho.drop keyed_int und_map (key_of f hf) ty
  refine ⟨w', hrun, ⟨⟨_, own_tight ho', fun g hg => ?_, fun g vs hg hv z => ?_⟩, fun g hg => ?_⟩, ht.grown, ?_⟩
  · unfold upd
    by_cases e : g = f
    · subst e; rw [if_pos rfl, Maps.has_del_same]; rfl
    · rw [if_neg e, Maps.has_del_other (key_ne e), h1 g hg]
  · unfold upd at hv
    by_cases e : g = f
    · rw [if_pos e] at hv; cases hv
    · rw [if_neg e] at hv; rw [Maps.atKey_del_other (key_ne e)]; exact h2 g vs hg hv z
  · unfold upd at hg
    by_cases e : g = f
    · rw [if_pos e] at hg; exact absurd rfl hg
    · rw [if_neg e] at hg; exact hb g hg
  · obtain ⟨es, c, es', c', hbb, rfl⟩ := ht
    simp [ChangeMaps.setBlock]
theorem MB.new (w : World) : MB (w.alloc (.map #[] 0)) w.heap.size (fun _ => none) :=
  ⟨⟨.map [], own_tight (World.ownsMap_made w _ _ PR), fun _ _ => rfl, fun _ _ _ h => by cases h⟩, fun _ h => absurd rfl h⟩
end
end IS
end Go.Proofs.YtfhidjkhmjdioaaGreat

namespace Go.Proofs.YtfhidjkhmjdioaaGreat
open Go.ChangeShapes Go.WideShapes Go.ChangeAt Go.RowKit
set_option linter.unusedVariables false
set_option linter.unusedSimpArgs false
namespace Own
section
variable {w w' : World} {base e size n : Nat} {v : Value} {xs : List Value}
theorem ge (hown : w.ownsRow base e size v n xs) (g : Nat) (hg : v.ownBlock = some g) : base ≤ g := by
  rcases hown.2 with ⟨rfl, _⟩ | ⟨g', cap, cur, rfl, hb, _⟩
  · cases hg
  · cases hg; exact hb
theorem low {base' : Nat} (h : base' ≤ base) (hown : w.ownsRow base e size v n xs) : w.ownsRow base' e size v n xs := by
  rcases hown.2 with h0 | ⟨g, cap, cur, h1, h2, h3⟩
  · exact ⟨hown.1, .inl h0⟩
  · exact ⟨hown.1, .inr ⟨g, cap, cur, h1, Nat.le_trans h h2, h3⟩⟩
theorem form (h : w.ownsRow base e size v n xs) : ∃ ao cap, v = .slice ao n cap := by
  rcases h.2 with ⟨rfl, rfl⟩ | ⟨g, cap, cur, rfl, _⟩
  · exact ⟨_, _, rfl⟩
  · exact ⟨_, _, rfl⟩
theorem set (h : w.ownsRow base e size v n xs) {p : Addr} (hp : p.block < base) (u : Value) : (w.setCell p u).ownsRow base e size v n xs := by
  rcases h.2 with h0 | ⟨g, cap, cur, h1, h2, h3, h4⟩
  · exact ⟨h.1, .inl h0⟩
  · exact ⟨h.1, .inr ⟨g, cap, cur, h1, h2, (Below.heap_setCell w p u g (by omega)).trans h3, h4⟩⟩
theorem below (h : w.ownsRow base e size v n xs) (hb : Below w.heap.size w w') : w'.ownsRow base e size v n xs := by
  rcases h.2 with h0 | ⟨g, cap, cur, h1, h2, h3, h4⟩
  · exact ⟨h.1, .inl h0⟩
  · have hlt : g < w.heap.size := by
      rcases Nat.lt_or_ge g w.heap.size with hlt | hge
      · exact hlt
      · rw [Array.getElem?_eq_none hge] at h3; cases h3
    exact ⟨h.1, .inr ⟨g, cap, cur, h1, h2, (hb.block g hlt).trans h3, h4⟩⟩
theorem cut {ao : Option Addr} {cap : Nat} (h : w.ownsRow base e size (.slice ao n cap) n xs) {k : Nat} (hk : k ≤ n) : w.ownsRow base e size (.slice ao k cap) k (xs.take (k * size)) := by
  have hks : k * size ≤ n * size := Nat.mul_le_mul_right _ hk
  rcases h.2 with ⟨h', h''⟩ | ⟨g, cap', cur, h', hb, hg, hnc, hcm, hcs, htake⟩
  · simp only [Value.slice.injEq] at h'
    obtain ⟨rfl, rfl, rfl⟩ := h'
    obtain rfl : k = 0 := by omega
    rw [Nat.zero_mul, List.take_zero]
    exact World.ownsRow_nil _ _ _ _
  · simp only [Value.slice.injEq, true_and] at h'
    obtain ⟨rfl, rfl⟩ := h'
    refine ⟨by rw [List.length_take, h.1]; omega, .inr ⟨g, cap, cur, rfl, hb, hg, by omega, hcm, hcs, ?_⟩⟩
    rw [← htake, List.take_take, Nat.min_eq_left hks]
end
theorem undrew {w w' : World} {row : Option Nat} (h : w.drew.grownBy w' row) : w.grownBy w' row := ⟨h.os, h.tape, h.output, h.size, h.block⟩
theorem bundrew {B : Nat} {w w' : World} (h : Below B w.drew w') : Below B w w' := ⟨h.os, h.tape, h.output, h.size, h.block⟩
theorem cellg {w w' : World} {row : Option Nat} {p : Addr} {v : Value} (hg : w.grownBy w' row) (hc : w.cell? p = some v) (hp : some p.block ≠ row) : w'.cell? p = some v := by
  rw [World.cell?_of_block (w := w) (hg.block p.block (World.block_lt_of_cell? w _ hc) hp)]
  exact hc
theorem cells_two (w : World) (a b : Value) (t : TypeId) (s : Nat × Nat) : ∀ j u, [a, b][j]? = some u → (w.alloc (.cells #[a, b] t s)).cell? ((⟨w.heap.size, 0, none⟩ : Addr).add j) = some u := by
  intro j u hu
  have hr := heap_alloc_new w (.cells #[a, b] t s)
  rw [Addr.add_lit, cell_of_row _ _ _ _ _ _ hr]
  match j, hu with
  | 0, hu => simpa using hu
  | 1, hu => simpa using hu
end Own
end Go.Proofs.YtfhidjkhmjdioaaGreat

namespace Go.Proofs.YtfhidjkhmjdioaaGreat
set_option linter.unusedVariables false
set_option linter.unusedSimpArgs false
namespace EM
def fin (x : Int × ByteArray) : Int := x.1 + x.2.size
def ok : Int → List (Int × ByteArray) → Bool
  | _, [] => true
  | b, x :: r => decide (0 < x.2.size) && decide (b ≤ x.1) && decide (fin x ≤ 1048576) && ok (fin x + 1) r
def nxt : Int → List (Int × ByteArray) → Int
  | b, [] => b
  | _, x :: r => nxt (fin x + 1) r
def wk : Int → List (Int × ByteArray) → Prop
  | _, [] => True
  | b, x :: r => 0 < x.2.size ∧ b ≤ x.1 ∧ fin x ≤ 1048576 ∧ wk (fin x) r
def get (x : Int × ByteArray) (i : Int) : Option UInt8 := if x.1 ≤ i then x.2.data.toList[(i - x.1).toNat]? else none
def cont : List (Int × ByteArray) → Int → Option UInt8
  | [], _ => none
  | x :: r, i => (get x i).or (cont r i)
def piece (lo hi : Int) (x : Int × ByteArray) : Option (Int × ByteArray) :=
  if max x.1 lo < min (fin x) hi then some (max x.1 lo, x.2.extract (max x.1 lo - x.1).toNat (min (fin x) hi - x.1).toNat) else none
def part (lo hi : Int) (l : List (Int × ByteArray)) : List (Int × ByteArray) := l.filterMap (piece lo hi)
def put (out : List (Int × ByteArray)) (x : Int × ByteArray) : List (Int × ByteArray) :=
  match out.getLast? with
  | some y => if fin y = x.1 then out.dropLast ++ [(y.1, y.2 ++ x.2)] else out ++ [x]
  | none => [x]
def merge (l : List (Int × ByteArray)) : List (Int × ByteArray) := l.foldl put []
def wr (l : List (Int × ByteArray)) (f : Int) (d : ByteArray) : List (Int × ByteArray) :=
  merge (if d.size = 0 then l else part 0 f l ++ [(f, d)] ++ part (f + d.size) 1048576 l)
def rd (l : List (Int × ByteArray)) (f : Int) (m : Nat) : List UInt8 := (List.range m).map fun (i : Nat) => (cont l (f + (i : Int))).getD 0
def cnt (l : List (Int × ByteArray)) : Nat := (l.map fun x => x.2.size).sum
def cat (l : List (Int × ByteArray)) : List UInt8 := l.flatMap fun x => x.2.data.toList
/-! Bytes. -/
theorem list_size (s : ByteArray) : s.data.toList.length = s.size := Array.length_toList
theorem ba_inj {s t : ByteArray} (h : s.data.toList = t.data.toList) : s = t := by
  cases s; cases t
  congr 1
  exact Array.toList_inj.1 h
theorem cut_list (s : ByteArray) (a b : Nat) : (s.extract a b).data.toList = (s.data.toList.take b).drop a := by
  rw [ByteArray.data_extract, Array.toList_extract, List.extract_eq_take_drop, List.drop_take]
theorem cut_size (s : ByteArray) (a b : Nat) (h : b ≤ s.size) : (s.extract a b).size = b - a := by
  rw [← list_size, cut_list, List.length_drop, List.length_take, list_size]; omega
theorem app_list (s t : ByteArray) : (s ++ t).data.toList = s.data.toList ++ t.data.toList := by rw [ByteArray.data_append, Array.toList_append]
theorem app_size (s t : ByteArray) : (s ++ t).size = s.size + t.size := by rw [← list_size, app_list, List.length_append, list_size, list_size]
/-! One extent. -/
theorem get_some {x : Int × ByteArray} {i : Int} (h1 : x.1 ≤ i) (h2 : i < fin x) : ∃ c, get x i = some c := by
  unfold get fin at *
  rw [if_pos h1, List.getElem?_eq_getElem (by rw [list_size]; omega)]
  exact ⟨_, rfl⟩
theorem get_none {x : Int × ByteArray} {i : Int} (h : i < x.1 ∨ fin x ≤ i) : get x i = none := by
  unfold get fin at *
  split
  · rw [List.getElem?_eq_none (by rw [list_size]; omega)]
  · rfl
theorem get_piece (lo hi : Int) (x : Int × ByteArray) (i : Int) : ((piece lo hi x).bind fun y => get y i) = if lo ≤ i ∧ i < hi then get x i else none := by
  unfold piece
  by_cases h : max x.1 lo < min (fin x) hi
  · rw [if_pos h]
    show get _ i = _
    have hf : fin x = x.1 + x.2.size := rfl
    by_cases hi1 : max x.1 lo ≤ i ∧ i < min (fin x) hi
    · rw [if_pos (by omega)]
      unfold get
      rw [if_pos hi1.1, if_pos (by omega)]
      simp only
      rw [cut_list, List.getElem?_drop, List.getElem?_take, if_pos (by omega)]
      congr 1
      omega
    · rw [get_none]
      · split
        · rw [get_none (by omega)]
        · rfl
      · simp only [fin]
        rw [cut_size _ _ _ (by omega)]
        omega
  · rw [if_neg h]
    show none = _
    have hf : fin x = x.1 + x.2.size := rfl
    split
    · rw [get_none (by omega)]
    · rfl
theorem piece_fin {lo hi : Int} {x y : Int × ByteArray} (h : piece lo hi x = some y) : y.1 = max x.1 lo ∧ fin y = min (fin x) hi ∧ y.1 < fin y := by
  unfold piece at h
  have hf : fin x = x.1 + x.2.size := rfl
  split at h
  · obtain rfl := Option.some.inj h
    have : fin (max x.1 lo, x.2.extract (max x.1 lo - x.1).toNat (min (fin x) hi - x.1).toNat) = min (fin x) hi := by
      simp only [fin]
      rw [cut_size _ _ _ (by omega)]
      omega
    exact ⟨rfl, this, by rw [this]; assumption⟩
  · cases h
theorem fin_pos (x : Int × ByteArray) : x.1 < fin x ↔ 0 < x.2.size := by unfold fin; omega
/-! Lists. -/
theorem cont_append (a b : List (Int × ByteArray)) (i : Int) : cont (a ++ b) i = (cont a i).or (cont b i) := by
  induction a with
  | nil => rfl
  | cons x r ih => simp only [List.cons_append, cont, ih, Option.or_assoc]
theorem cont_one (x : Int × ByteArray) (i : Int) : cont [x] i = get x i := by simp [cont]
theorem cont_part (lo hi : Int) (l : List (Int × ByteArray)) (i : Int) : cont (part lo hi l) i = if lo ≤ i ∧ i < hi then cont l i else none := by
  induction l with
  | nil => simp [part, cont]
  | cons x r ih =>
    have hp := get_piece lo hi x i
    unfold part at ih ⊢
    cases h : piece lo hi x with
    | none =>
      rw [h] at hp
      rw [List.filterMap_cons_none h, ih]
      simp only [cont]
      split
      · rename_i hc
        rw [if_pos hc] at hp
        rw [← hp]; rfl
      · rfl
    | some y =>
      rw [h] at hp
      rw [List.filterMap_cons_some h]
      simp only [cont, ih]
      rw [show get y i = _ from hp]
      split <;> simp
theorem ok_append (b : Int) (l m : List (Int × ByteArray)) : ok b (l ++ m) = (ok b l && ok (nxt b l) m) := by
  induction l generalizing b with
  | nil => simp [ok, nxt]
  | cons x r ih => simp only [List.cons_append, ok, nxt, ih, Bool.and_assoc]
theorem nxt_append (b : Int) (l m : List (Int × ByteArray)) : nxt b (l ++ m) = nxt (nxt b l) m := by
  induction l generalizing b with
  | nil => rfl
  | cons x r ih => simp only [List.cons_append, nxt, ih]
theorem nxt_snoc (b : Int) (l : List (Int × ByteArray)) (x : Int × ByteArray) : nxt b (l ++ [x]) = fin x + 1 := by rw [nxt_append]; rfl
theorem ok_cons {b : Int} {x : Int × ByteArray} {r : List (Int × ByteArray)} : ok b (x :: r) = true ↔ 0 < x.2.size ∧ b ≤ x.1 ∧ fin x ≤ 1048576 ∧ ok (fin x + 1) r = true := by
  simp only [ok, Bool.and_eq_true, decide_eq_true_eq, and_assoc]
theorem ok_le {b c : Int} {l : List (Int × ByteArray)} (h : ok b l = true) (hc : c ≤ b) : ok c l = true := by
  cases l with
  | nil => rfl
  | cons x r =>
    rw [ok_cons] at h ⊢
    exact ⟨h.1, by omega, h.2.2⟩
theorem ok_wk {b : Int} {l : List (Int × ByteArray)} (h : ok b l = true) : wk b l := by
  induction l generalizing b with
  | nil => trivial
  | cons x r ih =>
    rw [ok_cons] at h
    exact ⟨h.1, h.2.1, h.2.2.1, ih (ok_le h.2.2.2 (by omega))⟩
theorem wk_le {b c : Int} {l : List (Int × ByteArray)} (h : wk b l) (hc : c ≤ b) : wk c l := by
  cases l with
  | nil => trivial
  | cons x r => exact ⟨h.1, by have := h.2.1; omega, h.2.2⟩
theorem wk_append {b c : Int} {l m : List (Int × ByteArray)} (h : wk b l) (hb : b ≤ c) (hc : ∀ x ∈ l, fin x ≤ c) (hm : wk c m) : wk b (l ++ m) := by
  induction l generalizing b with
  | nil => exact wk_le hm hb
  | cons x r ih => exact ⟨h.1, h.2.1, h.2.2.1, ih h.2.2.2 (hc x (by simp)) fun y hy => hc y (by simp [hy])⟩
theorem wk_part {b : Int} {l : List (Int × ByteArray)} (h : ok b l = true) (lo hi : Int) : wk (max b lo) (part lo hi l) ∧ ∀ x ∈ part lo hi l, fin x ≤ hi := by
  unfold part
  induction l generalizing b with
  | nil => exact ⟨trivial, fun x hx => by simp at hx⟩
  | cons x r ih =>
    rw [ok_cons] at h
    obtain ⟨i1, i2⟩ := ih h.2.2.2
    cases hp : piece lo hi x with
    | none =>
      rw [List.filterMap_cons_none hp]
      refine ⟨wk_le i1 ?_, i2⟩
      have := (fin_pos x).2 h.1
      omega
    | some y =>
      rw [List.filterMap_cons_some hp]
      obtain ⟨h1, h2, h3⟩ := piece_fin hp
      refine ⟨⟨(fin_pos y).1 h3, by omega, by omega, wk_le i1 (by omega)⟩, fun z hz => ?_⟩
      rcases List.mem_cons.1 hz with rfl | hz
      · omega
      · exact i2 z hz
theorem ok_part {b : Int} {l : List (Int × ByteArray)} (h : ok b l = true) (lo hi : Int) (hlo : lo ≤ b) : ok b (part lo hi l) = true := by
  unfold part
  induction l generalizing b with
  | nil => rfl
  | cons x r ih =>
    rw [ok_cons] at h
    have := (fin_pos x).2 h.1
    have i1 := ih h.2.2.2 (by omega)
    cases hp : piece lo hi x with
    | none => rw [List.filterMap_cons_none hp]; exact ok_le i1 (by omega)
    | some y =>
      rw [List.filterMap_cons_some hp, ok_cons]
      obtain ⟨h1, h2, h3⟩ := piece_fin hp
      exact ⟨(fin_pos y).1 h3, by omega, by omega, ok_le i1 (by omega)⟩
/-! Where nothing stands. -/
theorem cont_below {b : Int} {l : List (Int × ByteArray)} (h : wk b l) {i : Int} (hi : i < b) : cont l i = none := by
  induction l generalizing b with
  | nil => rfl
  | cons x r ih =>
    have := (fin_pos x).2 h.1
    have h2 := h.2.1
    simp only [cont]
    rw [get_none (by omega), ih h.2.2.2 (by omega)]; rfl
theorem cont_above {b : Int} {l : List (Int × ByteArray)} (h : wk b l) {i : Int} (hi : 1048576 ≤ i) : cont l i = none := by
  induction l generalizing b with
  | nil => rfl
  | cons x r ih =>
    have h2 := h.2.2.1
    simp only [cont]
    rw [get_none (by omega), ih h.2.2.2]; rfl
/-! A list is its bytes. -/
theorem ok_unique {b c : Int} {l m : List (Int × ByteArray)} (hl : ok b l = true) (hm : ok c m = true) (h : ∀ i, cont l i = cont m i) : l = m := by
  induction l generalizing b c m with
  | nil =>
    cases m with
    | nil => rfl
    | cons y s =>
      rw [ok_cons] at hm
      obtain ⟨c, hc⟩ := get_some (x := y) (Int.le_refl _) ((fin_pos y).2 hm.1)
      have := h y.1
      simp only [cont, hc] at this
      simp at this
  | cons x r ih =>
    cases m with
    | nil =>
      rw [ok_cons] at hl
      obtain ⟨c, hc⟩ := get_some (x := x) (Int.le_refl _) ((fin_pos x).2 hl.1)
      have := h x.1
      simp only [cont, hc] at this
      simp at this
    | cons y s =>
      rw [ok_cons] at hl hm
      have px := (fin_pos x).2 hl.1
      have py := (fin_pos y).2 hm.1
      have kx : ∀ i, i < fin x + 1 → cont r i = none := fun i hi => cont_below (ok_wk hl.2.2.2) hi
      have ky : ∀ i, i < fin y + 1 → cont s i = none := fun i hi => cont_below (ok_wk hm.2.2.2) hi
      have h' : ∀ i, (get x i).or (cont r i) = (get y i).or (cont s i) := h
      have e1 : x.1 = y.1 := by
        rcases Int.lt_trichotomy x.1 y.1 with hlt | he | hlt
        · have := h' x.1
          obtain ⟨c, hc⟩ := get_some (x := x) (Int.le_refl _) px
          rw [hc, get_none (x := y) (by omega), ky _ (by omega)] at this
          simp at this
        · exact he
        · have := h' y.1
          obtain ⟨c, hc⟩ := get_some (x := y) (Int.le_refl _) py
          rw [hc, get_none (x := x) (by omega), kx _ (by omega)] at this
          simp at this
      have e2 : fin x = fin y := by
        rcases Int.lt_trichotomy (fin x) (fin y) with hlt | he | hlt
        · have := h' (fin x)
          obtain ⟨c, hc⟩ := get_some (x := y) (i := fin x) (by omega) hlt
          rw [hc, get_none (x := x) (by omega), kx _ (by omega)] at this
          simp at this
        · exact he
        · have := h' (fin y)
          obtain ⟨c, hc⟩ := get_some (x := x) (i := fin y) (by omega) hlt
          rw [hc, get_none (x := y) (by omega), ky _ (by omega)] at this
          simp at this
      have e3 : x.2 = y.2 := by
        apply ba_inj
        have hs : x.2.size = y.2.size := by unfold fin at e2; omega
        apply List.ext_getElem?
        intro k
        by_cases hk : k < x.2.size
        · have hg := h' (x.1 + k)
          rw [kx _ (by unfold fin; omega), ky _ (by unfold fin; omega)] at hg
          simp only [Option.or_none] at hg
          unfold get at hg
          rw [if_pos (by omega), if_pos (by omega), ← e1, show (x.1 + (k : Int) - x.1).toNat = k by omega] at hg
          exact hg
        · rw [List.getElem?_eq_none (by rw [list_size]; omega), List.getElem?_eq_none (by rw [list_size]; omega)]
      have e : x = y := Prod.ext e1 e3
      subst e
      congr 1
      refine ih hl.2.2.2 hm.2.2.2 fun i => ?_
      by_cases hi : i < fin x + 1
      · rw [kx i hi, ky i hi]
      · have := h' i
        rw [get_none (x := x) (by omega)] at this
        simpa using this
/-! Pieces made one list. -/
theorem put_nil (x : Int × ByteArray) : put [] x = [x] := rfl
theorem put_snoc (o : List (Int × ByteArray)) (y x : Int × ByteArray) : put (o ++ [y]) x = if fin y = x.1 then o ++ [(y.1, y.2 ++ x.2)] else o ++ [y] ++ [x] := by
  unfold put
  rw [List.getLast?_concat, List.dropLast_concat]
theorem fin_join {y x : Int × ByteArray} (h : fin y = x.1) : fin (y.1, y.2 ++ x.2) = fin x := by
  unfold fin at *
  simp only
  rw [app_size]; omega
theorem get_join {y x : Int × ByteArray} (h : fin y = x.1) (i : Int) : get (y.1, y.2 ++ x.2) i = (get y i).or (get x i) := by
  by_cases h1 : i < y.1
  · rw [get_none (x := (y.1, y.2 ++ x.2)) (.inl h1), get_none (x := y) (.inl h1), get_none (x := x) (.inl (by unfold fin at h; omega))]; rfl
  · by_cases h2 : i < fin y
    · obtain ⟨c, hc⟩ := get_some (x := y) (by omega) h2
      rw [hc]
      unfold get at hc ⊢
      simp only
      rw [if_pos (by omega)] at hc ⊢
      rw [app_list, List.getElem?_append_left (by rw [list_size]; unfold fin at h2; omega), hc]; rfl
    · rw [get_none (x := y) (.inr (by omega))]
      unfold get
      unfold fin at h h2
      simp only
      rw [if_pos (by omega), if_pos (by omega), app_list, List.getElem?_append_right (by rw [list_size]; omega), list_size]
      simp only [Option.none_or]
      congr 1
      omega
theorem cont_put (o : List (Int × ByteArray)) (x : Int × ByteArray) (i : Int) : cont (put o x) i = (cont o i).or (get x i) := by
  rcases List.eq_nil_or_concat o with rfl | ⟨q, y, rfl⟩
  · simp [put_nil, cont]
  · rw [List.concat_eq_append, put_snoc]
    split
    · rename_i h
      rw [cont_append, cont_append, cont_one, cont_one, get_join h, Option.or_assoc]
    · rw [cont_append, cont_one]
theorem cont_fold (o l : List (Int × ByteArray)) (i : Int) : cont (l.foldl put o) i = (cont o i).or (cont l i) := by
  induction l generalizing o with
  | nil => simp [cont]
  | cons x r ih => rw [List.foldl_cons, ih, cont_put, Option.or_assoc]; rfl
theorem cont_merge (l : List (Int × ByteArray)) (i : Int) : cont (merge l) i = cont l i := by unfold merge; rw [cont_fold]; rfl
theorem ok_put {b c : Int} {o : List (Int × ByteArray)} {x : Int × ByteArray} (ho : ok b o = true) (hn : nxt b o ≤ c + 1) (hb : b ≤ c) (h0 : 0 < x.2.size) (h1 : c ≤ x.1) (h2 : fin x ≤ 1048576) : ok b (put o x) = true ∧ nxt b (put o x) ≤ fin x + 1 := by
  rcases List.eq_nil_or_concat o with rfl | ⟨q, y, rfl⟩
  · rw [put_nil]
    exact ⟨ok_cons.2 ⟨h0, by omega, h2, rfl⟩, Int.le_refl _⟩
  · rw [List.concat_eq_append] at *
    rw [nxt_snoc] at hn
    rw [ok_append, Bool.and_eq_true, ok_cons] at ho
    rw [put_snoc]
    split
    · rename_i h
      rw [nxt_snoc, ok_append, Bool.and_eq_true, ok_cons, fin_join h]
      refine ⟨⟨ho.1, ?_, ho.2.2.1, h2, rfl⟩, Int.le_refl _⟩
      simp only
      rw [app_size]; omega
    · rw [nxt_snoc, ok_append, ok_append, nxt_snoc, Bool.and_eq_true, Bool.and_eq_true, ok_cons, ok_cons]
      exact ⟨⟨⟨ho.1, ho.2⟩, h0, by omega, h2, rfl⟩, Int.le_refl _⟩
theorem ok_fold {b c : Int} {o l : List (Int × ByteArray)} (ho : ok b o = true) (hn : nxt b o ≤ c + 1) (hb : b ≤ c) (hl : wk c l) : ok b (l.foldl put o) = true := by
  induction l generalizing o c with
  | nil => exact ho
  | cons x r ih =>
    obtain ⟨h0, h1, h2, h3⟩ := hl
    obtain ⟨p1, p2⟩ := ok_put ho hn hb h0 h1 h2
    have := (fin_pos x).2 h0
    exact ih p1 p2 (by omega) h3
theorem ok_merge {b : Int} {l : List (Int × ByteArray)} (hl : wk b l) : ok b (merge l) = true := ok_fold rfl (by show b ≤ b + 1; omega) (Int.le_refl _) hl
theorem merge_id {b : Int} {l : List (Int × ByteArray)} (hl : ok b l = true) : merge l = l := ok_unique (ok_merge (ok_wk hl)) hl (cont_merge l)
/-! A write. -/
theorem wk_write {l : List (Int × ByteArray)} {f : Int} {d : ByteArray} (hl : ok 0 l = true) (hf : 0 ≤ f) (hd : f + d.size ≤ 1048576) (h0 : 0 < d.size) : wk 0 (part 0 f l ++ [(f, d)] ++ part (f + d.size) 1048576 l) := by
  obtain ⟨p1, p2⟩ := wk_part hl 0 f
  obtain ⟨q1, q2⟩ := wk_part hl (f + d.size) 1048576
  have hone : wk f [(f, d)] := ⟨h0, Int.le_refl _, hd, trivial⟩
  refine wk_append (c := f + d.size) (wk_append (c := f) (wk_le p1 (by omega)) hf p2 hone) (by omega) (fun x hx => ?_) (wk_le q1 (by omega))
  rcases List.mem_append.1 hx with hx | hx
  · have := p2 x hx; omega
  · rw [List.mem_singleton.1 hx]; exact Int.le_refl _
theorem wr_nil {l : List (Int × ByteArray)} {f : Int} {d : ByteArray} (hl : ok 0 l = true) (h : d.size = 0) : wr l f d = l := by
  unfold wr
  rw [if_pos h, merge_id hl]
theorem wr_ok {l : List (Int × ByteArray)} {f : Int} {d : ByteArray} (hl : ok 0 l = true) (hf : 0 ≤ f) (hd : f + d.size ≤ 1048576) : ok 0 (wr l f d) = true := by
  unfold wr
  split
  · exact ok_merge (ok_wk hl)
  · exact ok_merge (wk_write hl hf hd (by omega))
theorem get_one (f : Int) (d : ByteArray) (i : Int) : get (f, d) i = if f ≤ i ∧ i < f + d.size then d.data.toList[(i - f).toNat]? else none := by
  by_cases h : f ≤ i ∧ i < f + d.size
  · rw [if_pos h]; unfold get; rw [if_pos h.1]
  · rw [if_neg h, get_none]; unfold fin; simp only; omega
theorem wr_cont {l : List (Int × ByteArray)} {f : Int} {d : ByteArray} (hl : ok 0 l = true) (hf : 0 ≤ f) (hd : f + d.size ≤ 1048576) (i : Int) :
    cont (wr l f d) i = if f ≤ i ∧ i < f + d.size then d.data.toList[(i - f).toNat]? else cont l i := by
  unfold wr
  split
  · rw [cont_merge, if_neg (by omega)]
  · rw [cont_merge, cont_append, cont_append, cont_one, cont_part, cont_part, get_one]
    by_cases h : f ≤ i ∧ i < f + d.size
    · have e1 : ¬ (0 ≤ i ∧ i < f) := by omega
      have e2 : ¬ (f + (d.size : Int) ≤ i ∧ i < 1048576) := by omega
      rw [if_pos h, if_pos h, if_neg e1, if_neg e2]; simp
    · rw [if_neg h, if_neg h]
      by_cases h0 : i < 0
      · rw [if_neg (by omega), if_neg (by omega), cont_below (ok_wk hl) h0]; rfl
      · by_cases h1 : i < f
        · rw [if_pos (by omega), if_neg (by omega)]; simp
        · by_cases h2 : i < 1048576
          · rw [if_neg (by omega), if_pos (by omega)]; simp
          · rw [if_neg (by omega), if_neg (by omega), cont_above (ok_wk hl) (by omega)]; rfl
/-! A read. -/
theorem rd_length (l : List (Int × ByteArray)) (f : Int) (m : Nat) : (rd l f m).length = m := by simp [rd]
theorem rd_get (l : List (Int × ByteArray)) (f : Int) (m : Nat) (k : Nat) (h : k < m) : (rd l f m)[k]? = some ((cont l (f + k)).getD 0) := by simp [rd, h]
theorem rd_ext {l m : List (Int × ByteArray)} {f : Int} {n : Nat} (h : ∀ i : Int, f ≤ i → i < f + n → cont l i = cont m i) : rd l f n = rd m f n := by
  unfold rd
  refine List.map_congr_left fun k hk => ?_
  have := List.mem_range.1 hk
  rw [h _ (by omega) (by omega)]
theorem rd_two (l : List (Int × ByteArray)) (f : Int) (n m : Nat) : rd l f (n + m) = rd l f n ++ rd l (f + n) m := by
  unfold rd
  rw [List.range_add, List.map_append, List.map_map]
  congr 1
  refine List.map_congr_left fun k hk => ?_
  simp only [Function.comp_apply]
  congr 2
  omega
theorem rd_wr {l : List (Int × ByteArray)} {f : Int} {d : ByteArray} (hl : ok 0 l = true) (hf : 0 ≤ f) (hd : f + d.size ≤ 1048576) : rd (wr l f d) f d.size = d.data.toList := by
  apply List.ext_getElem?
  intro k
  by_cases hk : k < d.size
  · rw [rd_get _ _ _ _ hk, wr_cont hl hf hd, if_pos (by omega), show (f + (k : Int) - f).toNat = k by omega, List.getElem?_eq_getElem (by rw [list_size]; exact hk)]; rfl
  · rw [List.getElem?_eq_none (by rw [rd_length]; omega), List.getElem?_eq_none (by rw [list_size]; omega)]
theorem rd_lay {p : List (Int × ByteArray)} {x : Int × ByteArray} {f : Int} {m : Nat} (h1 : f ≤ x.1) (h2 : fin x ≤ f + m) (hp : ∀ i, x.1 ≤ i → cont p i = none) :
    rd (p ++ [x]) f m = (rd p f m).take (x.1 - f).toNat ++ x.2.data.toList ++ (rd p f m).drop ((x.1 - f).toNat + x.2.size) := by
  have hf : fin x = x.1 + x.2.size := rfl
  apply List.ext_getElem?
  intro k
  have hlen : ((rd p f m).take (x.1 - f).toNat ++ x.2.data.toList).length = (x.1 - f).toNat + x.2.size := by
    rw [List.length_append, List.length_take, rd_length, list_size]; omega
  by_cases hk : k < m
  · rw [rd_get _ _ _ _ hk, cont_append, cont_one]
    by_cases k1 : (k : Int) < x.1 - f
    · rw [get_none (.inl (by omega)), List.append_assoc, List.getElem?_append_left (by rw [List.length_take, rd_length]; omega), List.getElem?_take, if_pos (by omega), rd_get _ _ _ _ hk]; simp
    · by_cases k2 : (k : Int) < x.1 - f + x.2.size
      · rw [hp _ (by omega), List.getElem?_append_left (by rw [hlen]; omega), List.getElem?_append_right (by rw [List.length_take, rd_length]; omega), List.length_take, rd_length]
        unfold get
        rw [if_pos (by omega), List.getElem?_eq_getElem (by rw [list_size]; omega), List.getElem?_eq_getElem (by rw [list_size]; omega)]
        simp only [Option.none_or, Option.getD_some, Option.some.injEq]
        congr 1
        omega
      · rw [get_none (.inr (by omega)), List.getElem?_append_right (by rw [hlen]; omega), hlen, List.getElem?_drop, rd_get _ _ _ _ (by omega), show (x.1 - f).toNat + x.2.size + (k - ((x.1 - f).toNat + x.2.size)) = k by omega]; simp
  · rw [List.getElem?_eq_none (by rw [rd_length]; omega), List.getElem?_eq_none]
    rw [List.length_append, hlen, List.length_drop, rd_length]; omega
theorem rd_nil (f : Int) (m : Nat) : rd [] f m = List.replicate m 0 := by
  unfold rd
  rw [List.eq_replicate_iff]
  refine ⟨by simp, fun c hc => ?_⟩
  obtain ⟨k, _, rfl⟩ := List.mem_map.1 hc
  rfl
theorem rd_part (l : List (Int × ByteArray)) (f : Int) (m : Nat) : rd (part f (f + m) l) f m = rd l f m :=
  rd_ext fun i h1 h2 => by rw [cont_part, if_pos ⟨h1, h2⟩]
/-! Totals. -/
theorem cnt_nil : cnt [] = 0 := rfl
theorem cnt_append (a b : List (Int × ByteArray)) : cnt (a ++ b) = cnt a + cnt b := by simp [cnt]
theorem cnt_one (x : Int × ByteArray) : cnt [x] = x.2.size := by simp [cnt]
theorem cnt_cons (x : Int × ByteArray) (r : List (Int × ByteArray)) : cnt (x :: r) = x.2.size + cnt r := by simp [cnt]
theorem cnt_take (l : List (Int × ByteArray)) (k : Nat) : cnt (l.take k) ≤ cnt l := by
  have := cnt_append (l.take k) (l.drop k)
  rw [List.take_append_drop] at this; omega
theorem cat_append (a b : List (Int × ByteArray)) : cat (a ++ b) = cat a ++ cat b := by simp [cat]
theorem cat_one (x : Int × ByteArray) : cat [x] = x.2.data.toList := by simp [cat]
theorem cat_length (l : List (Int × ByteArray)) : (cat l).length = cnt l := by
  induction l with
  | nil => rfl
  | cons x r ih =>
    have : cat (x :: r) = cat [x] ++ cat r := by rw [← cat_append]; rfl
    rw [this, List.length_append, ih, cat_one, list_size, cnt_cons]
theorem wk_cnt {b : Int} {l : List (Int × ByteArray)} (h : wk b l) (hb : b ≤ 1048576) : (cnt l : Int) ≤ 1048576 - b ∧ l.length ≤ cnt l := by
  induction l generalizing b with
  | nil => exact ⟨by rw [cnt_nil]; omega, Nat.le_refl _⟩
  | cons x r ih =>
    obtain ⟨h0, h1, h2, h3⟩ := h
    have := ih h3 h2
    have hf : fin x = x.1 + x.2.size := rfl
    rw [cnt_cons, List.length_cons]
    omega
theorem take_snoc {α : Type} (l : List α) (k : Nat) (h : k < l.length) : l.take (k + 1) = l.take k ++ [l[k]] := by
  rw [List.take_succ_eq_append_getElem h]
theorem wk_at {b : Int} {l : List (Int × ByteArray)} (h : wk b l) (k : Nat) (hk : k < l.length) : 0 < l[k].2.size ∧ b ≤ l[k].1 ∧ fin l[k] ≤ 1048576 ∧ ∀ i, l[k].1 ≤ i → cont (l.take k) i = none := by
  induction l generalizing b k with
  | nil => simp at hk
  | cons x r ih =>
    obtain ⟨h0, h1, h2, h3⟩ := h
    have := (fin_pos x).2 h0
    cases k with
    | zero => exact ⟨h0, h1, h2, fun i _ => rfl⟩
    | succ k =>
      obtain ⟨i0, i1, i2, i3⟩ := ih h3 k (by simpa using hk)
      refine ⟨i0, ?_, i2, fun i hi => ?_⟩
      · show b ≤ (r[k]'(by simpa using hk)).1
        omega
      · show (get x i).or (cont (r.take k) i) = none
        have hi' : (r[k]'(by simpa using hk)).1 ≤ i := hi
        rw [i3 i hi', get_none (.inr (by omega))]; rfl
theorem merge_take (l : List (Int × ByteArray)) (k : Nat) (h : k < l.length) : merge (l.take (k + 1)) = put (merge (l.take k)) l[k] := by
  unfold merge; rw [take_snoc l k h, List.foldl_append]; rfl
theorem part_take (lo hi : Int) (l : List (Int × ByteArray)) (k : Nat) (h : k < l.length) : part lo hi (l.take (k + 1)) = part lo hi (l.take k) ++ (piece lo hi l[k]).toList := by
  unfold part
  rw [take_snoc l k h, List.filterMap_append]
  cases h : piece lo hi l[k] <;> simp [h]
theorem wk_take {b : Int} {l : List (Int × ByteArray)} (h : wk b l) (k : Nat) : wk b (l.take k) := by
  induction l generalizing b k with
  | nil => rw [List.take_nil]; trivial
  | cons x r ih =>
    cases k with
    | zero => trivial
    | succ k => exact ⟨h.1, h.2.1, h.2.2.1, ih h.2.2.2 k⟩
theorem wk_pos {b : Int} {l : List (Int × ByteArray)} (h : wk b l) : ∀ x ∈ l, 0 < x.2.size := by
  induction l generalizing b with
  | nil => intro x hx; simp at hx
  | cons y r ih =>
    intro x hx
    rcases List.mem_cons.1 hx with rfl | hx
    · exact h.1
    · exact ih h.2.2.2 x hx
theorem cat_put (o : List (Int × ByteArray)) (x : Int × ByteArray) : cat (put o x) = cat o ++ x.2.data.toList := by
  rcases List.eq_nil_or_concat o with rfl | ⟨q, y, rfl⟩
  · rw [put_nil, cat_one]; rfl
  · rw [List.concat_eq_append, put_snoc]
    split
    · rw [cat_append, cat_append, cat_one, cat_one, app_list, List.append_assoc]
    · rw [cat_append, cat_one]
theorem cat_fold (l o : List (Int × ByteArray)) : cat (l.foldl put o) = cat o ++ cat l := by
  induction l generalizing o with
  | nil => simp [cat]
  | cons x r ih =>
    have : cat (x :: r) = cat [x] ++ cat r := by rw [← cat_append]; rfl
    rw [List.foldl_cons, ih, cat_put, this, cat_one, List.append_assoc]
theorem cat_merge (l : List (Int × ByteArray)) : cat (merge l) = cat l := by unfold merge; rw [cat_fold]; rfl
theorem merge_last {l o : List (Int × ByteArray)} {y : Int × ByteArray} (h : wk 0 l) (hm : merge l = o ++ [y]) : 0 ≤ y.1 ∧ fin y ≤ 1048576 ∧ cat l = cat o ++ y.2.data.toList := by
  have hok := ok_merge h
  rw [hm, ok_append, Bool.and_eq_true, ok_cons] at hok
  have hn : 0 ≤ nxt 0 o := by
    clear hm h
    have := hok.1
    have key : ∀ (o : List (Int × ByteArray)) (b : Int), 0 ≤ b → ok b o = true → 0 ≤ nxt b o := by
      intro o
      induction o with
      | nil => intro b hb _; exact hb
      | cons x r ih =>
        intro b hb hok
        rw [ok_cons] at hok
        have := (fin_pos x).2 hok.1
        exact ih _ (by omega) hok.2.2.2
    exact key o 0 (Int.le_refl _) this
  refine ⟨by omega, hok.2.2.2.1, ?_⟩
  rw [← cat_merge, hm, cat_append, cat_one]
theorem cat_at (l : List (Int × ByteArray)) (k : Nat) (hk : k < l.length) : cat l = cat (l.take k) ++ (l[k].2.data.toList ++ cat (l.drop (k + 1))) := by
  have e : l = l.take k ++ l[k] :: l.drop (k + 1) := by rw [← List.drop_eq_getElem_cons hk, List.take_append_drop]
  have e2 : cat (l[k] :: l.drop (k + 1)) = cat [l[k]] ++ cat (l.drop (k + 1)) := by rw [← cat_append]; rfl
  rw [← cat_one, ← e2, ← cat_append, ← e]
theorem text_one {l : List (Int × ByteArray)} {k : Nat} (hk : k < l.length) {t : ByteArray} (ht : t.data.toList = cat l) : t.extract (cnt (l.take k)) (cnt (l.take k) + l[k].2.size) = l[k].2 := by
  apply ba_inj
  rw [cut_list, ht, cat_at l k hk, ← List.append_assoc, List.take_left' (by rw [List.length_append, cat_length, list_size]), List.drop_left' (cat_length _)]
theorem text_two {l : List (Int × ByteArray)} {k : Nat} (hk : k < l.length) {t y : ByteArray} (ht : t.data.toList = cat l) {p : List UInt8} (hp : cat (l.take k) = p ++ y.data.toList) : t.extract (cnt (l.take k) - y.size) (cnt (l.take k) + l[k].2.size) = y ++ l[k].2 := by
  apply ba_inj
  have hlen : p.length = cnt (l.take k) - y.size := by
    have := congrArg List.length hp
    rw [cat_length, List.length_append, list_size] at this
    omega
  rw [cut_list, ht, cat_at l k hk, ← List.append_assoc, List.take_left' (by rw [List.length_append, cat_length, list_size]), hp, List.append_assoc, List.drop_left' hlen, app_list]
theorem text_size {l : List (Int × ByteArray)} {t : ByteArray} (ht : t.data.toList = cat l) : t.size = cnt l := by rw [← list_size, ht, cat_length]
theorem ok_at {b : Int} {l : List (Int × ByteArray)} (h : ok b l = true) (k : Nat) (hk : k < l.length) : ok b (l.take k) = true ∧ 0 < l[k].2.size ∧ nxt b (l.take k) ≤ l[k].1 ∧ fin l[k] ≤ 1048576 := by
  have e : l = l.take k ++ l[k] :: l.drop (k + 1) := by rw [← List.drop_eq_getElem_cons hk, List.take_append_drop]
  rw [e, ok_append, Bool.and_eq_true, ok_cons] at h
  exact ⟨h.1, h.2.1, h.2.2.1, h.2.2.2.1⟩
theorem ok_no {b : Int} {l : List (Int × ByteArray)} (k : Nat) (hk : k < l.length) (h : l[k].2.size = 0 ∨ l[k].1 < nxt b (l.take k) ∨ 1048576 < fin l[k]) : ok b l = false := by
  rw [← Bool.not_eq_true]
  intro hok
  obtain ⟨-, h1, h2, h3⟩ := ok_at hok k hk
  omega
theorem ok_next {b : Int} {l : List (Int × ByteArray)} (k : Nat) (hk : k < l.length) (h : ok b (l.take k) = true) (h1 : 0 < l[k].2.size) (h2 : nxt b (l.take k) ≤ l[k].1) (h3 : fin l[k] ≤ 1048576) : ok b (l.take (k + 1)) = true ∧ nxt b (l.take (k + 1)) = fin l[k] + 1 := by
  rw [take_snoc l k hk, nxt_snoc, ok_append, Bool.and_eq_true, ok_cons]
  exact ⟨⟨h, h1, h2, h3, rfl⟩, rfl⟩
theorem nxt_le {b : Int} {l : List (Int × ByteArray)} (h : ok b l = true) (hb : b ≤ 1048577) : b ≤ nxt b l ∧ nxt b l ≤ 1048577 := by
  induction l generalizing b with
  | nil => exact ⟨Int.le_refl _, hb⟩
  | cons x r ih =>
    rw [ok_cons] at h
    have := ih h.2.2.2 (by omega)
    have := (fin_pos x).2 h.1
    show b ≤ nxt (fin x + 1) r ∧ nxt (fin x + 1) r ≤ 1048577
    omega
theorem part_length (lo hi : Int) (l : List (Int × ByteArray)) : (part lo hi l).length ≤ l.length := List.length_filterMap_le _ _
end EM
end Go.Proofs.YtfhidjkhmjdioaaGreat

namespace Go.Proofs.YtfhidjkhmjdioaaGreat
open Go.ChangeShapes Go.WideShapes Go.ChangeAt Go.RowKit
set_option linter.unusedVariables false
set_option linter.unusedSimpArgs false
def ecl (l : List (Int × ByteArray)) : List Value := l.flatMap fun x => [Value.int .i64 x.1, Value.string x.2]
theorem ecl_cons (x : Int × ByteArray) (r : List (Int × ByteArray)) : ecl (x :: r) = .int .i64 x.1 :: .string x.2 :: ecl r := by simp [ecl]
theorem ecl_length (l : List (Int × ByteArray)) : (ecl l).length = l.length * 2 := by
  induction l with
  | nil => rfl
  | cons x r ih => rw [ecl_cons]; simp only [List.length_cons, ih]; omega
theorem ecl_append (a b : List (Int × ByteArray)) : ecl (a ++ b) = ecl a ++ ecl b := by simp [ecl]
theorem ecl_one (l : List (Int × ByteArray)) : ∀ u ∈ ecl l, u.oneCell' = true := by
  intro u hu
  obtain ⟨x, _, hx⟩ := List.mem_flatMap.1 hu
  simp only [List.mem_cons, List.not_mem_nil, or_false] at hx
  rcases hx with rfl | rfl <;> rfl
theorem ecl_take (l : List (Int × ByteArray)) (k : Nat) : (ecl l).take (k * 2) = ecl (l.take k) := by
  induction l generalizing k with
  | nil => simp [ecl]
  | cons x r ih =>
    cases k with
    | zero => simp [ecl]
    | succ k => rw [Nat.succ_mul, ecl_cons, List.take_succ_cons, List.take_succ_cons, List.take_succ_cons, ecl_cons, ih]
theorem ecl_get (l : List (Int × ByteArray)) (j : Nat) (h : j < l.length) : (ecl l)[j * 2]? = some (.int .i64 l[j].1) ∧ (ecl l)[j * 2 + 1]? = some (.string l[j].2) := by
  induction l generalizing j with
  | nil => simp at h
  | cons x r ih =>
    cases j with
    | zero => rw [ecl_cons]; exact ⟨rfl, rfl⟩
    | succ j =>
      have := ih j (by simpa using h)
      rw [Nat.succ_mul, ecl_cons]
      exact this
def XS (w : World) (ao : Option Addr) (n cap : Nat) (l : List (Int × ByteArray)) : Prop :=
  l.length = n ∧ n ≤ cap ∧ cap ≤ maxLen ∧ (ao = none → cap = 0) ∧ ∀ a, ao = some a → ∀ j u, (ecl l)[j]? = some u → w.cell? (a.add j) = some u
section
variable {w w' : World} {ao : Option Addr} {n cap : Nat} {l : List (Int × ByteArray)}
theorem XS.below (h : XS w ao n cap l) {B : Nat} (hb : Below B w w') (hB : w.heap.size ≤ B) : XS w' ao n cap l := by
  refine ⟨h.1, h.2.1, h.2.2.1, h.2.2.2.1, fun a ha j u hu => ?_⟩
  have hc := h.2.2.2.2 a ha j u hu
  rw [hb.cell (Nat.lt_of_lt_of_le (World.block_lt_of_cell? w _ hc) hB)]
  exact hc
theorem XS.nil (w : World) : XS w none 0 0 [] := ⟨rfl, Nat.le_refl _, Nat.zero_le _, fun _ => rfl, fun _ h => by cases h⟩
theorem XS.alloc (h : XS w ao n cap l) (o : Obj) : XS (w.alloc o) ao n cap l := h.below (Below.alloc (Below.refl _ _) (Nat.le_refl _) o) (Nat.le_refl _)
theorem XS_own {base e : Nat} (h : w.ownsRow base e 2 (.slice ao n cap) n (ecl l)) : XS w ao n cap l := by
  have hl : l.length = n := by have := h.1; rw [ecl_length] at this; omega
  rcases h.2 with ⟨h', h''⟩ | ⟨g', cap', cur, h', hb, hg, hnc, hcm, _⟩
  · simp only [Value.slice.injEq] at h'
    obtain ⟨rfl, rfl, rfl⟩ := h'
    obtain rfl := List.eq_nil_of_length_eq_zero hl
    exact XS.nil w
  · simp only [Value.slice.injEq, true_and] at h'
    obtain ⟨rfl, rfl⟩ := h'
    refine ⟨hl, hnc, hcm, (fun h => by cases h), fun a ha j u hu => ?_⟩
    obtain rfl := Option.some.inj ha
    exact h.cells (g := g') rfl j u hu
theorem XS.at_ (h : XS w ao n cap l) (hn : 0 < n) : ∃ blk off, ao = some ⟨blk, off, none⟩ ∧ ∀ j, (hj : j < n) → w.cell? ⟨blk, off + j * 2, none⟩ = some (.int .i64 (l[j]'(by rw [h.1]; exact hj)).1) ∧ w.cell? ⟨blk, off + j * 2 + 1, none⟩ = some (.string (l[j]'(by rw [h.1]; exact hj)).2) := by
  obtain ⟨hl, h1, h2, h3, h4⟩ := h
  cases ao with
  | none => have := h3 rfl; omega
  | some a =>
    have hcell : ∀ j, (hj : j < n) → w.cell? (a.add (j * 2)) = some (.int .i64 (l[j]'(by rw [hl]; exact hj)).1) ∧ w.cell? (a.add (j * 2 + 1)) = some (.string (l[j]'(by rw [hl]; exact hj)).2) := fun j hj => by
      obtain ⟨e1, e2⟩ := ecl_get l j (by rw [hl]; exact hj)
      exact ⟨h4 a rfl _ _ e1, h4 a rfl _ _ e2⟩
    obtain ⟨b, off, spot⟩ := a
    have h0 := (hcell 0 hn).1
    have hs : spot = none := by simpa [Addr.add] using World.cell?_spot h0
    subst hs
    exact ⟨b, off, rfl, fun j hj => by have := hcell j hj; rwa [Addr.add_lit, Addr.add_lit, ← Nat.add_assoc] at this⟩
end
def XB (w : World) (g : Nat) (x : Int × ByteArray) : Prop := w.heap[g]? = some (.cells #[.int .i64 x.1, .string x.2] 216 (0, 0))
section
variable {w w' : World} {g : Nat} {x : Int × ByteArray}
theorem XB.c0 (h : XB w g x) : w.cell? ⟨g, 0, none⟩ = some (.int .i64 x.1) := by rw [cell_of_row w g 0 _ _ _ h]; rfl
theorem XB.c1 (h : XB w g x) : w.cell? ⟨g, 1, none⟩ = some (.string x.2) := by rw [cell_of_row w g 1 _ _ _ h]; rfl
theorem XB.lt (h : XB w g x) : g < w.heap.size := by
  rcases Nat.lt_or_ge g w.heap.size with hlt | hge
  · exact hlt
  · unfold XB at h; rw [Array.getElem?_eq_none hge] at h; cases h
theorem XB.below {B : Nat} (h : XB w g x) (hb : Below B w w') (hg : g < B) : XB w' g x := (hb.block g hg).trans h
theorem XB.alloc (h : XB w g x) (o : Obj) : XB (w.alloc o) g x := (Below.heap_alloc w o g h.lt).trans h
theorem XB.grown {row : Option Nat} (h : XB w g x) (hb : w.grownBy w' row) (hg : some g ≠ row) : XB w' g x := (hb.block g h.lt hg).trans h
theorem XB.new {y : Nat} (w : World) (a : Int) (d : ByteArray) (hx : y = w.heap.size) : XB (w.alloc (.cells #[.int .i64 a, .string d] 216)) y (a, d) := by subst hx; exact heap_alloc_new w _
end
def I64 (a : Int) : Prop := -9223372036854775808 ≤ a ∧ a ≤ 9223372036854775807
set_option maxRecDepth 100000 in
set_option maxHeartbeats 400000 in
theorem end_any (a : Int) (d : ByteArray) (w : World) (h1 : -9223372036854775808 ≤ a) (h2 : a + d.size ≤ 9223372036854775807) :
    Calls Tryz.prog 163 #[.agg #[.int .i64 a, .string d]] w fun e w' => e = .returned (.int .i64 (a + d.size)) ∧ Below w.heap.size w w' := by
  have bb : Below w.heap.size w (w.alloc (.cells #[.int .i64 a, .string d] 216)) := (Below.refl _ _).alloc (Nat.le_refl _) _
  go_enter Tryz.func163, Tryz.ntmps163
  go_wp2_with fail
  go_ret
  exact ⟨rfl, bb⟩
set_option maxRecDepth 100000 in
set_option maxHeartbeats 400000 in
theorem fits_any (a : Int) (d : ByteArray) (w : World) (h1 : I64 a) (h2 : d.size ≤ maxLen) :
    Calls Tryz.prog 160 #[.int .i64 a, .string d] w fun e w' => e = .returned (.bool (decide (a + d.size ≤ 1048576))) ∧ w = w' := by
  obtain ⟨h3, h4⟩ := h1
  unfold maxLen at h2
  go_enter Tryz.func160, Tryz.ntmps160
  go_wp2_with fail
  go_ret
  exact ⟨ret_bool (decide_eq_decide.2 (by omega)), rfl⟩
theorem xempty {s : ByteArray} (h : s.size = 0) : s.toList = [] ∧ s.toList.isEmpty = true := by
  have : s.data.toList = [] := List.eq_nil_of_length_eq_zero (by rw [EM.list_size]; exact h)
  rw [ByteArray.toList_eq, this]; exact ⟨rfl, rfl⟩
theorem xfull {s : ByteArray} (h : s.size ≠ 0) : (s.toList = []) = False ∧ s.toList.isEmpty = false := by
  have hl := EM.list_size s
  rw [ByteArray.toList_eq]
  cases he : s.data.toList with
  | nil => rw [he] at hl; exact absurd hl.symm h
  | cons c r => exact ⟨by simp, rfl⟩
def XFit (l : List (Int × ByteArray)) : Prop := ∀ x ∈ l, I64 x.1 ∧ x.2.size ≤ maxLen
set_option maxRecDepth 100000 in
set_option maxHeartbeats 1000000 in
theorem xvalid_any (ao : Option Addr) (n cap : Nat) (l : List (Int × ByteArray)) (w : World) (h : XS w ao n cap l) (hf : XFit l) :
    Calls Tryz.prog 159 #[.slice ao n cap] w fun e w' => e = .returned (.bool (EM.ok 0 l)) ∧ Below w.heap.size w w' := by
  have hn : n ≤ 9223372036854775807 := by have := h.2.1; have := h.2.2.1; unfold maxLen at *; omega
  have L := W_hid h.1
  have hfit := W_hid hf
  have hno := W_hid (fun k hk h => @EM.ok_no 0 l k hk h)
  have hgo := W_hid (fun k hk h => @EM.ok_next 0 l k hk h)
  have hle := W_hid (fun k (h : EM.ok 0 (l.take k) = true) => EM.nxt_le h (by decide))
  have H := W_hid h
  clear h hf
  go_enter Tryz.func159, Tryz.ntmps159
  go_wp2_with fail
  go_loopw [3, 8] (fun f i wr => ∃ (k : Nat) (b : Int), k ≤ n ∧ i = .int .i64 k ∧ f = .int .i64 b ∧ Hid (EM.ok 0 (l.take k) = true ∧ EM.nxt 0 (l.take k) = b) ∧ Below w.heap.size w wr) (fun _ i _ => n - (intOf i).toNat)
  case atStart => exact ⟨0, 0, Nat.zero_le _, rfl, rfl, W_hid ⟨rfl, rfl⟩, Below.refl _ _⟩
  case round =>
    obtain ⟨k, b, hk, rfl, rfl, hok, bel⟩ := hrel
    obtain ⟨hb0, hb1⟩ : 0 ≤ b ∧ b ≤ 1048577 := by have := hle.out k hok.out.1; rw [hok.out.2] at this; exact this
    by_cases hlt : k < n
    · obtain ⟨b1, o1, rfl, g1⟩ := (H.out.below bel (Nat.le_refl _)).at_ (by omega)
      have k1 : k < l.length := by rw [L.out]; exact hlt
      obtain ⟨e1, e2⟩ := g1 k hlt
      have hft := hfit.out l[k] (List.getElem_mem k1)
      have hno := W_hid (hno.out k k1)
      have hgo := W_hid (hgo.out k k1)
      obtain ⟨⟨a, d⟩, hx⟩ : ∃ x, l[k] = x := ⟨_, rfl⟩
      simp only [hx] at e1 e2 hft hno hgo
      obtain ⟨⟨ha1, ha2⟩, hd⟩ := hft
      clear hx g1 k1
      by_cases h0 : d.size = 0
      · obtain ⟨s1, s2⟩ := xempty h0
        have hh : Hid (EM.ok 0 l = false) := hno.out (.inl h0)
        clear hno hgo h0
        go_wp2_with fail
        go_ret
        exact ⟨ret_bool hh.out.symm, bel.alloc bel.size _⟩
      obtain ⟨s1, s2⟩ := xfull h0
      by_cases h1 : a < b
      · have hh : Hid (EM.ok 0 l = false) := hno.out (.inr (.inl (by rw [hok.out.2]; exact h1)))
        clear hno hgo h0
        go_wp2_with fail
        go_ret
        exact ⟨ret_bool hh.out.symm, bel.alloc bel.size _⟩
      by_cases h2 : a + d.size ≤ 1048576
      · have hc : Hid (∀ w, Calls Tryz.prog 160 #[.int .i64 a, .string d] w fun e w' => e = .returned (.bool true) ∧ w = w') := by
          intro w
          have := fits_any a d w ⟨ha1, ha2⟩ hd
          rwa [decide_eq_true h2] at this
        have hend := W_hid (fun w => end_any a d w ha1 (by omega))
        have hnx := W_hid (hgo.out hok.out.1 (by omega) (by rw [hok.out.2]; show b ≤ a; omega) h2)
        clear hno hgo h0
        go_wp2_with fail
        refine (hc.out _).mono ?_
        rintro e w' ⟨rfl, rfl⟩
        go_wp2_with fail
        refine (hend.out _).mono ?_
        rintro e w2 ⟨rfl, bel2⟩
        have bel3 := bel.alloc bel.size (.cells #[.int .i64 a, .string d] 216)
        go_wp2_with fail
        go_roundw
        case rel => exact ⟨k + 1, a + d.size + 1, by omega, by go_num, rfl, hnx, bel3.trans (bel2.mono bel3.size)⟩
        case measure => simp [intOf]; omega
      · have hc : Hid (∀ w, Calls Tryz.prog 160 #[.int .i64 a, .string d] w fun e w' => e = .returned (.bool false) ∧ w = w') := by
          intro w
          have := fits_any a d w ⟨ha1, ha2⟩ hd
          rwa [decide_eq_false h2] at this
        have hh : Hid (EM.ok 0 l = false) := hno.out (.inr (.inr (by show (1048576 : Int) < a + d.size; omega)))
        clear hno hgo h0
        go_wp2_with fail
        refine (hc.out _).mono ?_
        rintro e w' ⟨rfl, rfl⟩
        go_wp2_with fail
        go_ret
        exact ⟨ret_bool hh.out.symm, bel.alloc bel.size _⟩
    · obtain rfl : k = n := by omega
      have hh : Hid (EM.ok 0 l = true) := by
        have := hok.out.1
        rwa [List.take_of_length_le (by rw [L.out]; exact Nat.le_refl _)] at this
      clear hok hno hgo
      go_wp2_with fail
      go_ret
      exact ⟨ret_bool hh.out.symm, bel⟩
set_option maxRecDepth 100000 in
set_option maxHeartbeats 1000000 in
theorem count_any (ao : Option Addr) (n cap : Nat) (l : List (Int × ByteArray)) (w : World) (h : XS w ao n cap l) (hc : EM.cnt l ≤ 4611686018427387904) :
    Calls Tryz.prog 190 #[.slice ao n cap] w fun e w' => e = .returned (.int .i64 (EM.cnt l)) ∧ Below w.heap.size w w' := by
  have hn : n ≤ 9223372036854775807 := by have := h.2.1; have := h.2.2.1; unfold maxLen at *; omega
  have L := W_hid h.1
  have H := W_hid h
  have hle := W_hid (fun k => Nat.le_trans (EM.cnt_take l k) hc)
  clear h hc
  go_enter Tryz.func190, Tryz.ntmps190
  go_wp2_with fail
  go_loopw [3, 8] (fun f i wr => ∃ (k b : Nat), k ≤ n ∧ i = .int .i64 k ∧ f = .int .i64 b ∧ Hid (EM.cnt (l.take k) = b) ∧ Below w.heap.size w wr) (fun _ i _ => n - (intOf i).toNat)
  case atStart => exact ⟨0, 0, Nat.zero_le _, rfl, rfl, W_hid rfl, Below.refl _ _⟩
  case round =>
    obtain ⟨k, b, hk, rfl, rfl, hok, bel⟩ := hrel
    by_cases hlt : k < n
    · obtain ⟨b1, o1, rfl, g1⟩ := (H.out.below bel (Nat.le_refl _)).at_ (by omega)
      have k1 : k < l.length := by rw [L.out]; exact hlt
      obtain ⟨e1, e2⟩ := g1 k hlt
      have hnext : Hid (EM.cnt (l.take (k + 1)) = b + l[k].2.size) := by
        show _ = _
        rw [EM.take_snoc l k k1, EM.cnt_append, EM.cnt_one, hok.out]
      have hbb : b + l[k].2.size ≤ 4611686018427387904 := by rw [← hnext.out]; exact hle.out _
      obtain ⟨⟨a, d⟩, hx⟩ : ∃ x, l[k] = x := ⟨_, rfl⟩
      simp only [hx] at e1 e2 hnext hbb
      clear hx g1 k1 hok
      have bel3 := bel.alloc bel.size (.cells #[.int .i64 a, .string d] 216)
      go_wp2_with fail
      go_roundw
      case rel => exact ⟨k + 1, b + d.size, by omega, by go_num, by go_num, hnext, bel3⟩
      case measure => simp [intOf]; omega
    · obtain rfl : k = n := by omega
      have hh : Hid (EM.cnt l = b) := by
        have := hok.out
        rwa [List.take_of_length_le (by rw [L.out]; exact Nat.le_refl _)] at this
      clear hok
      go_wp2_with fail
      go_ret
      exact ⟨ret_int (by rw [hh.out]), bel⟩
def ends : List (Int × ByteArray) → Int
  | [] => 0
  | x :: r => EM.nxt 0 (x :: r) - 1
set_option maxRecDepth 100000 in
set_option maxHeartbeats 1000000 in
theorem endsBy_any (ao : Option Addr) (n cap : Nat) (l : List (Int × ByteArray)) (s : Int) (w : World) (h : XS w ao n cap l) (hv : EM.ok 0 l = true) (hs : 0 ≤ s ∧ s ≤ 1048576) :
    Calls Tryz.prog 166 #[.slice ao n cap, .int .i64 s] w fun e w' => e = .returned (.bool (decide (ends l ≤ s))) ∧ Below w.heap.size w w' := by
  have hn : n ≤ 9223372036854775807 := by have := h.2.1; have := h.2.2.1; unfold maxLen at *; omega
  rcases List.eq_nil_or_concat l with rfl | ⟨q, ⟨a, d⟩, rfl⟩
  · have hl := h.1
    simp only [List.length_nil] at hl
    subst hl
    have hh : Hid (decide (ends [] ≤ s) = true) := W_hid (decide_eq_true (show ends [] ≤ s from hs.1))
    clear h hv hs
    go_enter Tryz.func166, Tryz.ntmps166
    go_wp2_with fail
    go_ret
    exact ⟨ret_bool hh.out.symm, Below.refl _ _⟩
  · rw [List.concat_eq_append] at *
    have hl := h.1
    rw [List.length_append, List.length_cons, List.length_nil] at hl
    subst hl
    obtain ⟨b1, o1, rfl, g1⟩ := h.at_ (by omega)
    obtain ⟨e1, e2⟩ := g1 q.length (by omega)
    simp only [List.getElem_append_right (Nat.le_refl q.length), Nat.sub_self, List.getElem_cons_zero] at e1 e2
    obtain ⟨-, o0, o2, o3⟩ := EM.ok_at hv q.length (by simp)
    simp only [List.getElem_append_right (Nat.le_refl q.length), Nat.sub_self, List.getElem_cons_zero, List.take_left'] at o0 o2 o3
    have o4 : 0 ≤ a := by
      have hq : EM.ok 0 q = true := by
        have := hv; rw [EM.ok_append, Bool.and_eq_true] at this; exact this.1
      have := (EM.nxt_le hq (by decide)).1
      have : EM.nxt 0 q ≤ a := o2
      omega
    have o5 : a + d.size ≤ 1048576 := o3
    have hh : Hid (decide (ends (q ++ [(a, d)]) ≤ s) = decide (a + d.size ≤ s)) := by
      have : ends (q ++ [(a, d)]) = a + d.size := by
        have e : EM.nxt 0 (q ++ [(a, d)]) = a + d.size + 1 := EM.nxt_snoc 0 q (a, d)
        cases hq : q ++ [(a, d)] with
        | nil => simp at hq
        | cons x r => rw [hq] at e; show EM.nxt 0 (x :: r) - 1 = _; omega
      show _ = _
      rw [this]
    have hend := W_hid (fun w => end_any a d w (by omega) (by omega))
    have n1 : ((q.length : Int) + 1 == 0) = false := by simp; omega
    have n2 : ((q.length : Int) + 1 - 1) = q.length := by omega
    clear h hv g1 o0 o2 o3
    go_enter Tryz.func166, Tryz.ntmps166
    go_wp2_with fail
    refine (hend.out _).mono ?_
    rintro e w2 ⟨rfl, bel2⟩
    go_wp2_with fail
    go_ret
    exact ⟨ret_bool (by rw [hh.out]), bel2⟩
theorem info_ext : (Tryz.prog.info? 216).map (fun i => (i.zero, i.size, i.bytes)) = some (some (.agg #[.int .i64 0, .string ByteArray.empty]), 2, 24) := by kernel_rfl
theorem ok_nums {l : List (Int × ByteArray)} (h : EM.ok 0 l = true) : l.length ≤ 1048576 ∧ EM.cnt l ≤ 1048576 := by
  have := EM.wk_cnt (EM.ok_wk h) (by decide)
  omega
theorem ok_each {l : List (Int × ByteArray)} (h : EM.ok 0 l = true) (k : Nat) (hk : k < l.length) : 0 < l[k].2.size ∧ 0 ≤ l[k].1 ∧ l[k].1 + l[k].2.size ≤ 1048576 := by
  have := EM.wk_at (EM.ok_wk h) k hk
  exact ⟨this.1, this.2.1, this.2.2.1⟩
set_option maxRecDepth 100000 in
set_option maxHeartbeats 400000 in
theorem end_held (a : Int) (d : ByteArray) (g : Nat) (w : World) (h1 : -9223372036854775808 ≤ a) (h2 : a + d.size ≤ 9223372036854775807) (c0 : w.cell? ⟨g, 0, none⟩ = some (.int .i64 a)) (c1 : w.cell? ⟨g, 1, none⟩ = some (.string d)) :
    Calls Tryz.prog 163 #[.agg #[.int .i64 a, .string d]] w fun e w' => e = .returned (.int .i64 (a + d.size)) ∧ Below w.heap.size w w' ∧ w'.cell? ⟨g, 0, none⟩ = some (.int .i64 a) ∧ w'.cell? ⟨g, 1, none⟩ = some (.string d) := by
  have hlt := World.block_lt_of_cell? w _ c0
  refine (end_any a d w h1 h2).mono ?_
  rintro e w' ⟨rfl, bel⟩
  exact ⟨rfl, bel, by rw [bel.cell (World.block_lt_of_cell? w _ c0)]; exact c0, by rw [bel.cell (World.block_lt_of_cell? w _ c1)]; exact c1⟩
set_option maxRecDepth 100000 in
set_option maxHeartbeats 4000000 in
theorem part_any (ao : Option Addr) (n cap : Nat) (l : List (Int × ByteArray)) (lo hi : Int) (w : World) (h : XS w ao n cap l) (hv : EM.ok 0 l = true) (hlo : I64 lo) (hhi : I64 hi) :
    Calls Tryz.prog 162 #[.slice ao n cap, .int .i64 lo, .int .i64 hi] w fun e w' => ∃ v, e = .returned v ∧ w'.ownsRow w.heap.size 216 2 v (EM.part lo hi l).length (ecl (EM.part lo hi l)) ∧ Below w.heap.size w w' := by
  obtain ⟨i0, hi0, hz0, hz1, hz2⟩ := info_parts info_ext
  have hn : n ≤ 1048576 := by have := (ok_nums hv).1; have := h.1; omega
  have L := W_hid h.1
  have H := W_hid h
  have hok := W_hid (fun k hk => ok_each hv k hk)
  have hlen := W_hid (fun k => EM.part_length lo hi (l.take k))
  have htk := W_hid (fun k hk => EM.part_take lo hi l k hk)
  obtain ⟨l1, l2⟩ := hlo
  obtain ⟨r1, r2⟩ := hhi
  clear h hv
  go_enter Tryz.func162, Tryz.ntmps162
  go_wp2_with fail
  go_loopw [7, 14] (fun v i wr => ∃ (k m : Nat) (q : List (Int × ByteArray)), k ≤ n ∧ m ≤ k ∧ i = .int .i64 k ∧ Hid (EM.part lo hi (l.take k) = q ∧ q.length = m) ∧ wr.ownsRow w.heap.size 216 2 v m (ecl q) ∧ Below w.heap.size w wr) (fun _ i _ => n - (intOf i).toNat)
  case atStart => exact ⟨0, 0, [], Nat.zero_le _, Nat.le_refl _, rfl, W_hid ⟨rfl, rfl⟩, World.ownsRow_nil _ _ _ _, Below.refl _ _⟩
  case round =>
    obtain ⟨k, m, q, hk, hmk, rfl, hq, hown, bel⟩ := hrel
    obtain ⟨ox, cx, rfl⟩ := Own.form hown
    by_cases hlt : k < n
    · obtain ⟨b1, o1, rfl, g1⟩ := (H.out.below bel (Nat.le_refl _)).at_ (by omega)
      have k1 : k < l.length := by rw [L.out]; exact hlt
      obtain ⟨e1, e2⟩ := g1 k hlt
      have hft := hok.out k k1
      have hnx := W_hid (htk.out k k1)
      obtain ⟨⟨a, d⟩, hx⟩ : ∃ x, l[k] = x := ⟨_, rfl⟩
      simp only [hx] at e1 e2 hft hnx
      obtain ⟨hd, ha, had⟩ := hft
      clear hx g1 k1
      have hend := W_hid (fun w g c0 c1 => end_held a d g w (by omega) (by omega) c0 c1)
      obtain ⟨A, hA⟩ : ∃ A, (if a < lo then lo else a) = A := ⟨_, rfl⟩
      obtain ⟨B, hB⟩ : ∃ B, (if hi < a + d.size then hi else a + d.size) = B := ⟨_, rfl⟩
      have HA : Hid (A = max a lo) := by show _ = _; rw [← hA]; split <;> omega
      have HB : Hid (B = min (a + d.size) hi) := by show _ = _; rw [← hB]; split <;> omega
      have A1 : 0 ≤ A - a := by have := HA.out; omega
      have A2 : -9223372036854775808 ≤ A ∧ A ≤ 9223372036854775807 := by have := HA.out; omega
      have B2 : -9223372036854775808 ≤ B ∧ B ≤ 9223372036854775807 := by have := HB.out; omega
      have B1 : B - a ≤ d.size := by have := HB.out; omega
      have hpc : Hid (EM.piece lo hi (a, d) = if A < B then some (A, d.extract (A - a).toNat (B - a).toNat) else none) := by
        show _ = _
        rw [HA.out, HB.out]; rfl
      have hw1 := XB.new wr a d rfl
      have u0 := hw1.c0
      have u1 := hw1.c1
      go_wp2_with fail
      go_region_held3 (fun w' => w'.cell? ⟨wr.heap.size, 0, none⟩ = some (.int .i64 a) ∧ w'.cell? ⟨wr.heap.size, 1, none⟩ = some (.string d)) (go_keep)
        (first | (go_at_call 163; refine (hend.out _ wr.heap.size (by assumption) (by assumption)).mono ?_; rintro e w' ⟨rfl, bel2, k0, k1⟩))
      all_goals
        have bel3 := (bel.alloc bel.size (.cells #[.int .i64 a, .string d] 216)).trans ((Own.bundrew bel2).mono (bel.alloc bel.size _).size)
        have hown3 := Own.below (hown.alloc (.cells #[.int .i64 a, .string d] 216)) (Own.bundrew bel2)
        clear hA hB hend u0 u1 hw1 bel2 e1 e2 bel hown
        by_cases hAB : A < B
        · obtain ⟨p, hp⟩ : ∃ p, p = d.extract (A - a).toNat (B - a).toNat := ⟨_, rfl⟩
          have hsl : ∀ w, (Instr.slice 9 (.string d) (some (.int .i64 (A - a))) (some (.int .i64 (B - a))) none).run Tryz.prog w = .ok (.string p) w := fun w => by
            rw [run_slice_string w _ d _ _ _ _ Tryz.underlying9 (by omega) (by omega) (by omega), hp]
          have hnext : Hid (EM.part lo hi (l.take (k + 1)) = q ++ [(A, p)]) := by
            show _ = _
            rw [hnx.out, hpc.out, if_pos hAB, hq.out.1, ← hp]; first | done | rfl
          have hm : Hid (m = q.length) := hq.out.2.symm
          clear hp hnx hpc hq
          go_wp2_with (at_builtin; apply Hid.out)
          refine W_hid ?_
          refine wpList_append_own_wide _ rfl (.tmp 29) (.tmp 43) 128 rfl w.heap.size 216 i0 (.agg #[.int .i64 0, .string ByteArray.empty]) 2 24 Tryz.underlying128 hi0 hz0 hz1 hz2 rfl (by decide) _ m (ecl q) rfl (hown3.alloc _) ⟨w'.heap.size, 0, none⟩ 1 1 [.int .i64 A, .string p] rfl rfl (Own.cells_two _ _ _ _ _) (by intro u hu; simp at hu; rcases hu with rfl | rfl <;> rfl) (by unfold maxLen; omega) (by omega) (by simp; have := bel3.size; omega) ?_
          intro v2 w2 hown4 hgrow _
          obtain ⟨ao2, cap2, rfl⟩ := Own.form hown4
          have bel4 := (bel3.alloc bel3.size _).grown hgrow (by simp; have := bel3.size; omega) (fun k h => Own.ge hown3 k h)
          clear k0 k1 hown3 bel3 hgrow
          go_wp2_with fail
          go_roundw
          case rel => exact ⟨k + 1, m + 1, q ++ [(A, p)], by omega, by omega, by go_num, W_hid ⟨hnext.out, by simp [hm.out]⟩, (by rw [ecl_append]; exact hown4), bel4⟩
          case measure => simp [intOf]; omega
        · have hnext : Hid (EM.part lo hi (l.take (k + 1)) = q) := by
            show _ = _
            rw [hnx.out, hpc.out, if_neg hAB, hq.out.1]; simp
          have hm : Hid (m = q.length) := hq.out.2.symm
          clear hnx hpc hq
          go_wp2_with fail
          go_roundw
          case rel => exact ⟨k + 1, m, q, by omega, by omega, by go_num, W_hid ⟨hnext.out, hm.out.symm⟩, hown3, bel3⟩
          case measure => simp [intOf]; omega
    · obtain rfl : k = n := by omega
      have hh : Hid (EM.part lo hi l = q) := by
        have := hq.out.1
        rwa [List.take_of_length_le (by rw [L.out]; exact Nat.le_refl _)] at this
      have hm := W_hid hq.out.2
      clear hq
      go_wp2_with fail
      go_ret
      refine ⟨_, rfl, ?_, bel⟩
      rw [hh.out, hm.out]
      exact hown
end Go.Proofs.YtfhidjkhmjdioaaGreat

namespace Go.Proofs.YtfhidjkhmjdioaaGreat
open Go.ChangeShapes Go.WideShapes Go.ChangeAt Go.RowKit
set_option linter.unusedVariables false
def cel (l : List UInt8) : List Value := l.map fun b => Value.int .u8 b.toNat
theorem cel_length (l : List UInt8) : (cel l).length = l.length := by simp [cel]
theorem cel_append (a b : List UInt8) : cel (a ++ b) = cel a ++ cel b := by simp [cel]
theorem cel_get (l : List UInt8) (j : Nat) : (cel l)[j]? = (l[j]?).map fun b => Value.int .u8 b.toNat := by simp [cel]
def BS (w : World) (ao : Option Addr) (n cap : Nat) (l : List UInt8) : Prop :=
  l.length = n ∧ n ≤ cap ∧ cap ≤ maxLen ∧ (ao = none → cap = 0) ∧ ∀ a, ao = some a → ∀ j u, (cel l)[j]? = some u → w.cell? (a.add j) = some u
theorem BS.below {w w' : World} {ao : Option Addr} {n cap : Nat} {l : List UInt8} (h : BS w ao n cap l) {B : Nat} (hb : Below B w w') (hB : w.heap.size ≤ B) : BS w' ao n cap l := by
  refine ⟨h.1, h.2.1, h.2.2.1, h.2.2.2.1, fun a ha j u hu => ?_⟩
  have hc := h.2.2.2.2 a ha j u hu
  rw [hb.cell (Nat.lt_of_lt_of_le (World.block_lt_of_cell? w _ hc) hB)]
  exact hc
theorem BS.nil (w : World) : BS w none 0 0 [] := ⟨rfl, Nat.le_refl _, Nat.zero_le _, fun _ => rfl, fun _ h => by cases h⟩
theorem BS.cut {w : World} {ao : Option Addr} {n cap : Nat} {l : List UInt8} (h : BS w ao n cap l) {lo hi : Nat} (h1 : lo ≤ hi) (h2 : hi ≤ n) :
    BS w (if cap = lo then ao else ao.map (·.add (lo * 1))) (hi - lo) (cap - lo) ((l.take hi).drop lo) := by
  obtain ⟨hl, hnc, hcm, hnone, hc⟩ := h
  refine ⟨by simp; omega, by omega, by omega, fun hn => ?_, fun a ha j u hu => ?_⟩
  · split at hn
    · have := hnone hn; omega
    · cases ao with
      | none => have := hnone rfl; omega
      | some x => simp at hn
  · have hj : j < hi - lo := by
      have := (List.getElem?_eq_some_iff.1 hu).1
      rw [cel_length] at this; simp at this; omega
    rw [if_neg (by omega)] at ha
    obtain ⟨x, rfl, rfl⟩ := Option.map_eq_some_iff.1 ha
    show w.cell? ((x.add (lo * 1)).add j) = some u
    rw [Addr.add_add, Nat.mul_one]
    refine hc x rfl (lo + j) u ?_
    rw [cel_get] at hu ⊢
    rw [← hu, List.getElem?_drop, List.getElem?_take, if_pos (by omega)]
def strOf (l : List UInt8) : ByteArray := ⟨l.toArray⟩
theorem strOf_size (l : List UInt8) : (strOf l).size = l.length := by simp [strOf, ByteArray.size]
theorem strOf_list (l : List UInt8) : (strOf l).data.toList = l := by simp [strOf]
theorem strOfNums_cel (l : List UInt8) : strOfNums (l.map fun b => ((b.toNat : Nat) : Int)) = strOf l := by
  simp only [strOfNums, strOf, List.map_map]
  congr 2
  refine (List.map_congr_left fun b _ => ?_).trans (List.map_id l)
  simp
theorem run_conv {P : Program} {w : World} {ao : Option Addr} {n cap : Nat} {l : List UInt8} (src e : TypeId) (hs : P.underlying src = some (.slice e)) (he : P.underlying e = some (.int .u8)) (dst : TypeId) (hd : P.underlying dst = some .string) (h : BS w ao n cap l) :
    (convert src dst (.slice ao n cap)).run P w = .ok (.string (strOf l)) w := by
  obtain ⟨hl, hnc, hcm, hnone, hc⟩ := h
  cases ao with
  | none =>
    have h0 := hnone rfl
    have : l = [] := List.eq_nil_of_length_eq_zero (by omega)
    subst this
    rw [run_convert_bytes_nil w src e hs he n cap dst hd]
    rfl
  | some x =>
    have hl2 : (loadCells x n).run P w = .ok (cel l).toArray w := by
      have := run_loadCells_list (P := P) w x (cel l) (fun j v hj => hc x rfl j v hj)
      rw [cel_length, hl] at this
      exact this
    have hl3 : (loadCells x n).run P w = .ok ((l.map fun b => ((b.toNat : Nat) : Int)).map (Value.int .u8)).toArray w := by
      rw [hl2]; simp [cel, Function.comp_def]
    rw [run_convert_bytes_string w src dst e _ n cap hs he hd, run_bytesToString w x n cap _ hl3, foldl_push_bytes, ← strOfNums_cel]
    simp [strOfNums, ByteArray.empty, ByteArray.emptyWithCapacity]
    rfl
/-! Numbers of bytes, the least first. -/
def le : Nat → Nat → List UInt8
  | 0, _ => []
  | m + 1, k => UInt8.ofNat (k % 256) :: le m (k / 256)
def num : List UInt8 → Nat
  | [] => 0
  | b :: r => b.toNat + 256 * num r
end Go.Proofs.YtfhidjkhmjdioaaGreat

namespace Go.Proofs.YtfhidjkhmjdioaaGreat
open Go.ChangeShapes Go.WideShapes Go.ChangeAt Go.RowKit
set_option linter.unusedVariables false
set_option linter.unusedSimpArgs false
theorem cel_take (l : List UInt8) (k : Nat) : (cel l).take k = cel (l.take k) := by simp [cel, List.map_take]
theorem cel_drop (l : List UInt8) (k : Nat) : (cel l).drop k = cel (l.drop k) := by simp [cel, List.map_drop]
theorem step_copy_bs {P : Program} {ops : Array Oper} {o : Oper} {a : Act} {w : World} {K : Act → World → Prop} {Q : Exit → Act → World → Prop} {E : Prop} (hg : o.guard = none) (d x : Operand) (dT sT : TypeId)
    (hop : o.op = Op.call { callee := Callee.builtin Builtin.copy, args := #[d, x], argTypes := #[dT, sT] }) (elem : TypeId) (hu : P.underlying dT = some (.slice elem)) (hs : (P.info? elem).map (·.size) = some 1)
    (g off n c : Nat) (s : ByteArray) (bs : List UInt8) (t : TypeId) (hd : a.eval d = .slice (some ⟨g, off, none⟩) n c) (hx : a.eval x = .string s) (hrow : w.heap[g]? = some (.cells (cel bs).toArray t (0, 0))) (hle : s.size ≤ n) (hfit : off + s.size ≤ bs.length)
    (hK : ∀ w', w'.heap[g]? = some (.cells (cel (bs.take off ++ (s.data.toList ++ bs.drop (off + s.size)))).toArray t (0, 0)) → w.grownBy w' (some g) → K (a.put o.dst (goInt s.size)) w') :
    if Region.wanted o (yielded ops a.tmps) = true then Oper.wp P o a w K Q else E := by
  have hw : Region.wanted o (yielded ops a.tmps) = true := by simp [Region.wanted, hg]
  rw [if_pos hw]
  have hrun := Lib.run_copy_row_string (P := P) w dT sT o.type elem g off n c s (cel bs).toArray t hu hs hrow hle (by simpa [cel_length] using hfit)
  have hcs : ((cel bs).toArray.toList.take off ++ Lib.byteCells s.data.toList ++ (cel bs).toArray.toList.drop (off + s.size)) = cel (bs.take off ++ (s.data.toList ++ bs.drop (off + s.size))) := by
    rw [List.toList_toArray, cel_take, cel_drop, cel_append, cel_append, List.append_assoc]; rfl
  rw [hcs] at hrun
  unfold Oper.wp
  simp [execOp, hop, resolve, invoke, builtin, hd, hx, hrun, Result.andThen]
  exact hK _ (setRow_heap w g _ _ _ _ hrow) ⟨rfl, rfl, rfl, by simp [World.setRow], fun k _ hk => setRow_other w g k _ (fun e => hk (by rw [e]))⟩
def BR (w : World) (g : Nat) (bs : List UInt8) : Prop := w.heap[g]? = some (.cells (cel bs).toArray 5 (0, 0))
section
variable {w w' : World} {g : Nat} {bs : List UInt8}
theorem BR.lt (h : BR w g bs) : g < w.heap.size := by
  rcases Nat.lt_or_ge g w.heap.size with hlt | hge
  · exact hlt
  · unfold BR at h; rw [Array.getElem?_eq_none hge] at h; cases h
theorem BR.below {B : Nat} (h : BR w g bs) (hb : Below B w w') (hg : g < B) : BR w' g bs := (hb.block g hg).trans h
theorem BR.alloc (h : BR w g bs) (o : Obj) : BR (w.alloc o) g bs := (Below.heap_alloc w o g h.lt).trans h
theorem BR.reads (h : BR w g bs) (hm : bs.length ≤ maxLen) : BS w (some ⟨g, 0, none⟩) bs.length bs.length bs := by
  refine ⟨rfl, Nat.le_refl _, hm, (fun h => by cases h), fun a ha j u hu => ?_⟩
  obtain rfl := Option.some.inj ha
  rw [Addr.add_lit, cell_of_row w g _ _ _ _ h]
  simpa using hu
theorem BR.made (N : Nat) {base : Nat} {w : World} (h : w.ownsRow base 5 1 (.slice (some ⟨g, 0, none⟩) N N) N (madeCells (Value.int .u8 0).cells (N * 1)).toList) : BR w g (List.replicate N 0) := by
  rcases h.2 with ⟨h', _⟩ | ⟨g', cap', cur, h', hb, hg, hnc, hcm, hcs, htake⟩
  · simp at h'
  · simp only [Value.slice.injEq, Option.some.injEq, Addr.mk.injEq, and_true, true_and] at h'
    obtain ⟨rfl, rfl⟩ := h'
    unfold BR
    rw [hg]
    congr 2
    rw [Nat.mul_one] at htake hcs
    rw [List.take_of_length_le (by rw [Array.length_toList]; omega)] at htake
    apply Array.toList_inj.1
    rw [htake]
    refine (toList_madeCells_one _ _).trans ?_
    simp [cel]
end
theorem byte_one : (Tryz.prog.info? 5).map (·.size) = some 1 := by kernel_rfl
theorem lay_next {p : List UInt8} {s : List UInt8} {N b : Nat} (hp : p.length = b) (hb : b + s.length ≤ N) : (p ++ List.replicate (N - b) 0).take b ++ (s ++ (p ++ List.replicate (N - b) (0 : UInt8)).drop (b + s.length)) = (p ++ s) ++ List.replicate (N - (b + s.length)) 0 := by
  rw [List.take_left' hp, List.drop_append, List.drop_eq_nil_of_le (by omega), List.nil_append, List.drop_replicate, List.append_assoc]
  congr 3
  omega
set_option maxRecDepth 100000 in
set_option maxHeartbeats 4000000 in
theorem packed_any (ao : Option Addr) (n cap : Nat) (l : List (Int × ByteArray)) (w : World) (h : XS w ao n cap l) (hp : ∀ x ∈ l, 0 < x.2.size) (hc : EM.cnt l ≤ 4000000) :
    Calls Tryz.prog 191 #[.slice ao n cap] w fun e w' => e = .returned (.string (strOf (EM.cat l))) ∧ Below w.heap.size w w' := by
  obtain ⟨i0, hi0, hz0, hz1, hz2⟩ := info_parts info_byte
  have hn : n ≤ 9223372036854775807 := by have := h.2.1; have := h.2.2.1; unfold maxLen at *; omega
  have L := W_hid h.1
  have H := W_hid h
  have hcount := W_hid (count_any ao n cap l w h (by omega))
  have hle := W_hid (fun k => EM.cnt_take l k)
  have hpos := W_hid hp
  obtain ⟨N, hN⟩ : ∃ N, EM.cnt l = N := ⟨_, rfl⟩
  rw [hN] at hcount hle hc
  have HN := W_hid hN
  clear h hp hN
  go_enter Tryz.func191, Tryz.ntmps191
  go_wp2_with fail
  refine hcount.out.mono ?_
  rintro e w1 ⟨rfl, bel1⟩
  go_wp2_with (at_make; apply Hid.out)
  refine W_hid ?_
  refine wpList_make_full _ rfl _ _ 220 rfl w.heap.size 5 i0 (.int .u8 0) 1 Tryz.underlying220 hi0 hz0 hz1 .i64 .i64 _ _ N rfl rfl rfl rfl (by rw [hz2]; omega) (by unfold maxLen; omega) bel1.size ?_
  intro w2 hown hgrow
  obtain ⟨g, hg⟩ : ∃ g, g = w1.heap.size := ⟨_, rfl⟩
  rw [← hg] at hown ⊢
  have hbr := BR.made N hown
  have bel2 := bel1.grown hgrow bel1.size (fun k hk => by cases hk)
  have hgw : w.heap.size ≤ g := by rw [hg]; exact bel1.size
  clear hown hgrow hg bel1
  go_wp2_with fail
  go_loopw [4, 12] (fun f i wr => ∃ (k b : Nat), k ≤ n ∧ b ≤ N ∧ i = .int .i64 k ∧ f = .int .i64 b ∧ Hid (EM.cnt (l.take k) = b) ∧ Hid (BR wr g (EM.cat (l.take k) ++ List.replicate (N - b) 0)) ∧ Below w.heap.size w wr) (fun _ i _ => n - (intOf i).toNat)
  case atStart => exact ⟨0, 0, Nat.zero_le _, Nat.zero_le _, rfl, rfl, W_hid rfl, hbr, bel2⟩
  case round =>
    clear hbr bel2
    obtain ⟨k, b, hk, hb, rfl, rfl, hok, hbr, bel⟩ := hrel
    by_cases hlt : k < n
    · obtain ⟨b1, o1, rfl, g1⟩ := (H.out.below bel (Nat.le_refl _)).at_ (by omega)
      have k1 : k < l.length := by rw [L.out]; exact hlt
      obtain ⟨e1, e2⟩ := g1 k hlt
      have hnext : Hid (EM.cnt (l.take (k + 1)) = b + l[k].2.size) := by
        show _ = _
        rw [EM.take_snoc l k k1, EM.cnt_append, EM.cnt_one, hok.out]
      have hbb : b + l[k].2.size ≤ N := by rw [← hnext.out]; exact hle.out _
      have hcat : Hid (EM.cat (l.take (k + 1)) = EM.cat (l.take k) ++ l[k].2.data.toList) := by
        show _ = _
        rw [EM.take_snoc l k k1, EM.cat_append, EM.cat_one]
      have hdp := hpos.out l[k] (List.getElem_mem k1)
      obtain ⟨⟨a, d⟩, hx⟩ : ∃ x, l[k] = x := ⟨_, rfl⟩
      simp only [hx] at e1 e2 hnext hbb hcat hdp
      clear hx g1 k1
      have hw1 := XB.new wr a d rfl
      have u1 := hw1.c1
      have bel3 := bel.alloc bel.size (.cells #[.int .i64 a, .string d] 216)
      have hbr3 := W_hid (hbr.out.alloc (.cells #[.int .i64 a, .string d] 216))
      have hgr := hbr.out.lt
      have hlen : Hid ((EM.cat (l.take k) ++ List.replicate (N - b) (0 : UInt8)).length = N) := by
        show _ = _
        rw [List.length_append, EM.cat_length, hok.out, List.length_replicate]; omega
      go_wp2_with fail
      clear hw1 e1 e2 bel
      have hne : ¬ N = b := by omega
      have hgne : some wr.heap.size ≠ some g := by intro h; have := Option.some.inj h; omega
      go_region_held3 (fun w' => w'.cell? ⟨wr.heap.size, 1, none⟩ = some (.string d)) (first | go_keep | skip)
        ((refine step_copy_bs rfl (.tmp 19) (.tmp 21) 220 9 rfl 5 Tryz.underlying220 byte_one g b (N - b) (N - b) d _ 5 (by rfl) (by rfl) hbr3.out (by omega) (by rw [hlen.out]; omega) ?_; intro w3 hbr4 hgrow; have k1 := Own.cellg (Own.undrew hgrow) u1 hgne))
      have hwrap : IntKind.i64.wrap ((b : Int) + d.size) = ((b + d.size : Nat) : Int) := by rw [IntKind.wrap_i64]; omega
      rw [hwrap]
      have hbr5 : Hid (BR w3 g (EM.cat (l.take (k + 1)) ++ List.replicate (N - (b + d.size)) 0)) := by
        have hs := lay_next (p := EM.cat (l.take k)) (s := d.data.toList) (N := N) (b := b) (by rw [EM.cat_length, hok.out]) (by rw [EM.list_size]; exact hbb)
        rw [EM.list_size] at hs
        rw [hs] at hbr4
        show BR _ _ _
        rw [hcat.out]
        exact hbr4
      have bel5 := bel3.grown (Own.undrew hgrow) bel3.size (fun k h => by have := Option.some.inj h; omega)
      clear hbr hbr3 hbr4 hgrow bel3 u1 k1 hcat hok
      go_wp2_with fail
      go_roundw
      case rel => exact ⟨k + 1, b + d.size, by omega, hbb, by go_num, rfl, hnext, hbr5, bel5⟩
      case measure => simp [intOf]; omega
    · obtain rfl : k = n := by omega
      have hbN : Hid (b = N) := by
        have := hok.out
        rw [List.take_of_length_le (by rw [L.out]; exact Nat.le_refl _), HN.out] at this
        exact this.symm
      have hbr5 : BR wr g (EM.cat l) := by
        have := hbr.out
        rw [List.take_of_length_le (by rw [L.out]; exact Nat.le_refl _), hbN.out, Nat.sub_self, List.replicate_zero, List.append_nil] at this
        exact this
      have hlen : (EM.cat l).length = N := by rw [EM.cat_length, HN.out]
      have hrd := hbr5.reads (by rw [hlen]; unfold maxLen; omega)
      rw [hlen] at hrd
      have hcv := run_conv (P := Tryz.prog) 220 5 Tryz.underlying220 Tryz.underlying5 9 Tryz.underlying9 hrd
      clear hbr hbr5 hok hlen hrd
      go_wp2_with fail
      go_ret
      exact ⟨rfl, bel⟩
theorem wpList_append_ext {w : World} {ops : Array Oper} {rest : List Oper} {o : Oper} {a : Act} {Q : Exit → Act → World → Prop} (hgd : o.guard = none) (s x : Operand)
    (ho : o.op = .call { callee := .builtin .append, args := #[s, x], argTypes := #[128, 128] })
    (base : Nat) (v : Value) (n : Nat) (xs : List Value) (hs : a.eval s = v) (hown : w.ownsRow base 216 2 v n xs) (ao : Option Addr) (m c : Nat) (l : List (Int × ByteArray)) (hx : a.eval x = .slice ao m c) (hr : XS w ao m c l)
    (hnm : n + m ≤ 4000000) (hbase : base ≤ w.heap.size)
    (h : ∀ v' w', w'.ownsRow base 216 2 v' (n + m) (xs ++ ecl l) → w.grownBy w' v.ownBlock → wpList Tryz.prog ops Q rest (a.put o.dst v') w') : wpList Tryz.prog ops Q (o :: rest) a w := by
  obtain ⟨i0, hi, hz0, hz1, hz2⟩ := info_parts info_ext
  cases ao with
  | none =>
    have hc : c = 0 := hr.2.2.2.1 rfl
    have hm : m = 0 := by have := hr.2.1; omega
    subst hc; subst hm
    obtain rfl := List.eq_nil_of_length_eq_zero hr.1
    refine wpList_append_own_none hgd s x 128 ho base 216 i0 2 Tryz.underlying128 hi v n xs hs hown hx (h v w ?_ (World.grownBy.refl w _))
    simpa [ecl] using hown
  | some ad =>
    refine wpList_append_own_wide w hgd s x 128 ho base 216 i0 (.agg #[.int .i64 0, .string ByteArray.empty]) 2 24 Tryz.underlying128 hi hz0 hz1 hz2 rfl (by decide) v n xs hs hown ad m c (ecl l) hx (by rw [ecl_length, hr.1]) (hr.2.2.2.2 ad rfl) (ecl_one l) (by unfold maxLen; omega) (by omega) hbase ?_
    intro v' w' h1 h2 _
    exact h v' w' h1 h2
def LS (w : World) (ao : Option Addr) (n cap : Nat) (ls : List (Value × List (Int × ByteArray))) : Prop :=
  ls.length = n ∧ n ≤ cap ∧ cap ≤ maxLen ∧ (ao = none → cap = 0) ∧ (∀ a, ao = some a → ∀ j u, ls[j]? = some u → w.cell? (a.add j) = some u.1) ∧ ∀ p ∈ ls, ∃ ao n c, p.1 = .slice ao n c ∧ XS w ao n c p.2
section
variable {w w' : World} {ao : Option Addr} {n cap : Nat} {ls : List (Value × List (Int × ByteArray))}
theorem LS.below (h : LS w ao n cap ls) {B : Nat} (hb : Below B w w') (hB : w.heap.size ≤ B) : LS w' ao n cap ls := by
  refine ⟨h.1, h.2.1, h.2.2.1, h.2.2.2.1, fun a ha j u hu => ?_, fun p hp => ?_⟩
  · have hc := h.2.2.2.2.1 a ha j u hu
    rw [hb.cell (Nat.lt_of_lt_of_le (World.block_lt_of_cell? w _ hc) hB)]
    exact hc
  · obtain ⟨a, n, c, h1, h2⟩ := h.2.2.2.2.2 p hp
    exact ⟨a, n, c, h1, h2.below hb hB⟩
theorem LS.at_ (h : LS w ao n cap ls) (hn : 0 < n) : ∃ blk off, ao = some ⟨blk, off, none⟩ ∧ ∀ j, (hj : j < n) → w.cell? ⟨blk, off + j, none⟩ = some (ls[j]'(by rw [h.1]; exact hj)).1 := by
  obtain ⟨hl, h1, h2, h3, h4, h5⟩ := h
  cases ao with
  | none => have := h3 rfl; omega
  | some a =>
    have hcell : ∀ j, (hj : j < n) → w.cell? (a.add j) = some (ls[j]'(by rw [hl]; exact hj)).1 := fun j hj => h4 a rfl j _ (List.getElem?_eq_getElem (by rw [hl]; exact hj))
    obtain ⟨b, off, spot⟩ := a
    have h0 := hcell 0 hn
    have hs : spot = none := by simpa [Addr.add] using World.cell?_spot h0
    subst hs
    exact ⟨b, off, rfl, fun j hj => by have := hcell j hj; rwa [Addr.add_lit] at this⟩
end
def alls (ls : List (Value × List (Int × ByteArray))) : List (Int × ByteArray) := ls.flatMap (·.2)
theorem alls_append (a b : List (Value × List (Int × ByteArray))) : alls (a ++ b) = alls a ++ alls b := by simp [alls]
theorem alls_one (x : Value × List (Int × ByteArray)) : alls [x] = x.2 := by simp [alls]
theorem alls_take (ls : List (Value × List (Int × ByteArray))) (k : Nat) : (alls (ls.take k)).length ≤ (alls ls).length := by
  have := alls_append (ls.take k) (ls.drop k)
  rw [List.take_append_drop] at this
  rw [this, List.length_append]; omega
set_option maxRecDepth 100000 in
set_option maxHeartbeats 4000000 in
theorem joined_any (lo : Option Addr) (ln lc : Nat) (ls : List (Value × List (Int × ByteArray))) (w : World) (h : LS w lo ln lc ls) (hw : EM.wk 0 (alls ls)) :
    Calls Tryz.prog 161 #[.slice lo ln lc] w fun e w' => ∃ v, e = .returned v ∧ w'.ownsRow w.heap.size 216 2 v (EM.merge (alls ls)).length (ecl (EM.merge (alls ls))) ∧ Below w.heap.size w w' := by
  obtain ⟨i0, hi0, hz0, hz1, hz2⟩ := info_parts info_ext
  have hn : ln ≤ 9223372036854775807 := by have := h.2.1; have := h.2.2.1; unfold maxLen at *; omega
  obtain ⟨hc1, hc2⟩ := EM.wk_cnt hw (by decide)
  have L := W_hid h.1
  have H := W_hid h
  have hlen := W_hid (fun k => alls_take ls k)
  obtain ⟨all, hall⟩ : ∃ all, alls ls = all := ⟨_, rfl⟩
  rw [hall] at hw hc1 hc2 ⊢
  have HALL := W_hid hall
  have halls := W_hid (show all.length ≤ 1048576 by omega)
  have hcnt := W_hid (show EM.cnt all ≤ 1048576 by omega)
  have hwk := W_hid hw
  clear h hw hc1 hc2 hall
  go_enter Tryz.func161, Tryz.ntmps161
  go_wp2_with fail
  go_loopw [3, 16] (fun v i wr => ∃ (k m : Nat), k ≤ ln ∧ i = .int .i64 k ∧ Hid ((alls (ls.take k)).length = m) ∧ m ≤ 1048576 ∧ wr.ownsRow w.heap.size 216 2 v m (ecl (alls (ls.take k))) ∧ Below w.heap.size w wr) (fun _ i _ => ln - (intOf i).toNat)
  case atStart => exact ⟨0, 0, Nat.zero_le _, rfl, W_hid rfl, by omega, World.ownsRow_nil _ _ _ _, Below.refl _ _⟩
  case round =>
    obtain ⟨k, m, hk, rfl, hm, hm2, hown, bel⟩ := hrel
    obtain ⟨ox, cx, rfl⟩ := Own.form hown
    by_cases hlt : k < ln
    · have hls := H.out.below bel (Nat.le_refl _)
      obtain ⟨b1, o1, rfl, g1⟩ := hls.at_ (by omega)
      have k1 : k < ls.length := by rw [L.out]; exact hlt
      have e1 := g1 k hlt
      have hnext : Hid (alls (ls.take (k + 1)) = alls (ls.take k) ++ ls[k].2) := by
        show _ = _
        rw [EM.take_snoc ls k k1, alls_append, alls_one]
      obtain ⟨ay, ny, cy, hy, hxs⟩ := hls.2.2.2.2.2 ls[k] (List.getElem_mem k1)
      rw [hy] at e1
      have hmn : m + ny ≤ 1048576 := by
        have h1 := hlen.out (k + 1)
        rw [hnext.out, List.length_append, hm.out, hxs.1, HALL.out] at h1
        have := halls.out
        omega
      have hxs := W_hid hxs
      clear hls g1
      go_wp2_with (at_builtin; apply Hid.out)
      refine W_hid ?_
      refine wpList_append_ext rfl (.tmp 20) (.tmp 21) rfl w.heap.size _ m _ rfl hown ay ny cy _ rfl hxs.out (by omega) bel.size ?_
      intro v2 w2 hown2 hgrow
      obtain ⟨o2, c2, rfl⟩ := Own.form hown2
      have bel2 := bel.grown hgrow bel.size (fun k h => Own.ge hown k h)
      have hown3 : w2.ownsRow w.heap.size 216 2 (.slice o2 (m + ny) c2) (m + ny) (ecl (alls (ls.take (k + 1)))) := by
        rw [hnext.out, ecl_append]; exact hown2
      have hm3 : Hid ((alls (ls.take (k + 1))).length = m + ny) := by
        show _ = _
        rw [hnext.out, List.length_append, hm.out, hxs.out.1]
      clear hown hown2 hgrow bel hm hxs hnext e1 hy
      go_wp2_with fail
      go_roundw
      case rel => exact ⟨k + 1, m + ny, by omega, by go_num, hm3, by omega, hown3, bel2⟩
      case measure => simp [intOf]; omega
    · obtain rfl : k = ln := by omega
      have hm3 : Hid (all.length = m) := by
        have := hm.out
        rwa [List.take_of_length_le (by rw [L.out]; exact Nat.le_refl _), HALL.out] at this
      rw [List.take_of_length_le (by rw [L.out]; exact Nat.le_refl _), HALL.out] at hown
      clear hm HALL halls hlen H L
      have hpk := W_hid (packed_any ox m cx all wr (XS_own hown) (EM.wk_pos hwk.out) (by have := hcnt.out; omega))
      go_wp2_with fail
      refine hpk.out.mono ?_
      rintro e w1 ⟨rfl, bel1⟩
      have hown1 := Own.below hown bel1
      have bel2 := bel.trans (bel1.mono bel.size)
      have hT : Hid ((strOf (EM.cat all)).data.toList = EM.cat all) := strOf_list _
      generalize strOf (EM.cat all) = T at hT
      clear hpk hown bel1 bel
      go_wp2_with fail
      have hxs := W_hid (XS_own hown1)
      go_loopw [4, 8, 28] (fun v f i w' => ∃ (k b q : Nat) (o : List (Int × ByteArray)), k ≤ m ∧ q ≤ k ∧ b ≤ 1048576 ∧ i = .int .i64 k ∧ f = .int .i64 b ∧ Hid (EM.cnt (all.take k) = b) ∧ Hid (EM.merge (all.take k) = o ∧ o.length = q) ∧ w'.ownsRow w1.heap.size 216 2 v q (ecl o) ∧ Below w1.heap.size w1 w') (fun _ _ i _ => m - (intOf i).toNat)
      case atStart => exact ⟨0, 0, 0, [], Nat.zero_le _, Nat.le_refl _, by omega, rfl, rfl, W_hid rfl, W_hid ⟨rfl, rfl⟩, World.ownsRow_nil _ _ _ _, Below.refl _ _⟩
      case round =>
        obtain ⟨k, b, q, o, hk, hqk, hb, rfl, rfl, hcb, ho, hown, bel⟩ := hrel
        obtain ⟨oo, co, rfl⟩ := Own.form hown
        by_cases hlt : k < m
        · have hls := hxs.out.below bel (Nat.le_refl _)
          obtain ⟨b1, o1, rfl, g1⟩ := hls.at_ (by omega)
          have k1 : k < all.length := by rw [hm3.out]; exact hlt
          obtain ⟨e1, e2⟩ := g1 k hlt
          have hat := EM.wk_at hwk.out k k1
          obtain ⟨hd, ha, had, -⟩ := hat
          have hnext : Hid (EM.cnt (all.take (k + 1)) = b + all[k].2.size) := by
            show _ = _
            rw [EM.take_snoc all k k1, EM.cnt_append, EM.cnt_one, hcb.out]
          have hbb : b + all[k].2.size ≤ 1048576 := by
            have h1 := EM.cnt_take all (k + 1)
            rw [hnext.out] at h1
            have := hcnt.out; omega
          have hTs : b + all[k].2.size ≤ T.size := by
            have h1 := EM.cnt_take all (k + 1)
            rw [hnext.out] at h1
            rw [EM.text_size hT.out]; exact h1
          have hmg : Hid (EM.merge (all.take (k + 1)) = EM.put o all[k]) := by
            show _ = _
            rw [EM.merge_take all k k1, ho.out.1]
          have ht1 := W_hid (EM.text_one k1 hT.out)
          have ht2 := W_hid (fun (y : ByteArray) (p : List UInt8) h => @EM.text_two all k k1 T y hT.out p h)
          have hlast := W_hid (fun (p : List (Int × ByteArray)) y h => @EM.merge_last (all.take k) p y (EM.wk_take hwk.out k) h)
          rw [hcb.out] at ht1
          rw [hcb.out] at ht2
          obtain ⟨⟨a, d⟩, hx⟩ : ∃ x, all[k] = x := ⟨_, rfl⟩
          simp only [hx, EM.fin] at e1 e2 hd ha had hnext hbb hTs hmg ht1 ht2
          have hw2 := XB.new wr a d rfl
          have u0 := hw2.c0
          have u1 := hw2.c1
          have bel3 := bel.alloc bel.size (.cells #[.int .i64 a, .string d] 216)
          have hown3 := hown.alloc (.cells #[.int .i64 a, .string d] 216)
          rcases List.eq_nil_or_concat o with rfl | ⟨p, ⟨ya, yd⟩, rfl⟩
          · obtain rfl : q = 0 := ho.out.2.symm
            have hsl : ∀ w, (Instr.slice 9 (.string T) (some (.int .i64 (b : Int))) (some (.int .i64 ((b : Int) + (d.size : Int)))) none).run Tryz.prog w = .ok (.string d) w := fun w => by
              rw [run_slice_string w _ T _ _ _ _ Tryz.underlying9 (by omega) (by omega) (by omega), show (b : Int).toNat = b by omega, show ((b : Int) + (d.size : Int)).toNat = b + d.size by omega, ht1.out]
            have hnm : Hid (EM.merge (all.take (k + 1)) = [(a, d)]) := by show _ = _; rw [hmg.out]; exact EM.put_nil _
            clear hls g1 hx ht1 ht2 hlast hcb ho hw2 hown hmg
            go_wp2_with fail
            go_quiet (fail)
            obtain ⟨W, hW⟩ : ∃ W, (wr.alloc (.cells #[.int .i64 a, .string d] 216)).drewN nq = W := ⟨_, rfl⟩
            have c0 : W.cell? ⟨wr.heap.size, 0, none⟩ = some (.int .i64 a) := by rw [← hW]; exact u0
            have c1 : W.cell? ⟨wr.heap.size, 1, none⟩ = some (.string d) := by rw [← hW]; exact u1
            have hown4 : W.ownsRow w1.heap.size 216 2 (.slice oo 0 co) 0 (ecl []) := by rw [← hW]; exact hown3
            have bel4 : Below w1.heap.size w1 W := by rw [← hW]; exact below_drewN bel3 _
            rw [hW]
            clear hW u0 u1 hown3 bel3 e1 e2 bel
            go_wp2_with (at_builtin; apply Hid.out)
            refine W_hid ?_
            refine wpList_append_own_wide _ rfl (.tmp 70) (.tmp 77) 128 rfl w1.heap.size 216 i0 (.agg #[.int .i64 0, .string ByteArray.empty]) 2 24 Tryz.underlying128 hi0 hz0 hz1 hz2 rfl (by decide) _ 0 (ecl []) rfl (hown4.alloc _) ⟨W.heap.size, 0, none⟩ 1 1 [.int .i64 a, .string d] rfl rfl (Own.cells_two _ _ _ _ _) (by intro u hu; simp at hu; rcases hu with rfl | rfl <;> rfl) (by unfold maxLen; omega) (by omega) (by simp; have := bel4.size; omega) ?_
            intro v2 w2 hown5 hgrow _
            obtain ⟨ao2, cap2, rfl⟩ := Own.form hown5
            have bel5 := (bel4.alloc bel4.size _).grown hgrow (by simp; have := bel4.size; omega) (fun k h => Own.ge hown4 k h)
            clear c0 c1 hown4 bel4 hgrow
            go_wp2_with fail
            go_roundw
            case rel => exact ⟨k + 1, b + d.size, 1, [(a, d)], by omega, by omega, by omega, by go_num, by go_num, hnext, W_hid ⟨hnm.out, rfl⟩, hown5, bel5⟩
            case measure => simp [intOf]; omega
          · rw [List.concat_eq_append] at *
            obtain rfl : q = p.length + 1 := by have := ho.out.2; rw [← this]; simp
            obtain ⟨hy1, hy2, hy3⟩ := hlast.out p (ya, yd) ho.out.1
            simp only [EM.fin] at hy2
            have hyb : yd.size ≤ b := by
              have h1 := congrArg List.length hy3
              rw [EM.cat_length, hcb.out, List.length_append] at h1
              simp only [EM.list_size] at h1
              omega
            obtain ⟨b2, o2, rfl, g2⟩ := (XS_own hown).at_ (by omega)
            obtain ⟨f1, f2⟩ := g2 p.length (by omega)
            simp only [List.getElem_append_right (Nat.le_refl p.length), Nat.sub_self, List.getElem_cons_zero] at f1 f2
            have hco : p.length + 1 ≤ co := (XS_own hown).2.1
            have F1 : Hid ((wr.alloc (.cells #[.int .i64 a, .string d] 216)).cell? ⟨b2, o2 + p.length * 2, none⟩ = some (.int .i64 ya)) := (World.cell?_alloc_lt wr _ _ (World.block_lt_of_cell? wr _ f1)).trans f1
            have F2 : Hid ((wr.alloc (.cells #[.int .i64 a, .string d] 216)).cell? ⟨b2, o2 + p.length * 2 + 1, none⟩ = some (.string yd)) := (World.cell?_alloc_lt wr _ _ (World.block_lt_of_cell? wr _ f2)).trans f2
            have hend := W_hid (fun w => end_any ya yd w (by omega) (by omega))
            have hps : EM.put (p ++ [(ya, yd)]) (a, d) = if ya + yd.size = a then p ++ [(ya, yd ++ d)] else p ++ [(ya, yd)] ++ [(a, d)] := EM.put_snoc _ _ _
            have n1 : ((p.length : Int) + 1 - 1) = p.length := by omega
            by_cases hya : ya + yd.size = a
            · obtain ⟨r, hr⟩ : ∃ r, r = yd ++ d := ⟨_, rfl⟩
              have hsl : ∀ w, (Instr.slice 9 (.string T) (some (.int .i64 ((b : Int) - (yd.size : Int)))) (some (.int .i64 ((b : Int) + (d.size : Int)))) none).run Tryz.prog w = .ok (.string r) w := fun w => by
                rw [run_slice_string w _ T _ _ _ _ Tryz.underlying9 (by omega) (by omega) (by omega), show ((b : Int) - (yd.size : Int)).toNat = b - yd.size by omega, show ((b : Int) + (d.size : Int)).toNat = b + d.size by omega, ht2.out yd (EM.cat p) hy3, hr]
              have hnm : Hid (EM.merge (all.take (k + 1)) = p ++ [(ya, r)]) := by show _ = _; rw [hmg.out, hps, if_pos hya, hr]
              have hyq : ((ya + (yd.size : Int)) == a) = true := by simpa using hya
              clear hls g1 hx ht1 ht2 hlast hcb ho hw2 hown hmg hps hy3 g2 f1 f2 hr
              go_wp2_with fail
              go_quiet (fail)
              obtain ⟨W, hW⟩ : ∃ W, (wr.alloc (.cells #[.int .i64 a, .string d] 216)).drewN nq = W := ⟨_, rfl⟩
              have c0 : W.cell? ⟨wr.heap.size, 0, none⟩ = some (.int .i64 a) := by rw [← hW]; exact u0
              have c1 : W.cell? ⟨wr.heap.size, 1, none⟩ = some (.string d) := by rw [← hW]; exact u1
              have y0 : W.cell? ⟨b2, o2 + p.length * 2, none⟩ = some (.int .i64 ya) := by rw [← hW]; exact F1.out
              have y1 : W.cell? ⟨b2, o2 + p.length * 2 + 1, none⟩ = some (.string yd) := by rw [← hW]; exact F2.out
              have hown4 : W.ownsRow w1.heap.size 216 2 (.slice (some ⟨b2, o2, none⟩) (p.length + 1) co) (p.length + 1) (ecl (p ++ [(ya, yd)])) := by rw [← hW]; exact hown3
              have bel4 : Below w1.heap.size w1 W := by rw [← hW]; exact below_drewN bel3 _
              rw [hW]
              clear hW u0 u1 hown3 bel3 e1 e2 bel F1 F2
              go_wp2_with fail
              refine (hend.out _).mono ?_
              rintro e w5 ⟨rfl, bel5⟩
              have z0 := (bel5.cell (World.block_lt_of_cell? W _ y0)).trans y0
              have z1 := (bel5.cell (World.block_lt_of_cell? W _ y1)).trans y1
              have hown5 := Own.cut (Own.below hown4 bel5) (k := p.length) (by omega)
              rw [ecl_take, List.take_left' rfl] at hown5
              have bel6 := bel4.trans (bel5.mono bel4.size)
              clear c0 c1 y0 y1 hown4 bel4 bel5 hend hya
              go_wp2_with (at_builtin; apply Hid.out)
              refine W_hid ?_
              refine wpList_append_own_wide _ rfl (.tmp 70) (.tmp 77) 128 rfl w1.heap.size 216 i0 (.agg #[.int .i64 0, .string ByteArray.empty]) 2 24 Tryz.underlying128 hi0 hz0 hz1 hz2 rfl (by decide) _ p.length (ecl p) rfl (hown5.alloc _) ⟨w5.heap.size, 0, none⟩ 1 1 [.int .i64 ya, .string r] rfl rfl (Own.cells_two _ _ _ _ _) (by intro u hu; simp at hu; rcases hu with rfl | rfl <;> rfl) (by unfold maxLen; omega) (by omega) (by simp; have := bel6.size; omega) ?_
              intro v2 w2 hown6 hgrow _
              obtain ⟨ao2, cap2, rfl⟩ := Own.form hown6
              have bel7 := (bel6.alloc bel6.size _).grown hgrow (by simp; have := bel6.size; omega) (fun k h => Own.ge hown5 k h)
              clear z0 z1 hown5 bel6 hgrow
              go_wp2_with fail
              go_roundw
              case rel => exact ⟨k + 1, b + d.size, p.length + 1, p ++ [(ya, r)], by omega, by omega, by omega, by go_num, by go_num, hnext, W_hid ⟨hnm.out, by simp⟩, (by rw [ecl_append]; exact hown6), bel7⟩
              case measure => simp [intOf]; omega
            · have hsl : ∀ w, (Instr.slice 9 (.string T) (some (.int .i64 (b : Int))) (some (.int .i64 ((b : Int) + (d.size : Int)))) none).run Tryz.prog w = .ok (.string d) w := fun w => by
                rw [run_slice_string w _ T _ _ _ _ Tryz.underlying9 (by omega) (by omega) (by omega), show (b : Int).toNat = b by omega, show ((b : Int) + (d.size : Int)).toNat = b + d.size by omega, ht1.out]
              have hnm : Hid (EM.merge (all.take (k + 1)) = (p ++ [(ya, yd)]) ++ [(a, d)]) := by show _ = _; rw [hmg.out, hps, if_neg hya]
              have hyq : ((ya + (yd.size : Int)) == a) = false := by simpa using hya
              clear hls g1 hx ht1 ht2 hlast hcb ho hw2 hown hmg hps hy3 g2 f1 f2
              go_wp2_with fail
              go_quiet (fail)
              obtain ⟨W, hW⟩ : ∃ W, (wr.alloc (.cells #[.int .i64 a, .string d] 216)).drewN nq = W := ⟨_, rfl⟩
              have c0 : W.cell? ⟨wr.heap.size, 0, none⟩ = some (.int .i64 a) := by rw [← hW]; exact u0
              have c1 : W.cell? ⟨wr.heap.size, 1, none⟩ = some (.string d) := by rw [← hW]; exact u1
              have y0 : W.cell? ⟨b2, o2 + p.length * 2, none⟩ = some (.int .i64 ya) := by rw [← hW]; exact F1.out
              have y1 : W.cell? ⟨b2, o2 + p.length * 2 + 1, none⟩ = some (.string yd) := by rw [← hW]; exact F2.out
              have hown4 : W.ownsRow w1.heap.size 216 2 (.slice (some ⟨b2, o2, none⟩) (p.length + 1) co) (p.length + 1) (ecl (p ++ [(ya, yd)])) := by rw [← hW]; exact hown3
              have bel4 : Below w1.heap.size w1 W := by rw [← hW]; exact below_drewN bel3 _
              rw [hW]
              clear hW u0 u1 hown3 bel3 e1 e2 bel F1 F2
              go_wp2_with fail
              refine (hend.out _).mono ?_
              rintro e w5 ⟨rfl, bel5⟩
              have hown5 := Own.below hown4 bel5
              have bel6 := bel4.trans (bel5.mono bel4.size)
              clear c0 c1 y0 y1 hown4 bel4 bel5 hend hya
              go_wp2_with (at_builtin; apply Hid.out)
              refine W_hid ?_
              refine wpList_append_own_wide _ rfl (.tmp 70) (.tmp 77) 128 rfl w1.heap.size 216 i0 (.agg #[.int .i64 0, .string ByteArray.empty]) 2 24 Tryz.underlying128 hi0 hz0 hz1 hz2 rfl (by decide) _ (p.length + 1) (ecl (p ++ [(ya, yd)])) rfl (hown5.alloc _) ⟨w5.heap.size, 0, none⟩ 1 1 [.int .i64 a, .string d] rfl rfl (Own.cells_two _ _ _ _ _) (by intro u hu; simp at hu; rcases hu with rfl | rfl <;> rfl) (by unfold maxLen; omega) (by omega) (by simp; have := bel6.size; omega) ?_
              intro v2 w2 hown6 hgrow _
              obtain ⟨ao2, cap2, rfl⟩ := Own.form hown6
              have bel7 := (bel6.alloc bel6.size _).grown hgrow (by simp; have := bel6.size; omega) (fun k h => Own.ge hown5 k h)
              clear hown5 bel6 hgrow
              go_wp2_with fail
              go_roundw
              case rel => exact ⟨k + 1, b + d.size, p.length + 1 + 1, (p ++ [(ya, yd)]) ++ [(a, d)], by omega, by omega, by omega, by go_num, by go_num, hnext, W_hid ⟨hnm.out, by simp⟩, (by rw [ecl_append]; exact hown6), bel7⟩
              case measure => simp [intOf]; omega
        · obtain rfl : k = m := by omega
          have hh : Hid (EM.merge all = o) := by
            have := ho.out.1
            rwa [List.take_of_length_le (by rw [hm3.out]; exact Nat.le_refl _)] at this
          have hq := W_hid ho.out.2
          clear ho hcb
          go_wp2_with fail
          go_ret
          refine ⟨_, rfl, ?_, bel2.trans (bel.mono bel2.size)⟩
          rw [hh.out, hq.out]
          exact Own.low bel2.size hown
def stV (l : List (Int × ByteArray)) : Int := if EM.ok 0 l = true then (EM.cnt l : Int) else 0
def stE (l : List (Int × ByteArray)) : Int := if EM.ok 0 l = true then 0 else 2
set_option maxRecDepth 100000 in
set_option maxHeartbeats 1000000 in
theorem Stored_any (ao : Option Addr) (n cap : Nat) (l : List (Int × ByteArray)) (w : World) (h : XS w ao n cap l) (hf : XFit l) :
    Calls Tryz.prog 158 #[.slice ao n cap] w fun e w' => e = .returned (.tuple #[.int .i64 (stV l), .int .i64 (stE l)]) ∧ Below w.heap.size w w' := by
  have hval := xvalid_any ao n cap l w h hf
  have H := W_hid h
  cases hv : EM.ok 0 l with
  | false =>
    have e1 : Hid (stV l = 0 ∧ stE l = 2) := by unfold stV stE; rw [hv]; exact ⟨rfl, rfl⟩
    rw [hv] at hval
    have hval := W_hid hval
    clear hv h
    go_enter Tryz.func158, Tryz.ntmps158
    go_wp2_with fail
    refine hval.out.mono ?_
    rintro e w1 ⟨rfl, bel1⟩
    go_wp2_with fail
    go_ret2
    exact ⟨by rw [e1.out.1, e1.out.2]; rfl, bel1⟩
  | true =>
    have e1 : Hid (stV l = EM.cnt l ∧ stE l = 0) := by unfold stV stE; rw [hv]; exact ⟨rfl, rfl⟩
    have hc := W_hid (fun w h => count_any ao n cap l w h (by have := (ok_nums hv).2; omega))
    rw [hv] at hval
    have hval := W_hid hval
    clear hv h
    go_enter Tryz.func158, Tryz.ntmps158
    go_wp2_with fail
    refine hval.out.mono ?_
    rintro e w1 ⟨rfl, bel1⟩
    go_wp2_with fail
    refine (hc.out _ (H.out.below bel1 (Nat.le_refl _))).mono ?_
    rintro e w2 ⟨rfl, bel2⟩
    go_wp2_with fail
    go_ret2
    exact ⟨by rw [e1.out.1, e1.out.2]; rfl, bel1.trans (bel2.mono bel1.size)⟩
def Gave (L : List (Int × ByteArray)) (E : Int) (w : World) (e : Ending) (w' : World) : Prop := ∃ v, e = .returned (.tuple #[v, .int .i64 E]) ∧
      w'.ownsRow w.heap.size 216 2 v L.length (ecl L) ∧ Below w.heap.size w w'
theorem gave_no {L : List (Int × ByteArray)} {E : Int} {w w' : World} {k : Int} (h : L = [] ∧ E = k) (hb : Below w.heap.size w w') : Gave L E w (.returned (.tuple #[.slice none 0 0, .int .i64 k])) w' := by
  obtain ⟨rfl, rfl⟩ := h
  exact ⟨_, rfl, World.ownsRow_nil _ _ _ _, hb⟩
theorem LS_one {w : World} {v : Value} {ao : Option Addr} {n c : Nat} {l : List (Int × ByteArray)} {t : TypeId} (hv : v = .slice ao n c) (h : XS w ao n c l) : LS (w.alloc (.cells #[v] t)) (some ⟨w.heap.size, 0, none⟩) 1 1 [(v, l)] := by
  refine ⟨rfl, by decide, by unfold maxLen; omega, (fun h => by cases h), fun a ha j u hu => ?_, fun p hp => ?_⟩
  · obtain rfl := Option.some.inj ha
    have hj : j < 1 := (List.getElem?_eq_some_iff.1 hu).1
    obtain rfl : j = 0 := by omega
    obtain rfl : (v, l) = u := by simpa using hu
    exact cell_one_new w v t 0 v rfl
  · obtain rfl := List.mem_singleton.1 hp
    exact ⟨ao, n, c, hv, h.alloc _⟩
def ctL (l : List (Int × ByteArray)) (s : Int) : List (Int × ByteArray) := if EM.ok 0 l = true ∧ 0 ≤ s then EM.part 0 s l else []
def ctE (l : List (Int × ByteArray)) (s : Int) : Int := if EM.ok 0 l = true ∧ 0 ≤ s then 0 else 2
set_option maxRecDepth 100000 in
set_option maxHeartbeats 1000000 in
theorem Cut_any (ao : Option Addr) (n cap : Nat) (l : List (Int × ByteArray)) (s : Int) (w : World) (h : XS w ao n cap l) (hf : XFit l) (hs : I64 s) :
    Calls Tryz.prog 129 #[.slice ao n cap, .int .i64 s] w (Gave (ctL l s) (ctE l s) w) := by
  have hval := xvalid_any ao n cap l w h hf
  have H := W_hid h
  cases hv : EM.ok 0 l with
  | false =>
    have HE := W_hid (fun w' => @gave_no (ctL l s) (ctE l s) w w' 2 (by unfold ctL ctE; rw [hv]; exact ⟨if_neg (by simp), if_neg (by simp)⟩))
    rw [hv] at hval
    have hval := W_hid hval
    clear hv h
    go_enter Tryz.func129, Tryz.ntmps129
    go_wp2_with fail
    refine hval.out.mono ?_
    rintro e w1 ⟨rfl, bel1⟩
    go_wp2_with fail
    go_ret2
    exact HE.out _ bel1
  | true =>
    by_cases hs0 : s < 0
    · have HE := W_hid (fun w' => @gave_no (ctL l s) (ctE l s) w w' 2 (by unfold ctL ctE; rw [hv]; exact ⟨if_neg (by omega), if_neg (by omega)⟩))
      rw [hv] at hval
      have hval := W_hid hval
      clear hv h
      go_enter Tryz.func129, Tryz.ntmps129
      go_wp2_with fail
      refine hval.out.mono ?_
      rintro e w1 ⟨rfl, bel1⟩
      go_wp2_with fail
      go_ret2
      exact HE.out _ bel1
    · have e1 : Hid (ctL l s = EM.part 0 s l ∧ ctE l s = 0) := by unfold ctL ctE; rw [hv]; exact ⟨if_pos ⟨rfl, by omega⟩, if_pos ⟨rfl, by omega⟩⟩
      have hpt := W_hid (fun w h => part_any ao n cap l 0 s w h hv (by unfold I64; omega) hs)
      have hok := W_hid (EM.ok_part hv 0 s (Int.le_refl _))
      rw [hv] at hval
      have hval := W_hid hval
      clear hv h
      go_enter Tryz.func129, Tryz.ntmps129
      go_wp2_with fail
      refine hval.out.mono ?_
      rintro e w1 ⟨rfl, bel1⟩
      go_wp2_with fail
      refine (hpt.out _ (H.out.below bel1 (Nat.le_refl _))).mono ?_
      rintro e w2 ⟨v, rfl, hown2, bel2⟩
      obtain ⟨o2, c2, rfl⟩ := Own.form hown2
      have hj := joined_any _ 1 1 _ _ (LS_one (t := 128) rfl (XS_own hown2)) (by rw [alls_one]; exact EM.ok_wk hok.out)
      rw [alls_one, EM.merge_id hok.out] at hj
      have hj := W_hid hj
      have bel3 := bel1.trans (bel2.mono bel1.size)
      have bel4 := bel3.alloc bel3.size (.cells #[.slice o2 (EM.part 0 s l).length c2] 128)
      go_wp2_with fail
      refine hj.out.mono ?_
      rintro e w3 ⟨v3, rfl, hown3, bel5⟩
      go_wp2_with fail
      go_ret2
      refine ⟨v3, by rw [e1.out.2]; rfl, ?_, bel4.trans (bel5.mono bel4.size)⟩
      rw [e1.out.1]
      exact Own.low bel4.size hown3
def wrE (l : List (Int × ByteArray)) (f : Int) (d : ByteArray) : Int := if EM.ok 0 l = true ∧ 0 ≤ f then (if f + d.size ≤ 1048576 then 0 else 28) else 2
def wrL (l : List (Int × ByteArray)) (f : Int) (d : ByteArray) : List (Int × ByteArray) := if wrE l f d = 0 then EM.wr l f d else []
theorem wr_no {l : List (Int × ByteArray)} {f : Int} {d : ByteArray} {k : Int} (h : wrE l f d = k) (hk : k ≠ 0) : wrL l f d = [] ∧ wrE l f d = k := by
  unfold wrL; rw [h, if_neg hk]; exact ⟨rfl, rfl⟩
theorem below_al {a w : World} (h : Below a.heap.size a w) (o : Obj) : Below a.heap.size a (w.alloc o) := h.alloc h.size o
theorem below_tr {a b c : World} (h : Below a.heap.size a b) (k : Below b.heap.size b c) : Below a.heap.size a c := h.trans (k.mono h.size)
def XV (w : World) (v : Value) (l : List (Int × ByteArray)) : Prop := ∃ ao n c, v = .slice ao n c ∧ XS w ao n c l
theorem XV.alloc {w : World} {v : Value} {l : List (Int × ByteArray)} (h : XV w v l) (o : Obj) : XV (w.alloc o) v l := by
  obtain ⟨a, n, c, h1, h2⟩ := h
  exact ⟨a, n, c, h1, h2.alloc o⟩
theorem XV.below {w w' : World} {v : Value} {l : List (Int × ByteArray)} (h : XV w v l) (hb : Below w.heap.size w w') : XV w' v l := by
  obtain ⟨a, n, c, h1, h2⟩ := h
  exact ⟨a, n, c, h1, h2.below hb (Nat.le_refl _)⟩
theorem XV.drew {w : World} {v : Value} {l : List (Int × ByteArray)} (h : XV w v l) : XV w.drew v l := h
theorem XV_own {w : World} {base n : Nat} {v : Value} {l : List (Int × ByteArray)} (h : w.ownsRow base 216 2 v n (ecl l)) : XV w v l := by
  obtain ⟨a, c, rfl⟩ := Own.form h
  exact ⟨a, n, c, rfl, XS_own h⟩
theorem XV_new {w : World} {g : Nat} {f : Int} {d : ByteArray} {t : TypeId} (hg : g = w.heap.size) : XV (w.alloc (.cells #[.int .i64 f, .string d] t)) (.slice (some ⟨g, 0, none⟩) 1 1) [(f, d)] := by
  subst hg
  refine ⟨_, _, _, rfl, rfl, Nat.le_refl _, by unfold maxLen; omega, (fun h => by cases h), fun a ha j u hu => ?_⟩
  obtain rfl := Option.some.inj ha
  exact Own.cells_two _ _ _ _ _ j u hu
theorem LS_three {w : World} {g : Nat} {v1 v2 v3 : Value} {l1 l2 l3 : List (Int × ByteArray)} {t : TypeId} (hg : g = w.heap.size) (h1 : XV w v1 l1) (h2 : XV w v2 l2) (h3 : XV w v3 l3) :
    LS (w.alloc (.cells #[v1, v2, v3] t)) (some ⟨g, 0, none⟩) 3 3 [(v1, l1), (v2, l2), (v3, l3)] := by
  subst hg
  refine ⟨rfl, by decide, by unfold maxLen; omega, (fun h => by cases h), fun a ha j u hu => ?_, fun p hp => ?_⟩
  · obtain rfl := Option.some.inj ha
    rw [Addr.add_lit, cell_of_row _ _ _ _ _ _ (heap_alloc_new w (.cells #[v1, v2, v3] t))]
    match j, hu with
    | 0, hu => obtain rfl : (v1, l1) = u := by simpa using hu
               simp
    | 1, hu => obtain rfl : (v2, l2) = u := by simpa using hu
               simp
    | 2, hu => obtain rfl : (v3, l3) = u := by simpa using hu
               simp
  · simp only [List.mem_cons, List.not_mem_nil, or_false] at hp
    rcases hp with rfl | rfl | rfl
    · exact h1.alloc _
    · exact h2.alloc _
    · exact h3.alloc _
set_option maxRecDepth 100000 in
set_option maxHeartbeats 4000000 in
theorem Write_in (ao : Option Addr) (n cap : Nat) (l : List (Int × ByteArray)) (f : Int) (d : ByteArray) (w : World) (h : XS w ao n cap l) (hf : XFit l) (hv : EM.ok 0 l = true) (h0 : 0 ≤ f) (h1 : f + d.size ≤ 1048576) (hd : d.size ≠ 0) :
    Calls Tryz.prog 120 #[.slice ao n cap, .int .i64 f, .string d] w (Gave (EM.wr l f d) 0 w) := by
  have hval := xvalid_any ao n cap l w h hf
  have hfit := fits_any f d
  have H := W_hid h
  have hft : Hid (∀ w, Calls Tryz.prog 160 #[.int .i64 f, .string d] w fun e w' => e = .returned (.bool true) ∧ w = w') := by
    intro w
    have := fits_any f d w (by unfold I64; omega) (by unfold maxLen; omega)
    rwa [decide_eq_true h1] at this
  obtain ⟨s1, s2⟩ := xfull hd
  have hpart : ∀ (lo hi : Int), I64 lo → I64 hi → ∀ (g : Nat) (W : World), (W.cell? ⟨g, 0, none⟩ = some (.int .i64 f) ∧ W.cell? ⟨g, 1, none⟩ = some (.string d) ∧ Below w.heap.size w W) →
      Calls Tryz.prog 162 #[.slice ao n cap, .int .i64 lo, .int .i64 hi] W fun e W' => ∃ a n c, e = .returned (.slice a n c) ∧ XV W' (.slice a n c) (EM.part lo hi l) ∧ Below W.heap.size W W' ∧
        (W'.cell? ⟨g, 0, none⟩ = some (.int .i64 f) ∧ W'.cell? ⟨g, 1, none⟩ = some (.string d) ∧ Below w.heap.size w W') := by
    intro lo hi h1 h2 g W ⟨c0, c1, bel⟩
    refine (part_any ao n cap l lo hi W (h.below bel (Nat.le_refl _)) hv h1 h2).mono ?_
    rintro e W' ⟨v, rfl, hown, belp⟩
    obtain ⟨a, c, rfl⟩ := Own.form hown
    exact ⟨a, _, c, rfl, XV_own hown, belp, by rw [belp.cell (World.block_lt_of_cell? W _ c0)]; exact c0, by rw [belp.cell (World.block_lt_of_cell? W _ c1)]; exact c1, below_tr bel belp⟩
  have hp1 := W_hid (hpart 0 f (by unfold I64; omega) (by unfold I64; omega))
  have hp2 := W_hid (hpart (f + d.size) 1048576 (by unfold I64; omega) (by unfold I64; omega))
  have hend : Hid (∀ (g : Nat) (W : World), (W.cell? ⟨g, 0, none⟩ = some (.int .i64 f) ∧ W.cell? ⟨g, 1, none⟩ = some (.string d) ∧ Below w.heap.size w W) →
      Calls Tryz.prog 163 #[.agg #[.int .i64 f, .string d]] W fun e W' => e = .returned (.int .i64 (f + d.size)) ∧ Below W.heap.size W W' ∧
        (W'.cell? ⟨g, 0, none⟩ = some (.int .i64 f) ∧ W'.cell? ⟨g, 1, none⟩ = some (.string d) ∧ Below w.heap.size w W')) := by
    intro g W ⟨c0, c1, bel⟩
    refine (end_any f d W (by omega) (by omega)).mono ?_
    rintro e W' ⟨rfl, belp⟩
    exact ⟨rfl, belp, by rw [belp.cell (World.block_lt_of_cell? W _ c0)]; exact c0, by rw [belp.cell (World.block_lt_of_cell? W _ c1)]; exact c1, below_tr bel belp⟩
  have hj : Hid (∀ (g : Nat) (W : World) (g2 : Nat) (v1 v2 v3 : Value), (W.cell? ⟨g, 0, none⟩ = some (.int .i64 f) ∧ W.cell? ⟨g, 1, none⟩ = some (.string d) ∧ Below w.heap.size w W) →
      LS W (some ⟨g2, 0, none⟩) 3 3 [(v1, EM.part 0 f l), (v2, [(f, d)]), (v3, EM.part (f + d.size) 1048576 l)] →
      Calls Tryz.prog 161 #[.slice (some ⟨g2, 0, none⟩) 3 3] W fun e W' => ∃ v, e = .returned v ∧ W'.ownsRow w.heap.size 216 2 v (EM.wr l f d).length (ecl (EM.wr l f d)) ∧
        (W'.cell? ⟨g, 0, none⟩ = some (.int .i64 f) ∧ W'.cell? ⟨g, 1, none⟩ = some (.string d) ∧ Below w.heap.size w W')) := by
    intro g W g2 v1 v2 v3 ⟨c0, c1, bel⟩ hls
    have hall : alls [(v1, EM.part 0 f l), (v2, [(f, d)]), (v3, EM.part (f + d.size) 1048576 l)] = EM.part 0 f l ++ [(f, d)] ++ EM.part (f + d.size) 1048576 l := by simp [alls]
    have hwr : EM.wr l f d = EM.merge (EM.part 0 f l ++ [(f, d)] ++ EM.part (f + d.size) 1048576 l) := by unfold EM.wr; rw [if_neg hd]
    have hjn := joined_any _ 3 3 _ W hls (by rw [hall]; exact EM.wk_write hv h0 h1 (by omega))
    rw [hall, ← hwr] at hjn
    refine hjn.mono ?_
    rintro e W' ⟨v, rfl, hown, belp⟩
    exact ⟨v, rfl, Own.low bel.size hown, by rw [belp.cell (World.block_lt_of_cell? W _ c0)]; exact c0, by rw [belp.cell (World.block_lt_of_cell? W _ c1)]; exact c1, below_tr bel belp⟩
  rw [hv] at hval
  have hval := W_hid hval
  clear h hfit hpart
  go_enter Tryz.func120, Tryz.ntmps120
  go_wp2_with fail
  refine hval.out.mono ?_
  rintro e w1 ⟨rfl, bel1⟩
  go_wp2_with fail
  refine (hft.out _).mono ?_
  rintro e w' ⟨rfl, rfl⟩
  have hw2 := XB.new w1 f d rfl
  have u0 := hw2.c0
  have u1 := hw2.c1
  go_wp2_with fail
  have hS : (w1.alloc (.cells #[.int .i64 f, .string d] 216)).cell? ⟨w1.heap.size, 0, none⟩ = some (.int .i64 f) ∧ (w1.alloc (.cells #[.int .i64 f, .string d] 216)).cell? ⟨w1.heap.size, 1, none⟩ = some (.string d) ∧ Below w.heap.size w (w1.alloc (.cells #[.int .i64 f, .string d] 216)) := ⟨u0, u1, below_al bel1 _⟩
  have bel2 := hS.2.2
  clear hw2 bel1
  go_region_held3 (fun w' => w'.cell? ⟨w1.heap.size, 0, none⟩ = some (.int .i64 f) ∧ w'.cell? ⟨w1.heap.size, 1, none⟩ = some (.string d) ∧ Below w.heap.size w w')
    (first | assumption | (refine ⟨?_, ?_, ?_⟩ <;> first | assumption | exact Below.drew (by assumption) | exact below_al (by assumption) _ | exact below_al (Below.drew (by assumption)) _ | exact below_al (below_al (by assumption) _) _ | go_keep))
    (first
      | (go_at_call 163; refine (hend.out _ _ (by assumption)).mono ?_; rintro e w2 ⟨rfl, belb, hS2⟩; have hb := hS2.2.2)
      | (go_at_call 161; refine (hj.out _ _ _ _ _ _ (by assumption) (LS_three (by first | rfl | simp) (by repeat (first | assumption | apply XV.alloc | (refine XV.below ?_ belc) | (refine XV.below ?_ belb) | (refine XV.below ?_ bela))) (by repeat (first | assumption | exact XV_new rfl | exact XV_new (by simp) | apply XV.alloc | (refine XV.below ?_ belc) | (refine XV.below ?_ belb) | (refine XV.below ?_ bela))) (by repeat (first | assumption | apply XV.alloc | (refine XV.below ?_ belc) | (refine XV.below ?_ belb) | (refine XV.below ?_ bela))))).mono ?_; rintro e w4 ⟨v4, rfl, hown4, hS4⟩)
      | (go_at_call_of 162 (Value.int IntKind.i64 1048576); refine (hp2.out _ _ (by assumption)).mono ?_; rintro e w3 ⟨a3, n3, c3, rfl, hx3, belc, hS3⟩; have hb := hS3.2.2)
      | (go_at_call 162; refine (hp1.out _ _ (by assumption)).mono ?_; rintro e w2 ⟨a1, n1, c1, rfl, hx1, bela, hS1⟩; have hb := hS1.2.2))
  all_goals
    clear hp1 hp2 hend hj hval hft
    go_wp2_with fail
    go_ret2
    exact ⟨v4, rfl, hown4, hS4.2.2⟩
set_option maxRecDepth 100000 in
set_option maxHeartbeats 1000000 in
theorem Write_none (ao : Option Addr) (n cap : Nat) (l : List (Int × ByteArray)) (f : Int) (d : ByteArray) (w : World) (h : XS w ao n cap l) (hf : XFit l) (hv : EM.ok 0 l = true) (h0 : 0 ≤ f) (h1 : f + d.size ≤ 1048576) (hd : d.size = 0) :
    Calls Tryz.prog 120 #[.slice ao n cap, .int .i64 f, .string d] w (Gave (EM.wr l f d) 0 w) := by
  have hval := xvalid_any ao n cap l w h hf
  have H := W_hid h
  have hft : Hid (∀ w, Calls Tryz.prog 160 #[.int .i64 f, .string d] w fun e w' => e = .returned (.bool true) ∧ w = w') := by
    intro w
    have := fits_any f d w (by unfold I64; omega) (by unfold maxLen; omega)
    rwa [decide_eq_true h1] at this
  obtain ⟨s1, s2⟩ := xempty hd
  have hwr := W_hid (EM.wr_nil (f := f) hv hd)
  have hok := W_hid hv
  rw [hv] at hval
  have hval := W_hid hval
  have hfn : decide (f < 0) = false := by simp; omega
  clear h hv
  go_enter Tryz.func120, Tryz.ntmps120
  go_wp2_with fail
  refine hval.out.mono ?_
  rintro e w1 ⟨rfl, bel1⟩
  go_wp2_with fail
  refine (hft.out _).mono ?_
  rintro e w' ⟨rfl, rfl⟩
  have hj := joined_any _ 1 1 _ _ (LS_one (t := 128) rfl (H.out.below bel1 (Nat.le_refl _))) (by rw [alls_one]; exact EM.ok_wk hok.out)
  rw [alls_one, EM.merge_id hok.out] at hj
  have hj := W_hid hj
  have bel4 := below_al bel1 (.cells #[.slice ao n cap] 128)
  go_wp2_with fail
  refine hj.out.mono ?_
  rintro e w3 ⟨v3, rfl, hown3, bel5⟩
  go_wp2_with fail
  go_ret2
  refine ⟨v3, rfl, ?_, below_tr bel4 bel5⟩
  rw [hwr.out]
  exact Own.low bel4.size hown3
set_option maxRecDepth 100000 in
set_option maxHeartbeats 1000000 in
theorem Write_any (ao : Option Addr) (n cap : Nat) (l : List (Int × ByteArray)) (f : Int) (d : ByteArray) (w : World) (h : XS w ao n cap l) (hf : XFit l) (hff : I64 f) (hd : d.size ≤ maxLen) :
    Calls Tryz.prog 120 #[.slice ao n cap, .int .i64 f, .string d] w (Gave (wrL l f d) (wrE l f d) w) := by
  have hval := xvalid_any ao n cap l w h hf
  cases hv : EM.ok 0 l with
  | false =>
    have HE := W_hid (fun w' => @gave_no (wrL l f d) (wrE l f d) w w' 2 (wr_no (by unfold wrE; rw [hv]; exact if_neg (by simp)) (by decide)))
    rw [hv] at hval
    have hval := W_hid hval
    clear hv h
    go_enter Tryz.func120, Tryz.ntmps120
    go_wp2_with fail
    refine hval.out.mono ?_
    rintro e w1 ⟨rfl, bel1⟩
    go_wp2_with fail
    go_ret2
    exact HE.out _ bel1
  | true =>
    by_cases h0 : f < 0
    · have HE := W_hid (fun w' => @gave_no (wrL l f d) (wrE l f d) w w' 2 (wr_no (by unfold wrE; rw [hv]; exact if_neg (by omega)) (by decide)))
      rw [hv] at hval
      have hval := W_hid hval
      clear hv h
      go_enter Tryz.func120, Tryz.ntmps120
      go_wp2_with fail
      refine hval.out.mono ?_
      rintro e w1 ⟨rfl, bel1⟩
      go_wp2_with fail
      go_ret2
      exact HE.out _ bel1
    by_cases h1 : f + d.size ≤ 1048576
    · have he : wrE l f d = 0 := by unfold wrE; rw [hv, if_pos ⟨rfl, by omega⟩, if_pos h1]
      have hL : wrL l f d = EM.wr l f d := by unfold wrL; rw [if_pos he]
      rw [he, hL]
      by_cases hd0 : d.size = 0
      · exact Write_none ao n cap l f d w h hf hv (by omega) h1 hd0
      · exact Write_in ao n cap l f d w h hf hv (by omega) h1 hd0
    · have HE := W_hid (fun w' => @gave_no (wrL l f d) (wrE l f d) w w' 28 (wr_no (by unfold wrE; rw [hv, if_pos ⟨rfl, by omega⟩, if_neg h1]) (by decide)))
      have hft : Hid (∀ w, Calls Tryz.prog 160 #[.int .i64 f, .string d] w fun e w' => e = .returned (.bool false) ∧ w = w') := by
        intro w
        have := fits_any f d w hff hd
        rwa [decide_eq_false h1] at this
      rw [hv] at hval
      have hval := W_hid hval
      clear hv h
      go_enter Tryz.func120, Tryz.ntmps120
      go_wp2_with fail
      refine hval.out.mono ?_
      rintro e w1 ⟨rfl, bel1⟩
      go_wp2_with fail
      refine (hft.out _).mono ?_
      rintro e w' ⟨rfl, rfl⟩
      go_wp2_with fail
      go_ret2
      exact HE.out _ bel1
namespace IN
structure Keeps (B : Nat) (T : Nat → Obj → Prop) (w w' : World) : Prop where
  os : w'.os = w.os
  tape : w'.tape = w.tape
  output : w'.output = w.output
  size : w.heap.size ≤ w'.heap.size
  low : ∀ (k : Nat), k < B → w'.heap[k]? = w.heap[k]?
  block : ∀ (k : Nat) (o : Obj), w.heap[k]? = some o → ¬ T k o → w'.heap[k]? = some o
section
variable {w w' w2 : World} {B : Nat} {T : Nat → Obj → Prop}
theorem Keeps.refl (B : Nat) (T : Nat → Obj → Prop) (w : World) : Keeps B T w w := ⟨rfl, rfl, rfl, Nat.le_refl _, fun _ _ => rfl, fun _ _ h _ => h⟩
theorem Keeps.trans (h : Keeps B T w w') (k : Keeps B T w' w2) : Keeps B T w w2 :=
  ⟨k.os.trans h.os, k.tape.trans h.tape, k.output.trans h.output, Nat.le_trans h.size k.size, fun i hi => (k.low i hi).trans (h.low i hi), fun i o ho hT => k.block i o (h.block i o ho hT) hT⟩
theorem lt_of_some {w : World} {k : Nat} {o : Obj} (h : w.heap[k]? = some o) : k < w.heap.size := by
  rcases Nat.lt_or_ge k w.heap.size with hlt | hge
  · exact hlt
  · rw [Array.getElem?_eq_none hge] at h; cases h
theorem Keeps.of {C : Nat} (h : Below C w w') (hB : B ≤ C) (hC : w.heap.size ≤ C) : Keeps B T w w' :=
  ⟨h.os, h.tape, h.output, h.size, fun k hk => h.block k (by omega), fun k o ho _ => (h.block k (Nat.lt_of_lt_of_le (lt_of_some ho) hC)).trans ho⟩
theorem Keeps.new (h : Below w.heap.size w w') (hB : B ≤ w.heap.size) : Keeps B T w w' := Keeps.of h hB (Nat.le_refl _)
theorem Keeps.drew (h : Keeps B T w w') (n : Nat) : Keeps B T w (w'.drewN n) := ⟨h.os, h.tape, h.output, h.size, h.low, h.block⟩
theorem Keeps.drew1 (h : Keeps B T w w') : Keeps B T w w'.drew := ⟨h.os, h.tape, h.output, h.size, h.low, h.block⟩
theorem Keeps.undrew (h : Keeps B T w.drew w') : Keeps B T w w' := ⟨h.os, h.tape, h.output, h.size, h.low, h.block⟩
theorem Keeps.alloc (h : Keeps B T w w') (hB : B ≤ w.heap.size) (o : Obj) : Keeps B T w (w'.alloc o) :=
  h.trans (Keeps.new ((Below.refl _ _).alloc (Nat.le_refl _) o) (Nat.le_trans hB h.size))
theorem Keeps.setCell (h : Keeps B T w w') {p : Addr} {o : Obj} (ho : w'.heap[p.block]? = some o) (hT : T p.block o) (hB : B ≤ p.block) (u : Value) : Keeps B T w (w'.setCell p u) :=
  h.trans ⟨rfl, rfl, rfl, by simp [World.setCell], fun k hk => Below.heap_setCell _ _ _ _ (by omega), fun k o' ho' hT' => by
    rw [Below.heap_setCell _ _ _ _ (fun e => hT' (by subst e; rw [ho] at ho'; cases ho'; exact hT))]
    exact ho'⟩
theorem Keeps.grown (h : Keeps B T w w') {b : Nat} {o : Obj} (ho : w'.heap[b]? = some o) (hT : T b o) (hB : B ≤ b) (hg : w'.grownBy w2 (some b)) : Keeps B T w w2 :=
  h.trans ⟨hg.os, hg.tape, hg.output, hg.size, fun k hk => hg.block k (Nat.lt_trans hk (by have := lt_of_some ho; omega)) (by intro e; cases e; omega), fun k o' ho' hT' => by
    rw [hg.block k (lt_of_some ho') (by intro e; cases e; rw [ho] at ho'; cases ho'; exact hT' hT)]
    exact ho'⟩
theorem Keeps.below (h : Keeps B T w w') {C : Nat} (hC : C ≤ B) : Below C w w' := ⟨h.os, h.tape, h.output, h.size, fun k hk => h.low k (by omega)⟩
theorem Keeps.mono (h : Keeps B T w w') {C : Nat} (hC : C ≤ B) : Keeps C T w w' := ⟨h.os, h.tape, h.output, h.size, fun k hk => h.low k (by omega), h.block⟩
end
end IN
end Go.Proofs.YtfhidjkhmjdioaaGreat

namespace Go.Proofs.YtfhidjkhmjdioaaGreat
open Go.ChangeShapes Go.WideShapes Go.ChangeAt Go.RowKit Go.Maps
set_option linter.unusedVariables false
set_option linter.unusedSimpArgs false
namespace IN
structure Nd where
  kind : Int
  links : Int
  opens : Int
  size : Int
  l : List (Int × ByteArray)
def upd (S : Int → Option Nd) (n : Int) (x : Option Nd) : Int → Option Nd := fun m => if m = n then x else S m
theorem upd_at (S : Int → Option Nd) (n : Int) (x : Option Nd) : upd S n x n = x := if_pos rfl
theorem upd_ne {S : Int → Option Nd} {n m : Int} {x : Option Nd} (h : m ≠ n) : upd S n x m = S m := if_neg h
theorem upd_upd (S : Int → Option Nd) (n : Int) (x y : Option Nd) : upd (upd S n x) n y = upd S n y := by
  funext m; unfold upd; split <;> rfl
def PT (mb : Nat) (k : Nat) (o : Obj) : Prop := (∃ c s, o = .cells c 86 s) ∨ (∃ c s, o = .cells c 155 s) ∨ (k = mb ∧ ∃ es c, o = .map es c)
def XE (w : World) (v : Value) (l : List (Int × ByteArray)) : Prop := ∃ ao n c, v = .slice ao n c ∧ XS w ao n c l ∧ ∀ a, ao = some a → ∃ cur, w.heap[a.block]? = some (.cells cur 216 (0, 0))
section
variable {w w' : World} {v : Value} {l : List (Int × ByteArray)}
theorem XE.move (h : XE w v l) (hk : ∀ (b : Nat) cur, w.heap[b]? = some (.cells cur 216 (0, 0)) → w'.heap[b]? = w.heap[b]?) : XE w' v l := by
  obtain ⟨ao, n, c, rfl, hx, ht⟩ := h
  refine ⟨ao, n, c, rfl, ⟨hx.1, hx.2.1, hx.2.2.1, hx.2.2.2.1, fun a ha j u hu => ?_⟩, fun a ha => ?_⟩
  · have hc := hx.2.2.2.2 a ha j u hu
    obtain ⟨cur, hb⟩ := ht a ha
    have ea : (a.add j).block = a.block := by
      unfold Addr.add
      split <;> rfl
    rw [World.cell?_of_block (w := w) (w' := w') (a := a.add j) (by rw [ea]; exact hk _ cur hb)]
    exact hc
  · obtain ⟨cur, hb⟩ := ht a ha
    exact ⟨cur, (hk _ cur hb).trans hb⟩
theorem XE.keeps (h : XE w v l) {B : Nat} {T : Nat → Obj → Prop} (hK : Keeps B T w w') (hT : ∀ k c, ¬ T k (.cells c 216 (0, 0))) : XE w' v l :=
  h.move fun b cur hb => (hK.block b _ hb (hT b cur)).trans hb.symm
theorem XE.keep (h : XE w v l) (hb : Below w.heap.size w w') : XE w' v l := h.move fun b cur hc => hb.block b (lt_of_some hc)
theorem XE.alloc (h : XE w v l) (o : Obj) : XE (w.alloc o) v l := h.keep ((Below.refl _ _).alloc (Nat.le_refl _) o)
theorem XE.drew (h : XE w v l) (n : Nat) : XE (w.drewN n) v l := h
theorem XE.nil (w : World) : XE w (.slice none 0 0) [] := ⟨none, 0, 0, rfl, XS.nil w, fun _ h => by cases h⟩
theorem XE.own {base : Nat} (h : w.ownsRow base 216 2 v l.length (ecl l)) : XE w v l := by
  obtain ⟨ao, c, rfl⟩ := Own.form h
  refine ⟨ao, _, c, rfl, XS_own h, fun a ha => ?_⟩
  subst ha
  rcases h.2 with ⟨h', _⟩ | ⟨g, cap, cur, h', _, hg, _⟩
  · simp at h'
  · simp only [Value.slice.injEq, Option.some.injEq] at h'
    obtain ⟨rfl, -, rfl⟩ := h'
    exact ⟨cur, hg⟩
end
def ncl (d : Nd) (v : Value) : List Value := [.int .i64 d.kind, .int .i64 d.links, .int .i64 d.opens, .int .i64 d.size, v]
def NB (w : World) (g : Nat) (d : Nd) (v : Value) : Prop := Blk w g 155 (ncl d v) ∧ XE w v d.l
theorem blk_ne {w : World} {g b : Nat} {e f : TypeId} {l m : List Value} (h : Blk w g e l) (k : Blk w b f m) (hef : e ≠ f) : g ≠ b := by
  intro e'
  subst e'
  unfold Blk at h k
  rw [h] at k
  simp only [Option.some.injEq, Obj.cells.injEq] at k
  exact hef k.2.1
theorem map_obj {w : World} {b : Nat} {M : Int → Option Nat} (h : IS.MB w b M) : ∃ es c, w.heap[b]? = some (.map es c) := by
  obtain ⟨D, ⟨es, clock, hb, _⟩, _⟩ := h.ex
  exact ⟨es, clock, hb⟩
theorem blk_map {w : World} {g b : Nat} {e : TypeId} {l : List Value} {M : Int → Option Nat} (h : Blk w g e l) (k : IS.MB w b M) : g ≠ b := by
  intro e'
  subst e'
  obtain ⟨es, c, hm⟩ := map_obj k
  unfold Blk at h
  rw [h] at hm
  cases hm
structure PM (base : Nat) (w : World) (sg mb : Nat) (M : Int → Option Nat) (I L left : Int) (S : Int → Option Nd) : Prop where
  box : Blk w sg 86 [.map (some mb), .int .i64 I, .int .i64 L, .int .i64 left]
  mp : IS.MB w mb M
  dom : ∀ n, M n = none ↔ S n = none
  node : ∀ n g d, M n = some g → S n = some d → ∃ v, NB w g d v
  inj : ∀ n m g, M n = some g → M m = some g → n = m
  ge : base ≤ sg ∧ base ≤ mb ∧ ∀ n g, M n = some g → base ≤ g
section
variable {base : Nat} {w w' : World} {sg mb : Nat} {M : Int → Option Nat} {I L left : Int} {S : Int → Option Nd}
theorem PM.moved (h : PM base w sg mb M I L left S) (h1 : w'.heap[sg]? = w.heap[sg]?) (h2 : w'.heap[mb]? = w.heap[mb]?) (h3 : ∀ n g, M n = some g → w'.heap[g]? = w.heap[g]?) (h4 : ∀ (b : Nat) (cur : Array Value), w.heap[b]? = some (.cells cur 216 (0, 0)) → w'.heap[b]? = w.heap[b]?) : PM base w' sg mb M I L left S :=
  ⟨h1.trans h.box, h.mp.heap h2, h.dom, fun n g d hM hS => by
    obtain ⟨v, hb, hx⟩ := h.node n g d hM hS
    exact ⟨v, (h3 n g hM).trans hb, hx.move h4⟩, h.inj, h.ge⟩
theorem PM.glt (h : PM base w sg mb M I L left S) {n : Int} {g : Nat} (hM : M n = some g) : g < w.heap.size := by
  cases hS : S n with
  | none => rw [(h.dom n).2 hS] at hM; cases hM
  | some d => obtain ⟨v, hb, _⟩ := h.node n g d hM hS; exact hb.lt
theorem PM.keep (h : PM base w sg mb M I L left S) (hb : Below w.heap.size w w') : PM base w' sg mb M I L left S :=
  h.moved (hb.block _ h.box.lt) (hb.block _ h.mp.lt) (fun n g hM => hb.block _ (h.glt hM)) (fun b cur hc => hb.block _ (lt_of_some hc))
theorem PM.drew (h : PM base w sg mb M I L left S) (n : Nat) : PM base (w.drewN n) sg mb M I L left S := h.moved rfl rfl (fun _ _ _ => rfl) (fun _ _ _ => rfl)
theorem PM.drew1 (h : PM base w sg mb M I L left S) : PM base w.drew sg mb M I L left S := h.moved rfl rfl (fun _ _ _ => rfl) (fun _ _ _ => rfl)
theorem PM.alloc (h : PM base w sg mb M I L left S) (o : Obj) : PM base (w.alloc o) sg mb M I L left S := h.keep ((Below.refl _ _).alloc (Nat.le_refl _) o)
theorem PM.keeps (h : PM base w sg mb M I L left S) {B : Nat} {T : Nat → Obj → Prop} (hK : Keeps B T w w') (h1 : ∀ k c s, ¬ T k (.cells c 86 s)) (h2 : ∀ k c s, ¬ T k (.cells c 155 s)) (h3 : ∀ es c, ¬ T mb (.map es c)) (h4 : ∀ k c, ¬ T k (.cells c 216 (0, 0))) : PM base w' sg mb M I L left S := by
  obtain ⟨es, c, hm⟩ := map_obj h.mp
  refine h.moved ((hK.block _ _ h.box (h1 _ _ _)).trans (Eq.symm h.box)) ((hK.block _ _ hm (h3 _ _)).trans hm.symm) (fun n g hM => ?_) (fun b cur hb => (hK.block b _ hb (h4 b cur)).trans hb.symm)
  cases hS : S n with
  | none => rw [(h.dom n).2 hS] at hM; cases hM
  | some d =>
    obtain ⟨v, hb, _⟩ := h.node n g d hM hS
    exact (hK.block _ _ hb (h2 _ _ _)).trans (Eq.symm hb)
theorem PM.has (h : PM base w sg mb M I L left S) {n : Int} {d : Nd} (hS : S n = some d) : ∃ g v, M n = some g ∧ NB w g d v ∧ base ≤ g ∧ g ≠ sg ∧ g ≠ mb := by
  cases hM : M n with
  | none => rw [(h.dom n).1 hM] at hS; cases hS
  | some g =>
    obtain ⟨v, hN⟩ := h.node n g d hM hS
    exact ⟨g, v, rfl, hN, h.ge.2.2 n g hM, blk_ne hN.1 h.box (by decide), blk_map hN.1 h.mp⟩
theorem PM.setNode (h : PM base w sg mb M I L left S) {n : Int} {g : Nat} {d d' : Nd} {v v' : Value} (hM : M n = some g) (hS : S n = some d) (hb : Blk w g 155 (ncl d v)) (hx : XE w v' d'.l) (j : Nat) (u : Value) (he : (ncl d v).set j u = ncl d' v') :
    PM base (w.setCell ⟨g, j, none⟩ u) sg mb M I L left (upd S n (some d')) ∧ NB (w.setCell ⟨g, j, none⟩ u) g d' v' ∧ Keeps base (PT mb) w (w.setCell ⟨g, j, none⟩ u) := by
  have hgs : sg ≠ g := (blk_ne hb h.box (by decide)).symm
  have hgm : mb ≠ g := (blk_map hb h.mp).symm
  have hext : ∀ (b : Nat) (cur : Array Value), w.heap[b]? = some (.cells cur 216 (0, 0)) → (w.setCell ⟨g, j, none⟩ u).heap[b]? = w.heap[b]? := fun b cur hc => Below.heap_setCell _ _ _ _ (fun e => by
    have e' : b = g := e
    subst e'
    unfold Blk at hb
    rw [hb] at hc
    simp only [Option.some.injEq, Obj.cells.injEq] at hc
    exact absurd hc.2.1 (by decide))
  have hnew : Blk (w.setCell ⟨g, j, none⟩ u) g 155 (ncl d' v') := by
    have := hb.set j u
    rw [he] at this
    exact this
  refine ⟨⟨h.box.far hgs u, h.mp.far hgm u, fun m => ?_, fun m g' d'' hM' hS' => ?_, h.inj, h.ge⟩, ⟨hnew, hx.move hext⟩, (Keeps.refl base (PT mb) w).setCell (p := ⟨g, j, none⟩) (o := .cells (ncl d v).toArray 155 (0, 0)) hb (.inr (.inl ⟨_, _, rfl⟩)) (h.ge.2.2 n g hM) u⟩
  · by_cases e : m = n
    · subst e; rw [upd_at, hM]; simp
    · rw [upd_ne e]; exact h.dom m
  · by_cases e : m = n
    · subst e
      rw [upd_at] at hS'
      cases hS'
      rw [hM] at hM'
      cases hM'
      exact ⟨v', hnew, hx.move hext⟩
    · rw [upd_ne e] at hS'
      obtain ⟨v'', hb', hx'⟩ := h.node m g' d'' hM' hS'
      exact ⟨v'', hb'.far (p := ⟨g, j, none⟩) (fun e' => e (h.inj m n g (by have e2 : g' = g := e'; rw [← e2]; exact hM') hM)) u, hx'.move hext⟩
theorem PM.setLeft (h : PM base w sg mb M I L left S) (x : Int) : PM base (w.setCell ⟨sg, 3, none⟩ (.int .i64 x)) sg mb M I L x S ∧ Keeps base (PT mb) w (w.setCell ⟨sg, 3, none⟩ (.int .i64 x)) := by
  have hext : ∀ (b : Nat) (cur : Array Value), w.heap[b]? = some (.cells cur 216 (0, 0)) → (w.setCell ⟨sg, 3, none⟩ (.int .i64 x)).heap[b]? = w.heap[b]? := fun b cur hc => Below.heap_setCell _ _ _ _ (fun e => by
    have e' : b = sg := e
    subst e'
    have hb := h.box
    unfold Blk at hb
    rw [hb] at hc
    simp only [Option.some.injEq, Obj.cells.injEq] at hc
    exact absurd hc.2.1 (by decide))
  refine ⟨⟨h.box.set 3 _, h.mp.far (blk_map h.box h.mp).symm _, h.dom, fun n g d hM hS => ?_, h.inj, h.ge⟩, (Keeps.refl base (PT mb) w).setCell (p := ⟨sg, 3, none⟩) (o := .cells [Value.map (some mb), .int .i64 I, .int .i64 L, .int .i64 left].toArray 86 (0, 0)) h.box (.inl ⟨_, _, rfl⟩) h.ge.1 _⟩
  obtain ⟨v, hb, hx⟩ := h.node n g d hM hS
  exact ⟨v, hb.far (blk_ne hb h.box (by decide)) _, hx.move hext⟩
theorem PM.turn (h : PM base w sg mb M I L left S) {M' : Int → Option Nat} (hm : IS.MB w' mb M') (hg : w.grownBy w' (some mb)) (S' : Int → Option Nd) (hd : ∀ n, M' n = none ↔ S' n = none)
    (hn : ∀ n g d, M' n = some g → S' n = some d → (M n = some g ∧ S n = some d) ∨ ∃ v, NB w g d v ∧ base ≤ g) (hi : ∀ n m g, M' n = some g → M' m = some g → n = m) : PM base w' sg mb M' I L left S' ∧ Keeps base (PT mb) w w' := by
  obtain ⟨es, c, hmo⟩ := map_obj h.mp
  have hext : ∀ (b : Nat) (cur : Array Value), w.heap[b]? = some (.cells cur 216 (0, 0)) → w'.heap[b]? = w.heap[b]? := fun b cur hc => hg.block b (lt_of_some hc) (fun e => by cases e; rw [hmo] at hc; cases hc)
  have hmv : ∀ {g : Nat} {d : Nd} {v : Value}, NB w g d v → NB w' g d v := fun {g d v} k => ⟨k.1.grown hg (fun e => blk_map k.1 h.mp (Option.some.inj e)), k.2.move hext⟩
  refine ⟨⟨h.box.grown hg (fun e => blk_map h.box h.mp (Option.some.inj e)), hm, hd, fun n g d hM hS => ?_, hi, h.ge.1, h.ge.2.1, fun n g hM => ?_⟩, (Keeps.refl _ _ _).grown hmo (.inr (.inr ⟨rfl, _, _, rfl⟩)) h.ge.2.1 hg⟩
  · rcases hn n g d hM hS with ⟨h1, h2⟩ | ⟨v, h1, _⟩
    · obtain ⟨v, hN⟩ := h.node n g d h1 h2
      exact ⟨v, hmv hN⟩
    · exact ⟨v, hmv h1⟩
  · cases hS : S' n with
    | none => rw [(hd n).2 hS] at hM; cases hM
    | some d =>
      rcases hn n g d hM hS with ⟨h1, h2⟩ | ⟨v, _, h1⟩
      · exact h.ge.2.2 n g h1
      · exact h1
end
end IN
namespace IN
set_option maxRecDepth 100000 in
set_option maxHeartbeats 1000000 in
theorem unless_any (b : Bool) (e : Int) (w : World) : Calls Tryz.prog 109 #[.bool b, .int .i64 e] w fun r w' => r = .returned (.int .i64 (if b = true then 0 else e)) ∧ w' = w := by
  go_enter Tryz.func109, Tryz.ntmps109
  cases b <;>
  · go_wp2
    go_ret
    exact ⟨rfl, rfl⟩
def Ans (r : Int) (w : World) (e : Ending) (w' : World) : Prop := e = .returned (.int .i64 r) ∧ Below w.heap.size w w'
theorem ans_drew {r : Int} {w : World} (n : Nat) : Ans r w (.returned (.int .i64 r)) (w.drewN n) := ⟨rfl, ⟨rfl, rfl, rfl, Nat.le_refl _, fun _ _ => rfl⟩⟩
theorem ans_same {r : Int} {w : World} : Ans r w (.returned (.int .i64 r)) w := ⟨rfl, Below.refl _ _⟩
set_option maxRecDepth 100000 in
set_option maxHeartbeats 1000000 in
theorem isKind_any (k : Int) (w : World) : Calls Tryz.prog 82 #[.int .i64 k] w (Ans (if k = 1 ∨ k = 2 then 0 else 2) w) := by
  have cU := fun b w => unless_any b 2 w
  go_enter Tryz.func82, Tryz.ntmps82
  by_cases h1 : k = 1
  · subst h1
    go_wp2_with (go_at_call 109; refine (cU _ _).mono ?_; rintro e w' ⟨rfl, rfl⟩)
    go_ret
    exact ans_same
  · by_cases h2 : k = 2
    · subst h2
      go_wp2_with (go_at_call 109; refine (cU _ _).mono ?_; rintro e w' ⟨rfl, rfl⟩)
      go_ret
      exact ans_same
    · rw [if_neg (by omega)]
      go_wp2_with (go_at_call 109; refine (cU _ _).mono ?_; rintro e w' ⟨rfl, rfl⟩)
      go_ret
      exact ans_same
section
variable {base sg mb : Nat} {M : Int → Option Nat} {I L left : Int} {S : Int → Option Nd}
set_option maxRecDepth 100000 in
set_option maxHeartbeats 1000000 in
theorem made_some (a : Value) (w : World) (h : PM base w sg mb M I L left S) : Calls Tryz.prog 59 #[.pointer (some ⟨sg, 0, none⟩), a] w (Ans 0 w) := by
  have cU := fun w => unless_any true 1 w
  have c0 := h.box.cell (j := 0) rfl
  have qT : ∀ (w : World) (r : Option Nat), (binOp .neq 84 (.map r) (.map none)).run Tryz.prog w = .ok (.bool (!r.isNone)) w := fun w r => run_neq_map_nil w _ _ _ r IS.und_map
  clear h
  go_enter Tryz.func59, Tryz.ntmps59
  go_wp2_with (go_at_call 109; refine (cU _).mono ?_; rintro e w' ⟨rfl, rfl⟩)
  go_ret
  exact ans_same
set_option maxRecDepth 100000 in
set_option maxHeartbeats 2000000 in
theorem has_any (n : Int) (w : World) (h : PM base w sg mb M I L left S) (hn : IS.I64 n) : Calls Tryz.prog 84 #[.pointer (some ⟨sg, 0, none⟩), .int .i64 n] w (Ans (if (S n).isSome = true then 0 else 11) w) := by
  have cU := fun b w => unless_any b 11 w
  have c0 := h.box.cell (j := 0) rfl
  have hl := h.mp.look n hn
  have hd : (S n).isSome = (M n).isSome := by
    have := h.dom n
    cases hM : M n <;> cases hS : S n <;> simp_all
  rw [hd]
  clear h hd
  generalize M n = x at hl ⊢
  cases x with
  | none =>
    go_enter Tryz.func84, Tryz.ntmps84
    simp only [IS.ptr] at hl
    go_wp2_with (go_at_call 109; refine (cU _ _).mono ?_; rintro e w' ⟨rfl, rfl⟩)
    go_ret
    exact ans_same
  | some g =>
    go_enter Tryz.func84, Tryz.ntmps84
    simp only [IS.ptr] at hl
    go_wp2_with (go_at_call 109; refine (cU _ _).mono ?_; rintro e w' ⟨rfl, rfl⟩)
    go_ret
    exact ans_same
set_option maxRecDepth 100000 in
set_option maxHeartbeats 2000000 in
theorem room_any (n : Value) (ss : List Nat) (w : World) (h : PM base w sg mb M I L left S) (hs : IS.Nums M ss) : Calls Tryz.prog 83 #[.pointer (some ⟨sg, 0, none⟩), n] w (Ans (if (ss.length : Int) < I then 0 else 21) w) := by
  have cT := fun t => Calls.quiet_of_same (unless_any true 21 (w.drewN t))
  have cF := fun t => Calls.quiet_of_same (unless_any false 21 (w.drewN t))
  have c0 := h.box.cell (j := 0) rfl
  have c1 := h.box.cell (j := 1) rfl
  have hl := fun t ty => (h.mp.drew t).count hs ty
  have hl0 := fun ty => h.mp.count hs ty
  clear h
  by_cases hlt : (ss.length : Int) < I
  · rw [if_pos hlt]
    go_enter Tryz.func83, Tryz.ntmps83
    go_wp2_with fail
    go_quiet ((go_at_call 109; exact cT _))
    go_wp2_with fail
    go_ret
    exact ans_drew _
  · rw [if_neg hlt]
    have hd : decide ((ss.length : Int) < I) = false := decide_eq_false hlt
    go_enter Tryz.func83, Tryz.ntmps83
    go_wp2_with fail
    go_quiet ((go_at_call 109; exact cF _))
    go_wp2_with fail
    go_ret
    exact ans_drew _
set_option maxRecDepth 100000 in
set_option maxHeartbeats 2000000 in
theorem file_any (n : Int) (d : Nd) (w : World) (h : PM base w sg mb M I L left S) (hn : IS.I64 n) (hS : S n = some d) : Calls Tryz.prog 119 #[.pointer (some ⟨sg, 0, none⟩), .int .i64 n] w (Ans (if d.kind = 1 then 0 else 14) w) := by
  have cU := fun b w => unless_any b 14 w
  have c0 := h.box.cell (j := 0) rfl
  have hl := h.mp.look n hn
  obtain ⟨g, v, hM, hN, -⟩ := h.has hS
  have d0 := hN.1.cell (j := 0) rfl
  rw [hM] at hl
  simp only [IS.ptr] at hl
  clear h hN hM
  go_enter Tryz.func119, Tryz.ntmps119
  by_cases hk : d.kind = 1
  · rw [hk] at d0
    rw [if_pos hk]
    go_wp2_with (go_at_call 109; refine (cU _ _).mono ?_; rintro e w' ⟨rfl, rfl⟩)
    go_ret
    exact ans_same
  · rw [if_neg hk]
    go_wp2_with (go_at_call 109; refine (cU _ _).mono ?_; rintro e w' ⟨rfl, rfl⟩)
    go_ret
    simp [hk]
    exact ans_same
end
def fst : List Int → Int
  | [] => 0
  | r :: rs => if r = 0 then fst rs else r
def Chk (w : World) (arg : Value) (f : Value) (r : Int) : Prop := ∃ (k : Nat) (c : Array Value), f = .func (.func k) c #[] ∧ (∀ w, (callFunc k (c ++ #[arg])).run Tryz.prog w = .ok (.enter k (c ++ #[arg])) w) ∧ ∀ W, Below w.heap.size w W → Calls Tryz.prog k (c ++ #[arg]) W (Ans r W)
end IN
end Go.Proofs.YtfhidjkhmjdioaaGreat

namespace Go.Proofs.YtfhidjkhmjdioaaGreat
set_option linter.unusedVariables false
set_option linter.unusedSimpArgs false
namespace IN
def ent (S : Int → Option Nd) (i : Nat) : Option (Nat × Nd) := (S ((i + 1 : Nat) : Int)).map fun d => (i + 1, d)
def lst (S : Int → Option Nd) (I : Nat) : List (Nat × Nd) := (List.range I).filterMap (ent S)
def lo (S : Int → Option Nd) (n : Nat) : List (Nat × Nd) := (List.range (n - 1)).filterMap (ent S)
def hi (S : Int → Option Nd) (n I : Nat) : List (Nat × Nd) := (List.range' n (I - n)).filterMap (ent S)
def ks (S : Int → Option Nd) (I : Nat) : List Nat := (lst S I).map (·.1)
def tot (S : Int → Option Nd) (I : Nat) : Nat := ((lst S I).map fun x => EM.cnt x.2.l).sum
def cntOf (x : Option Nd) : Nat := match x with | none => 0 | some d => EM.cnt d.l
theorem fm_congr {α β : Type} {f g : α → Option β} : ∀ {l : List α}, (∀ x ∈ l, f x = g x) → l.filterMap f = l.filterMap g
  | [], _ => rfl
  | a :: l, h => by
    rw [List.filterMap_cons, List.filterMap_cons, h a List.mem_cons_self, fm_congr (fun x hx => h x (List.mem_cons_of_mem _ hx))]
theorem split (S : Int → Option Nd) (n I : Nat) (h1 : 1 ≤ n) (h2 : n ≤ I) : lst S I = lo S n ++ ((S (n : Int)).map fun d => (n, d)).toList ++ hi S n I := by
  have e : List.range I = List.range (n - 1) ++ [n - 1] ++ List.range' n (I - n) := by
    rw [List.range_eq_range', List.range_eq_range']
    have e1 : List.range' 0 (n - 1) ++ [n - 1] = List.range' 0 n := by
      have : n = n - 1 + 1 := by omega
      conv => rhs; rw [this, List.range'_concat]
      simp
    rw [e1]
    have e2 : I = n + (I - n) := by omega
    conv => lhs; rw [e2]
    rw [← List.range'_append]
    simp
  unfold lst
  rw [e, List.filterMap_append, List.filterMap_append]
  have : (n - 1 + 1 : Nat) = n := by omega
  have hone : List.filterMap (ent S) [n - 1] = ((S (n : Int)).map fun d => (n, d)).toList := by
    unfold ent
    rw [List.filterMap_cons]
    rw [this]
    cases S (n : Int) <;> rfl
  rw [hone]
  rfl
theorem lo_upd (S : Int → Option Nd) (n : Nat) (x : Option Nd) : lo (upd S (n : Int) x) n = lo S n :=
  fm_congr fun i hi => by
    have := List.mem_range.1 hi
    unfold ent
    rw [upd_ne (by omega)]
theorem hi_upd (S : Int → Option Nd) (n I : Nat) (x : Option Nd) : hi (upd S (n : Int) x) n I = hi S n I :=
  fm_congr fun i hi => by
    have := List.mem_range'_1.1 hi
    unfold ent
    rw [upd_ne (by omega)]
theorem lst_upd (S : Int → Option Nd) (n I : Nat) (x : Option Nd) (h1 : 1 ≤ n) (h2 : n ≤ I) : lst (upd S (n : Int) x) I = lo S n ++ (x.map fun d => (n, d)).toList ++ hi S n I := by
  rw [split _ n I h1 h2, lo_upd, hi_upd, upd_at]
theorem tot_upd (S : Int → Option Nd) (n I : Nat) (x : Option Nd) (h1 : 1 ≤ n) (h2 : n ≤ I) : tot (upd S (n : Int) x) I + cntOf (S n) = tot S I + cntOf x := by
  unfold tot
  rw [lst_upd S n I x h1 h2, split S n I h1 h2]
  simp only [List.map_append, List.sum_append]
  cases x <;> cases hS : S (n : Int) <;> simp [cntOf] <;> omega
theorem tot_ge (S : Int → Option Nd) (n I : Nat) (h1 : 1 ≤ n) (h2 : n ≤ I) : cntOf (S n) ≤ tot S I := by
  unfold tot
  rw [split S n I h1 h2]
  simp only [List.map_append, List.sum_append]
  cases hS : S (n : Int) <;> simp [cntOf] <;> omega
theorem mem_lst {S : Int → Option Nd} {I : Nat} {x : Nat × Nd} : x ∈ lst S I ↔ 1 ≤ x.1 ∧ x.1 ≤ I ∧ S (x.1 : Int) = some x.2 := by
  unfold lst
  rw [List.mem_filterMap]
  constructor
  · rintro ⟨i, hi, e⟩
    have := List.mem_range.1 hi
    unfold ent at e
    cases hS : S ((i + 1 : Nat) : Int) with
    | none => rw [hS] at e; cases e
    | some d => rw [hS] at e; cases e; exact ⟨by simp, by simp; omega, hS⟩
  · rintro ⟨h1, h2, h3⟩
    refine ⟨x.1 - 1, List.mem_range.2 (by omega), ?_⟩
    unfold ent
    have : x.1 - 1 + 1 = x.1 := by omega
    rw [this, h3]
    rfl
theorem lst_rise (S : Int → Option Nd) (I : Nat) : (lst S I).Pairwise fun a b => a.1 < b.1 := by
  unfold lst
  rw [List.pairwise_filterMap]
  refine List.Pairwise.imp ?_ List.pairwise_lt_range
  intro i j hij a ha b hb
  unfold ent at ha hb
  cases hS : S ((i + 1 : Nat) : Int) with
  | none => rw [hS] at ha; cases ha
  | some d =>
    cases hS' : S ((j + 1 : Nat) : Int) with
    | none => rw [hS'] at hb; cases hb
    | some d' => rw [hS] at ha; rw [hS'] at hb; cases ha; cases hb; simp; exact hij
theorem ks_rise (S : Int → Option Nd) (I : Nat) : (ks S I).Pairwise (· < ·) := by
  unfold ks
  rw [List.pairwise_map]
  exact lst_rise S I
theorem ks_mem {S : Int → Option Nd} {I : Nat} (h : ∀ n, S n ≠ none → 1 ≤ n ∧ n ≤ (I : Int)) (f : Nat) : f ∈ ks S I ↔ S (f : Int) ≠ none := by
  unfold ks
  rw [List.mem_map]
  constructor
  · rintro ⟨x, hx, rfl⟩
    rw [(mem_lst.1 hx).2.2]
    simp
  · intro hf
    have := h f hf
    cases hS : S (f : Int) with
    | none => exact absurd hS hf
    | some d => exact ⟨(f, d), mem_lst.2 ⟨by omega, by omega, hS⟩, rfl⟩
theorem ks_nums {S : Int → Option Nd} {M : Int → Option Nat} {I : Nat} (h : ∀ n, S n ≠ none → 1 ≤ n ∧ n ≤ (I : Int)) (hd : ∀ n, M n = none ↔ S n = none) : IS.Nums M (ks S I) :=
  ⟨(ks_rise S I).imp fun h => by omega, fun f => by rw [ks_mem h, ne_eq, ne_eq, hd]⟩
theorem ks_len (S : Int → Option Nd) (I : Nat) : (ks S I).length = (lst S I).length := by simp [ks]
theorem lst_len (S : Int → Option Nd) (I : Nat) : (lst S I).length ≤ I := by
  have := List.length_filterMap_le (ent S) (List.range I)
  simpa [lst] using this
theorem rise_eq : ∀ {l m : List Nat}, l.Pairwise (· < ·) → m.Pairwise (· < ·) → (∀ x, x ∈ l ↔ x ∈ m) → l = m
  | [], [], _, _, _ => rfl
  | [], b :: m, _, _, h => by have := (h b).2 (by simp); simp at this
  | a :: l, [], _, _, h => by have := (h a).1 (by simp); simp at this
  | a :: l, b :: m, h1, h2, h => by
    have p1 := List.pairwise_cons.1 h1
    have p2 := List.pairwise_cons.1 h2
    have hab : a = b := by
      have ha := (h a).1 (by simp)
      have hb := (h b).2 (by simp)
      rcases List.mem_cons.1 ha with e | ha'
      · exact e
      · rcases List.mem_cons.1 hb with e | hb'
        · exact e.symm
        · have := p1.1 b hb'; have := p2.1 a ha'; omega
    subst hab
    rw [rise_eq p1.2 p2.2 fun x => ?_]
    have hx := h x
    constructor
    · intro hxl
      rcases List.mem_cons.1 (hx.1 (List.mem_cons_of_mem _ hxl)) with e | h'
      · subst e; have := p1.1 x hxl; omega
      · exact h'
    · intro hxm
      rcases List.mem_cons.1 (hx.2 (List.mem_cons_of_mem _ hxm)) with e | h'
      · subst e; have := p2.1 x hxm; omega
      · exact h'
def Low (S : Int → Option Nd) (n : Nat) : Prop := 1 ≤ n ∧ S (n : Int) = none ∧ ∀ m : Nat, 1 ≤ m → m < n → S (m : Int) ≠ none
theorem low_or (S : Int → Option Nd) : ∀ k : Nat, (∃ n, n ≤ k ∧ Low S n) ∨ ∀ m : Nat, 1 ≤ m → m ≤ k → S (m : Int) ≠ none
  | 0 => .inr fun m h1 h2 => by omega
  | k + 1 => by
    rcases low_or S k with ⟨n, h1, h2⟩ | h
    · exact .inl ⟨n, by omega, h2⟩
    · by_cases e : S ((k + 1 : Nat) : Int) = none
      · exact .inl ⟨k + 1, by omega, by omega, e, fun m h1 h2 => h m h1 (by omega)⟩
      · refine .inr fun m h1 h2 => ?_
        by_cases hm : m = k + 1
        · rw [hm]; exact e
        · exact h m h1 (by omega)
theorem fm_full {S : Int → Option Nd} : ∀ k : Nat, (∀ m : Nat, 1 ≤ m → m ≤ k → S (m : Int) ≠ none) → ((List.range k).filterMap (ent S)).length = k ∧ ∀ i x, ((List.range k).filterMap (ent S))[i]? = some x → x.1 = i + 1
  | 0, _ => ⟨rfl, fun i x h => by simp at h⟩
  | k + 1, h => by
    obtain ⟨h1, h2⟩ := fm_full k fun m a b => h m a (by omega)
    have h3 := h (k + 1) (by omega) (by omega)
    cases hS : S ((k + 1 : Nat) : Int) with
    | none => exact absurd hS h3
    | some d =>
      have e : (List.range (k + 1)).filterMap (ent S) = (List.range k).filterMap (ent S) ++ [(k + 1, d)] := by
        rw [List.range_succ, List.filterMap_append]
        congr 1
        unfold ent
        rw [List.filterMap_cons, hS]
        rfl
      rw [e]
      refine ⟨by simp [h1], fun i x hx => ?_⟩
      by_cases hi : i < k
      · rw [List.getElem?_append_left (by omega)] at hx
        exact h2 i x hx
      · rw [List.getElem?_append_right (by omega), h1] at hx
        have : i - k = 0 := by
          rcases Nat.eq_zero_or_pos (i - k) with e | e
          · exact e
          · rw [List.getElem?_eq_none (by simp; omega)] at hx; cases hx
        rw [this] at hx
        cases hx
        simp; omega
theorem low_of {S : Int → Option Nd} {I : Nat} (h : (lst S I).length < I) : ∃ n, n ≤ I ∧ Low S n := by
  rcases low_or S I with h1 | h1
  · exact h1
  · have := (fm_full I h1).1
    unfold lst at h
    omega
structure Good (L k : Nat) (d : Nd) : Prop where
  kind : d.kind = 1 ∨ d.kind = 2
  links : 0 ≤ d.links ∧ d.links ≤ L
  opens : 0 ≤ d.opens ∧ d.opens ≤ k
  some : 1 ≤ d.links + d.opens
  size : 0 ≤ d.size ∧ d.size ≤ 1048576
  ok : EM.ok 0 d.l = true
  fin : ends d.l ≤ d.size
  dir : d.kind = 2 → d.size = 0 ∧ d.l = []
structure Fine (I L B k : Nat) (S : Int → Option Nd) : Prop where
  num : ∀ n, S n ≠ none → 1 ≤ n ∧ n ≤ (I : Int)
  good : ∀ n d, S n = some d → Good L k d
  tot : tot S I ≤ B
theorem Fine.empty (I L B : Nat) : Fine I L B 0 fun _ => none :=
  ⟨fun _ h => absurd rfl h, fun _ _ h => (by cases h), by
    have : lst (fun _ => none) I = [] := List.eq_nil_iff_forall_not_mem.2 fun x hx => by have := (mem_lst.1 hx).2.2; cases this
    unfold IN.tot; rw [this]; simp⟩
theorem Good.mono {L k k' : Nat} {d : Nd} (h : Good L k d) (hk : k ≤ k') : Good L k' d := ⟨h.kind, h.links, ⟨h.opens.1, by have := h.opens.2; omega⟩, h.some, h.size, h.ok, h.fin, h.dir⟩
theorem Fine.mono {I L B k k' : Nat} {S : Int → Option Nd} (h : Fine I L B k S) (hk : k ≤ k') : Fine I L B k' S := ⟨h.num, fun n d e => (h.good n d e).mono hk, h.tot⟩
theorem Fine.turn {I L B k : Nat} {S : Int → Option Nd} (h : Fine I L B k S) {n : Nat} {x : Option Nd} (h1 : 1 ≤ n) (h2 : n ≤ I) (hg : ∀ d, x = some d → Good L k d) (ht : IN.tot S I + cntOf x ≤ B + cntOf (S n)) : Fine I L B k (upd S n x) := by
  refine ⟨fun m hm => ?_, fun m d hd => ?_, ?_⟩
  · by_cases e : m = n
    · omega
    · rw [upd_ne e] at hm; exact h.num m hm
  · by_cases e : m = n
    · subst e; rw [upd_at] at hd; exact hg d hd
    · rw [upd_ne e] at hd; exact h.good m d hd
  · have := tot_upd S n I x h1 h2
    omega
end IN
end Go.Proofs.YtfhidjkhmjdioaaGreat

namespace Go.Proofs.YtfhidjkhmjdioaaGreat
open Go.ChangeShapes Go.WideShapes Go.ChangeAt Go.RowKit Go.Maps
set_option linter.unusedVariables false
set_option linter.unusedSimpArgs false
namespace IN
set_option maxRecDepth 100000 in
set_option maxHeartbeats 4000000 in
theorem first_one (p : Value) (k1 : Nat) (r1 : Int) (n : Int) (b : Nat) (w : World) (hB : Blk w b 42 [.func (.func k1) #[p] #[]])
    (e1 : ∀ w, (callFunc k1 #[p, .int .i64 n]).run Tryz.prog w = .ok (.enter k1 #[p, .int .i64 n]) w)
    (h1 : ∀ W, Below w.heap.size w W → Calls Tryz.prog k1 #[p, .int .i64 n] W (Ans r1 W)) :
    Calls Tryz.prog 58 #[.int .i64 n, .slice (some ⟨b, 0, none⟩) 1 1] w (Ans (fst [r1]) w) := by
  have c0 := hB.cell (j := 0) rfl
  have hlt := hB.lt
  have HB := W_hid hB
  have h1 := W_hid h1
  clear hB
  go_enter Tryz.func58, Tryz.ntmps58
  go_wp2_with fail
  refine wp_loop_rounds 2 ?_
  rw [rounds_succ]
  go_wp2_with fail
  refine (h1.out w (Below.refl _ _)).mono ?_
  rintro e w1 ⟨rfl, b1⟩
  by_cases hr1 : r1 = 0
  · subst hr1
    go_wp2_with fail
    rw [rounds_succ]
    go_wp2_with fail
    go_ret
    exact ⟨rfl, b1⟩
  · go_wp2_with fail
    go_ret
    exact ⟨by simp [fst, hr1], b1⟩
set_option maxRecDepth 100000 in
set_option maxHeartbeats 4000000 in
theorem first_two (p : Value) (k1 k2 : Nat) (r1 r2 : Int) (n : Int) (b : Nat) (w : World) (hB : Blk w b 42 [.func (.func k1) #[p] #[], .func (.func k2) #[p] #[]])
    (e1 : ∀ w, (callFunc k1 #[p, .int .i64 n]).run Tryz.prog w = .ok (.enter k1 #[p, .int .i64 n]) w) (e2 : ∀ w, (callFunc k2 #[p, .int .i64 n]).run Tryz.prog w = .ok (.enter k2 #[p, .int .i64 n]) w)
    (h1 : ∀ W, Below w.heap.size w W → Calls Tryz.prog k1 #[p, .int .i64 n] W (Ans r1 W)) (h2 : ∀ W, r1 = 0 → Below w.heap.size w W → Calls Tryz.prog k2 #[p, .int .i64 n] W (Ans r2 W)) :
    Calls Tryz.prog 58 #[.int .i64 n, .slice (some ⟨b, 0, none⟩) 2 2] w (Ans (fst [r1, r2]) w) := by
  have c0 := hB.cell (j := 0) rfl
  have hlt := hB.lt
  have HB := W_hid hB
  have h1 := W_hid h1
  have h2 := W_hid h2
  clear hB
  go_enter Tryz.func58, Tryz.ntmps58
  go_wp2_with fail
  refine wp_loop_rounds 3 ?_
  rw [rounds_succ]
  go_wp2_with fail
  refine (h1.out w (Below.refl _ _)).mono ?_
  rintro e w1 ⟨rfl, b1⟩
  by_cases hr1 : r1 = 0
  · subst hr1
    have c1 := (HB.out.keep b1).cell (j := 1) rfl
    have B1 := W_hid b1
    clear b1
    go_wp2_with fail
    rw [rounds_succ]
    go_wp2_with fail
    refine (h2.out w1 (by simp) B1.out).mono ?_
    rintro e w2 ⟨rfl, b2⟩
    have b2 := B1.out.trans (b2.mono B1.out.size)
    by_cases hr2 : r2 = 0
    · subst hr2
      go_wp2_with fail
      rw [rounds_succ]
      go_wp2_with fail
      go_ret
      exact ⟨rfl, b2⟩
    · go_wp2_with fail
      go_ret
      exact ⟨by simp [fst, hr2], b2⟩
  · go_wp2_with fail
    go_ret
    exact ⟨by simp [fst, hr1], b1⟩
set_option maxRecDepth 100000 in
set_option maxHeartbeats 4000000 in
theorem first_three (p : Value) (k1 k2 k3 : Nat) (r1 r2 r3 : Int) (n : Int) (b : Nat) (w : World) (hB : Blk w b 42 [.func (.func k1) #[p] #[], .func (.func k2) #[p] #[], .func (.func k3) #[p] #[]])
    (e1 : ∀ w, (callFunc k1 #[p, .int .i64 n]).run Tryz.prog w = .ok (.enter k1 #[p, .int .i64 n]) w) (e2 : ∀ w, (callFunc k2 #[p, .int .i64 n]).run Tryz.prog w = .ok (.enter k2 #[p, .int .i64 n]) w) (e3 : ∀ w, (callFunc k3 #[p, .int .i64 n]).run Tryz.prog w = .ok (.enter k3 #[p, .int .i64 n]) w)
    (h1 : ∀ W, Below w.heap.size w W → Calls Tryz.prog k1 #[p, .int .i64 n] W (Ans r1 W)) (h2 : ∀ W, r1 = 0 → Below w.heap.size w W → Calls Tryz.prog k2 #[p, .int .i64 n] W (Ans r2 W)) (h3 : ∀ W, r1 = 0 → r2 = 0 → Below w.heap.size w W → Calls Tryz.prog k3 #[p, .int .i64 n] W (Ans r3 W)) :
    Calls Tryz.prog 58 #[.int .i64 n, .slice (some ⟨b, 0, none⟩) 3 3] w (Ans (fst [r1, r2, r3]) w) := by
  have c0 := hB.cell (j := 0) rfl
  have hlt := hB.lt
  have HB := W_hid hB
  have h1 := W_hid h1
  have h2 := W_hid h2
  have h3 := W_hid h3
  clear hB
  go_enter Tryz.func58, Tryz.ntmps58
  go_wp2_with fail
  refine wp_loop_rounds 4 ?_
  rw [rounds_succ]
  go_wp2_with fail
  refine (h1.out w (Below.refl _ _)).mono ?_
  rintro e w1 ⟨rfl, b1⟩
  by_cases hr1 : r1 = 0
  · subst hr1
    have c1 := (HB.out.keep b1).cell (j := 1) rfl
    have B1 := W_hid b1
    clear b1
    go_wp2_with fail
    rw [rounds_succ]
    go_wp2_with fail
    refine (h2.out w1 (by simp) B1.out).mono ?_
    rintro e w2 ⟨rfl, b2⟩
    have b2 := B1.out.trans (b2.mono B1.out.size)
    by_cases hr2 : r2 = 0
    · subst hr2
      have c2 := (HB.out.keep b2).cell (j := 2) rfl
      have B2 := W_hid b2
      clear b2
      go_wp2_with fail
      rw [rounds_succ]
      go_wp2_with fail
      refine (h3.out w2 (by simp) (by simp) B2.out).mono ?_
      rintro e w3 ⟨rfl, b3⟩
      have b3 := B2.out.trans (b3.mono B2.out.size)
      by_cases hr3 : r3 = 0
      · subst hr3
        go_wp2_with fail
        rw [rounds_succ]
        go_wp2_with fail
        go_ret
        exact ⟨rfl, b3⟩
      · go_wp2_with fail
        go_ret
        exact ⟨by simp [fst, hr3], b3⟩
    · go_wp2_with fail
      go_ret
      exact ⟨by simp [fst, hr2], b2⟩
  · go_wp2_with fail
    go_ret
    exact ⟨by simp [fst, hr1], b1⟩
set_option maxRecDepth 100000 in
set_option maxHeartbeats 4000000 in
theorem first_make (p : Value) (k1 k2 k3 : Nat) (r1 r2 r3 : Int) (n : Int) (b : Nat) (w : World) (hB : Blk w b 42 [.func (.func k1) #[p] #[], .func (.func k2) #[] #[], .func (.func k3) #[p] #[]])
    (e1 : ∀ w, (callFunc k1 #[p, .int .i64 n]).run Tryz.prog w = .ok (.enter k1 #[p, .int .i64 n]) w) (e2 : ∀ w, (callFunc k2 #[.int .i64 n]).run Tryz.prog w = .ok (.enter k2 #[.int .i64 n]) w) (e3 : ∀ w, (callFunc k3 #[p, .int .i64 n]).run Tryz.prog w = .ok (.enter k3 #[p, .int .i64 n]) w)
    (h1 : ∀ W, Below w.heap.size w W → Calls Tryz.prog k1 #[p, .int .i64 n] W (Ans r1 W)) (h2 : ∀ W, r1 = 0 → Below w.heap.size w W → Calls Tryz.prog k2 #[.int .i64 n] W (Ans r2 W)) (h3 : ∀ W, r1 = 0 → r2 = 0 → Below w.heap.size w W → Calls Tryz.prog k3 #[p, .int .i64 n] W (Ans r3 W)) :
    Calls Tryz.prog 58 #[.int .i64 n, .slice (some ⟨b, 0, none⟩) 3 3] w (Ans (fst [r1, r2, r3]) w) := by
  have c0 := hB.cell (j := 0) rfl
  have hlt := hB.lt
  have HB := W_hid hB
  have h1 := W_hid h1
  have h2 := W_hid h2
  have h3 := W_hid h3
  clear hB
  go_enter Tryz.func58, Tryz.ntmps58
  go_wp2_with fail
  refine wp_loop_rounds 4 ?_
  rw [rounds_succ]
  go_wp2_with fail
  refine (h1.out w (Below.refl _ _)).mono ?_
  rintro e w1 ⟨rfl, b1⟩
  by_cases hr1 : r1 = 0
  · subst hr1
    have c1 := (HB.out.keep b1).cell (j := 1) rfl
    have B1 := W_hid b1
    clear b1
    go_wp2_with fail
    rw [rounds_succ]
    go_wp2_with fail
    refine (h2.out w1 (by simp) B1.out).mono ?_
    rintro e w2 ⟨rfl, b2⟩
    have b2 := B1.out.trans (b2.mono B1.out.size)
    by_cases hr2 : r2 = 0
    · subst hr2
      have c2 := (HB.out.keep b2).cell (j := 2) rfl
      have B2 := W_hid b2
      clear b2
      go_wp2_with fail
      rw [rounds_succ]
      go_wp2_with fail
      refine (h3.out w2 (by simp) (by simp) B2.out).mono ?_
      rintro e w3 ⟨rfl, b3⟩
      have b3 := B2.out.trans (b3.mono B2.out.size)
      by_cases hr3 : r3 = 0
      · subst hr3
        go_wp2_with fail
        rw [rounds_succ]
        go_wp2_with fail
        go_ret
        exact ⟨rfl, b3⟩
      · go_wp2_with fail
        go_ret
        exact ⟨by simp [fst, hr3], b3⟩
    · go_wp2_with fail
      go_ret
      exact ⟨by simp [fst, hr2], b2⟩
  · go_wp2_with fail
    go_ret
    exact ⟨by simp [fst, hr1], b1⟩
def askR (S : Int → Option Nd) (n : Int) (r : Nd → Int) : Int := match S n with | none => 11 | some d => r d
section
variable {base sg mb : Nat} {M : Int → Option Nat} {I L left : Int} {S : Int → Option Nd}
theorem chk_blk (w : World) (l : List Value) (x : Nat) (hx : x = w.heap.size) : Blk (w.alloc (.cells l.toArray 42)) x 42 l := Blk.new w _ l hx
end
end IN
end Go.Proofs.YtfhidjkhmjdioaaGreat

namespace Go.Proofs.YtfhidjkhmjdioaaGreat
open Go.ChangeShapes Go.WideShapes Go.ChangeAt Go.RowKit
set_option linter.unusedVariables false
set_option linter.unusedSimpArgs false
def rdE (l : List (Int × ByteArray)) (s f n : Int) : Int := if EM.ok 0 l = true ∧ 0 ≤ s ∧ 0 ≤ f ∧ 0 ≤ n ∧ s ≤ 1048576 ∧ ends l ≤ s then 0 else 2
def rdV (l : List (Int × ByteArray)) (s f n : Int) : List UInt8 := if rdE l s f n = 0 then EM.rd l f (min n (s - f)).toNat else []
set_option maxRecDepth 100000 in
set_option maxHeartbeats 4000000 in
theorem Read_in (ao : Option Addr) (n cap : Nat) (l : List (Int × ByteArray)) (s f m : Int) (w : World) (h : XS w ao n cap l) (hf : XFit l) (hv : EM.ok 0 l = true) (h1 : 0 ≤ s) (h2 : 0 ≤ f) (h3 : 0 ≤ m) (h4 : s ≤ 1048576) (h5 : ends l ≤ s) (h6 : I64 f) (h7 : I64 m) :
    Calls Tryz.prog 127 #[.slice ao n cap, .int .i64 s, .int .i64 f, .int .i64 m] w fun e w' => e = .returned (.tuple #[.string (strOf (EM.rd l f (min m (s - f)).toNat)), .int .i64 0]) ∧ Below w.heap.size w w' := by
  obtain ⟨i0, hi0, hz0, hz1, hz2⟩ := info_parts info_byte
  obtain ⟨-, f2⟩ := h6
  obtain ⟨-, m2⟩ := h7
  have hval := xvalid_any ao n cap l w h hf
  rw [hv] at hval
  have hval := W_hid hval
  have hen : Hid (∀ w, XS w ao n cap l → Calls Tryz.prog 166 #[.slice ao n cap, .int .i64 s] w fun e w' => e = .returned (.bool true) ∧ Below w.heap.size w w') := by
    intro w h
    have := endsBy_any ao n cap l s w h hv ⟨h1, h4⟩
    rwa [decide_eq_true h5] at this
  have H := W_hid h
  obtain ⟨A, hA⟩ : ∃ A, (if s < f then s else f) = A := ⟨_, rfl⟩
  have HA : Hid (A = min f s) := by show _ = _; rw [← hA]; split <;> omega
  obtain ⟨M, hM⟩ : ∃ M : Nat, (if s - A < m then s - A else m) = (M : Int) := ⟨(min m (s - A)).toNat, by have := HA.out; split <;> omega⟩
  have HM : Hid ((M : Int) = min m (s - A)) := by show _ = _; rw [← hM]; split <;> omega
  have hA1 : 0 ≤ A ∧ A ≤ 1048576 ∧ A ≤ s := by have := HA.out; omega
  obtain ⟨hA1, hA2, hA3⟩ := hA1
  have hM1 : A + M ≤ 1048576 := by have := HM.out; omega
  have hpt := W_hid (fun w h => part_any ao n cap l A (A + M) w h hv (by unfold I64; omega) (by unfold I64; omega))
  have hwk := W_hid (EM.wk_part hv A (A + M))
  have hans : Hid (EM.rd (EM.part A (A + M) l) A M = EM.rd l f (min m (s - f)).toNat) := by
    show _ = _
    rw [EM.rd_part]
    have e1 := HA.out
    have e2 := HM.out
    by_cases hfs : f ≤ s
    · have : A = f := by omega
      rw [this] at e2 ⊢
      have : M = (min m (s - f)).toNat := by omega
      rw [this]
    · have m0 : M = 0 := by omega
      have m1 : (min m (s - f)).toNat = 0 := by omega
      rw [m0, m1]; rfl
  have q1 : A + (M : Int) - A = M := by omega
  have d1 : decide (s < 0) = false := by simp; omega
  have d2 : decide (f < 0) = false := by simp; omega
  have d3 : decide (m < 0) = false := by simp; omega
  have d4 : decide (1048576 < s) = false := by simp; omega
  clear hv h h5
  go_enter Tryz.func127, Tryz.ntmps127
  go_wp2_with fail
  refine hval.out.mono ?_
  rintro e w1 ⟨rfl, bel1⟩
  go_wp2_with fail
  refine (hen.out _ (H.out.below bel1 (Nat.le_refl _))).mono ?_
  rintro e w2 ⟨rfl, bel2⟩
  replace bel2 := below_tr bel1 bel2
  clear hval hen bel1 d1 d2 d3 d4
  go_wp2_with (at_make; apply Hid.out)
  refine W_hid ?_
  refine wpList_make_full _ rfl _ _ 220 rfl w.heap.size 5 i0 (.int .u8 0) 1 Tryz.underlying220 hi0 hz0 hz1 .i64 .i64 _ _ M rfl rfl (by first | rfl | exact q1) (by first | rfl | exact q1) (by rw [hz2]; omega) (by unfold maxLen; omega) bel2.size ?_
  intro w3 hown hgrow
  obtain ⟨g, hg⟩ : ∃ g, g = w2.heap.size := ⟨_, rfl⟩
  rw [← hg] at hown ⊢
  have hbr := BR.made M hown
  have bel3 := bel2.grown hgrow bel2.size (fun k hk => by cases hk)
  have hgw : w.heap.size ≤ g := by rw [hg]; exact bel2.size
  clear hown hgrow hg bel2
  go_wp2_with fail
  refine (hpt.out _ (H.out.below bel3 (Nat.le_refl _))).mono ?_
  rintro e w4 ⟨v, rfl, hown, bel4⟩
  replace hown := Own.low (base' := g + 1) hbr.lt hown
  replace hbr := hbr.below bel4 hbr.lt
  replace bel4 := below_tr bel3 bel4
  obtain ⟨P, hP⟩ : ∃ P, EM.part A (A + M) l = P := ⟨_, rfl⟩
  rw [hP] at hown hwk hans
  have hN : P.length ≤ 1048576 := by
    have := EM.wk_cnt hwk.out.1 (by omega)
    omega
  obtain ⟨N, hN2⟩ : ∃ N, P.length = N := ⟨_, rfl⟩
  rw [hN2] at hown hN
  have L := W_hid hN2
  obtain ⟨ox, cx, rfl⟩ := Own.form hown
  have hst : BR w4 g (EM.rd (P.take 0) A M) := by rw [List.take_zero, EM.rd_nil]; exact hbr
  clear hpt H hP hN2 bel3 hA hM hbr
  go_wp2_with fail
  go_loopw [58] (fun i wr => ∃ (k : Nat), k ≤ N ∧ i = .int .i64 k ∧ Hid (BR wr g (EM.rd (P.take k) A M)) ∧ wr.ownsRow (g + 1) 216 2 (.slice ox N cx) N (ecl P) ∧ Below w.heap.size w wr) (fun i _ => N - (intOf i).toNat)
  case atStart => exact ⟨0, Nat.zero_le _, rfl, hst, hown, bel4⟩
  case round =>
    clear hst hown bel4
    obtain ⟨k, hk, rfl, hbr, hown, bel⟩ := hrel
    by_cases hlt : k < N
    · obtain ⟨b1, o1, rfl, g1⟩ := (XS_own hown).at_ (by omega)
      have k1 : k < P.length := by rw [L.out]; exact hlt
      obtain ⟨e1, e2⟩ := g1 k hlt
      have hw := EM.wk_at hwk.out.1 k k1
      have hfin := hwk.out.2 P[k] (List.getElem_mem k1)
      have hnx : Hid (P.take (k + 1) = P.take k ++ [P[k]]) := EM.take_snoc P k k1
      obtain ⟨⟨a, d⟩, hx⟩ : ∃ x, P[k] = x := ⟨_, rfl⟩
      simp only [hx, EM.fin] at e1 e2 hw hfin hnx
      obtain ⟨hd, ha, had, hnone⟩ := hw
      have hnone := W_hid hnone
      have hrd := W_hid (@EM.rd_lay (P.take k) (a, d) A M)
      obtain ⟨off, hoff⟩ : ∃ off : Nat, a = A + off := ⟨(a - A).toNat, by omega⟩
      subst hoff
      have q2 : A + (off : Int) - A = off := by omega
      have q3 : (A + (off : Int) - A).toNat = off := by omega
      have hin : off + d.size ≤ M := by omega
      have q4 : IntKind.i64.wrap (A + (off : Int) - A) = (off : Int) := by rw [IntKind.wrap_i64]; omega
      have q5 : IntKind.i64.wrap (off : Int) = (off : Int) := by rw [IntKind.wrap_i64]; omega
      have q6 : (0 : Int) ≤ (off : Int) := by omega
      have q7 : (off : Int) ≤ (M : Int) := by omega
      have hlen : Hid ((EM.rd (P.take k) A M).length = M) := EM.rd_length _ _ _
      have hw1 := XB.new wr (A + off) d rfl
      have u0 := hw1.c0
      have u1 := hw1.c1
      have hne : ¬ M = off := by omega
      have hgr := hbr.out.lt
      have hgne : some wr.heap.size ≠ some g := by intro h; have := Option.some.inj h; omega
      have bel3 := below_al bel (.cells #[.int .i64 (A + off), .string d] 216)
      have hbr3 := W_hid (hbr.out.alloc (.cells #[.int .i64 (A + off), .string d] 216))
      have hown3 := hown.alloc (.cells #[.int .i64 (A + off), .string d] 216)
      go_wp2_with fail
      clear hw1 e1 e2 bel hx g1
      go_region_held3 (fun w' => w'.cell? ⟨wr.heap.size, 0, none⟩ = some (.int .i64 (A + off)) ∧ w'.cell? ⟨wr.heap.size, 1, none⟩ = some (.string d)) (first | go_keep | skip)
        ((refine step_copy_bs rfl (.tmp 67) (.tmp 69) 220 9 rfl 5 Tryz.underlying220 byte_one g off (M - off) (M - off) d _ 5 (by rfl) (by rfl) hbr3.out (by omega) (by rw [hlen.out]; omega) ?_; intro w3 hbr4 hgrow; have k0 := Own.cellg (Own.undrew hgrow) u0 hgne; have k1 := Own.cellg (Own.undrew hgrow) u1 hgne))
      have hbr5 : Hid (BR w3 g (EM.rd (P.take (k + 1)) A M)) := by
        have := hrd.out (by omega) (by simp only [EM.fin]; omega) hnone.out
        simp only [q3] at this
        rw [List.append_assoc] at this
        show BR _ _ _
        rw [hnx.out, this]
        exact hbr4
      have bel5 := bel3.grown (Own.undrew hgrow) bel3.size (fun k h => by have := Option.some.inj h; omega)
      have hown5 := hown3.kept (Own.undrew hgrow) (.inr (fun h => by have := Own.ge hown3 g h; omega))
      clear hbr hbr3 hbr4 hgrow bel3 u0 u1 k0 k1 hnx hrd hnone hown3
      go_wp2_with fail
      go_roundw
      case rel => exact ⟨k + 1, by omega, by go_num, hbr5, hown5, bel5⟩
      case measure => simp [intOf]; omega
    · obtain rfl : k = N := by omega
      have hbr5 : BR wr g (EM.rd P A M) := by
        have := hbr.out
        rwa [List.take_of_length_le (by rw [L.out]; exact Nat.le_refl _)] at this
      have hrd := hbr5.reads (by rw [EM.rd_length]; unfold maxLen; omega)
      rw [EM.rd_length] at hrd
      have hcv := run_conv (P := Tryz.prog) 220 5 Tryz.underlying220 Tryz.underlying5 9 Tryz.underlying9 hrd
      rw [hans.out] at hcv
      clear hbr hbr5 hrd hown
      go_wp2_with fail
      go_ret2
      exact ⟨rfl, bel⟩
theorem rd_no {l : List (Int × ByteArray)} {s f n : Int} (h : ¬ (EM.ok 0 l = true ∧ 0 ≤ s ∧ 0 ≤ f ∧ 0 ≤ n ∧ s ≤ 1048576 ∧ ends l ≤ s)) : rdV l s f n = [] ∧ rdE l s f n = 2 := by
  have he : rdE l s f n = 2 := if_neg h
  unfold rdV
  rw [he]
  exact ⟨rfl, rfl⟩
set_option maxRecDepth 100000 in
set_option maxHeartbeats 2000000 in
theorem Read_any (ao : Option Addr) (n cap : Nat) (l : List (Int × ByteArray)) (s f m : Int) (w : World) (h : XS w ao n cap l) (hf : XFit l) (hs : I64 s) (hff : I64 f) (hm : I64 m) :
    Calls Tryz.prog 127 #[.slice ao n cap, .int .i64 s, .int .i64 f, .int .i64 m] w fun e w' => e = .returned (.tuple #[.string (strOf (rdV l s f m)), .int .i64 (rdE l s f m)]) ∧ Below w.heap.size w w' := by
  have hval := xvalid_any ao n cap l w h hf
  cases hv : EM.ok 0 l with
  | false =>
    have HE := W_hid (@rd_no l s f m (by rw [hv]; simp))
    rw [hv] at hval
    have hval := W_hid hval
    clear hv h
    go_enter Tryz.func127, Tryz.ntmps127
    go_wp2_with fail
    refine hval.out.mono ?_
    rintro e w1 ⟨rfl, bel1⟩
    go_wp2_with fail
    go_ret2
    exact ⟨by rw [HE.out.1, HE.out.2]; rfl, bel1⟩
  | true =>
  by_cases hbad : s < 0 ∨ f < 0 ∨ m < 0 ∨ 1048576 < s
  · have HE := W_hid (@rd_no l s f m (by omega))
    rw [hv] at hval
    have hval := W_hid hval
    clear hv h
    by_cases c1 : s < 0
    · clear hbad
      go_enter Tryz.func127, Tryz.ntmps127
      go_wp2_with fail
      refine hval.out.mono ?_
      rintro e w1 ⟨rfl, bel1⟩
      go_wp2_with fail
      go_ret2
      exact ⟨by rw [HE.out.1, HE.out.2]; rfl, bel1⟩
    by_cases c2 : f < 0
    · clear hbad
      go_enter Tryz.func127, Tryz.ntmps127
      go_wp2_with fail
      refine hval.out.mono ?_
      rintro e w1 ⟨rfl, bel1⟩
      go_wp2_with fail
      go_ret2
      exact ⟨by rw [HE.out.1, HE.out.2]; rfl, bel1⟩
    by_cases c3 : m < 0
    · clear hbad
      go_enter Tryz.func127, Tryz.ntmps127
      go_wp2_with fail
      refine hval.out.mono ?_
      rintro e w1 ⟨rfl, bel1⟩
      go_wp2_with fail
      go_ret2
      exact ⟨by rw [HE.out.1, HE.out.2]; rfl, bel1⟩
    · have c4 : 1048576 < s := by omega
      clear hbad
      go_enter Tryz.func127, Tryz.ntmps127
      go_wp2_with fail
      refine hval.out.mono ?_
      rintro e w1 ⟨rfl, bel1⟩
      go_wp2_with fail
      go_ret2
      exact ⟨by rw [HE.out.1, HE.out.2]; rfl, bel1⟩
  · by_cases he : ends l ≤ s
    · have hh : rdE l s f m = 0 := if_pos ⟨hv, by omega, by omega, by omega, by omega, he⟩
      have hV : rdV l s f m = EM.rd l f (min m (s - f)).toNat := if_pos hh
      rw [hh, hV]
      exact Read_in ao n cap l s f m w h hf hv (by omega) (by omega) (by omega) (by omega) he hff hm
    · have HE := W_hid (@rd_no l s f m (fun h => he h.2.2.2.2.2))
      have hen : Hid (∀ w, XS w ao n cap l → Calls Tryz.prog 166 #[.slice ao n cap, .int .i64 s] w fun e w' => e = .returned (.bool false) ∧ Below w.heap.size w w') := by
        intro w h
        have := endsBy_any ao n cap l s w h hv (by omega)
        rwa [decide_eq_false he] at this
      have H := W_hid h
      rw [hv] at hval
      have hval := W_hid hval
      have d1 : decide (s < 0) = false := by simp; omega
      have d2 : decide (f < 0) = false := by simp; omega
      have d3 : decide (m < 0) = false := by simp; omega
      have d4 : decide (1048576 < s) = false := by simp; omega
      clear hv h hbad he
      go_enter Tryz.func127, Tryz.ntmps127
      go_wp2_with fail
      refine hval.out.mono ?_
      rintro e w1 ⟨rfl, bel1⟩
      go_wp2_with fail
      refine (hen.out _ (H.out.below bel1 (Nat.le_refl _))).mono ?_
      rintro e w2 ⟨rfl, bel2⟩
      go_wp2_with fail
      go_ret2
      exact ⟨by rw [HE.out.1, HE.out.2]; rfl, below_tr bel1 bel2⟩
end Go.Proofs.YtfhidjkhmjdioaaGreat

namespace Go.Proofs.YtfhidjkhmjdioaaGreat
open Go.ChangeShapes Go.WideShapes Go.ChangeAt Go.RowKit Go.Maps
set_option linter.unusedVariables false
set_option linter.unusedSimpArgs false
namespace IN
structure PS (base : Nat) (w : World) (sg mb : Nat) (M : Int → Option Nat) (I L B k : Nat) (S : Int → Option Nd) : Prop where
  pm : PM base w sg mb M (I : Int) (L : Int) ((B : Int) - (tot S I : Int)) S
  fn : Fine I L B k S
  lim : I ≤ 4096 ∧ L ≤ 32768 ∧ B ≤ 16777216
def Out (base sg mb I L B k : Nat) (w : World) (r : Int) (S : Int → Option Nd) (e : Ending) (w' : World) : Prop :=
  e = .returned (.int .i64 r) ∧ (∃ M, PS base w' sg mb M I L B k S) ∧ Keeps base (PT mb) w w'
section
variable {base sg mb I L B k : Nat} {M : Int → Option Nat} {S : Int → Option Nd} {w w' : World}
theorem PS.keep (h : PS base w sg mb M I L B k S) (hb : Below w.heap.size w w') : PS base w' sg mb M I L B k S := ⟨h.pm.keep hb, h.fn, h.lim⟩
theorem PS.more (h : PS base w sg mb M I L B k S) {k' : Nat} (hk : k ≤ k') : PS base w sg mb M I L B k' S := ⟨h.pm, h.fn.mono hk, h.lim⟩
theorem PS.keeps (h : PS base w sg mb M I L B k S) {C : Nat} {T : Nat → Obj → Prop} (hK : Keeps C T w w') (h1 : ∀ k c s, ¬ T k (.cells c 86 s)) (h2 : ∀ k c s, ¬ T k (.cells c 155 s)) (h3 : ∀ es c, ¬ T mb (.map es c)) (h4 : ∀ k c, ¬ T k (.cells c 216 (0, 0))) : PS base w' sg mb M I L B k S := ⟨h.pm.keeps hK h1 h2 h3 h4, h.fn, h.lim⟩
theorem PS.low (h : PS base w sg mb M I L B k S) : base ≤ w.heap.size := Nat.le_trans h.pm.ge.1 (Nat.le_of_lt h.pm.box.lt)
theorem Out.same (h : PS base w sg mb M I L B k S) {k' : Nat} (hk : k ≤ k') (hb : Below w.heap.size w w') (r : Int) : Out base sg mb I L B k' w r S (.returned (.int .i64 r)) w' :=
  ⟨rfl, ⟨M, (h.keep hb).more hk⟩, Keeps.new hb h.low⟩
theorem PS.nums (h : PS base w sg mb M I L B k S) : IS.Nums M (ks S I) := ks_nums h.fn.num h.pm.dom
set_option maxRecDepth 100000 in
theorem ask_three (k3 : Nat) (r3 : Nd → Int) (n : Int) {I L left : Int} (h : PM base w sg mb M I L left S) (hn : IS.I64 n) (e3 : ∀ w, (callFunc k3 #[.pointer (some ⟨sg, 0, none⟩), .int .i64 n]).run Tryz.prog w = .ok (.enter k3 #[.pointer (some ⟨sg, 0, none⟩), .int .i64 n]) w)
    (h3 : ∀ d, S n = some d → ∀ W, Below w.heap.size w W → Calls Tryz.prog k3 #[.pointer (some ⟨sg, 0, none⟩), .int .i64 n] W (Ans (r3 d) W)) :
    Calls Tryz.prog 58 #[.int .i64 n, .slice (some ⟨w.heap.size, 0, none⟩) 3 3] (w.alloc (.cells #[.func (.func 59) #[.pointer (some ⟨sg, 0, none⟩)] #[], .func (.func 84) #[.pointer (some ⟨sg, 0, none⟩)] #[], .func (.func k3) #[.pointer (some ⟨sg, 0, none⟩)] #[]] 42)) fun e w' => e = .returned (.int .i64 (askR S n r3)) ∧ Below w.heap.size w w' := by
  have hal := (Below.refl w.heap.size w).alloc (Nat.le_refl _) (.cells #[.func (.func 59) #[.pointer (some ⟨sg, 0, none⟩)] #[], .func (.func 84) #[.pointer (some ⟨sg, 0, none⟩)] #[], .func (.func k3) #[.pointer (some ⟨sg, 0, none⟩)] #[]] 42)
  have hb : ∀ W, Below _ _ W → Below w.heap.size w W := fun W hW => hal.trans (hW.mono hal.size)
  refine (first_three (.pointer (some ⟨sg, 0, none⟩)) _ _ k3 0 (if (S n).isSome = true then 0 else 11) (match S n with | none => 0 | some d => r3 d) n w.heap.size _ (chk_blk w [.func (.func 59) #[.pointer (some ⟨sg, 0, none⟩)] #[], .func (.func 84) #[.pointer (some ⟨sg, 0, none⟩)] #[], .func (.func k3) #[.pointer (some ⟨sg, 0, none⟩)] #[]] _ rfl)
    (fun w => by kernel_rfl) (fun w => by kernel_rfl) e3 (fun W hW => made_some _ W (h.keep (hb W hW))) (fun W _ hW => has_any n W (h.keep (hb W hW)) hn) (fun W _ h2 hW => ?_)).mono ?_
  · cases hS : S n with
    | none => rw [hS] at h2; simp at h2
    | some d => exact h3 d hS W (hb W hW)
  · rintro e w' ⟨rfl, hb'⟩
    refine ⟨?_, hb w' hb'⟩
    cases hS : S n with
    | none => simp [askR, hS, fst]
    | some d =>
      simp only [askR, hS, fst, Option.isSome_some, if_true]
      split <;> simp_all
set_option maxRecDepth 100000 in
theorem ask_two (n : Int) {I L left : Int} (h : PM base w sg mb M I L left S) (hn : IS.I64 n) :
    Calls Tryz.prog 58 #[.int .i64 n, .slice (some ⟨w.heap.size, 0, none⟩) 2 2] (w.alloc (.cells #[.func (.func 59) #[.pointer (some ⟨sg, 0, none⟩)] #[], .func (.func 84) #[.pointer (some ⟨sg, 0, none⟩)] #[]] 42)) fun e w' => e = .returned (.int .i64 (askR S n fun _ => 0)) ∧ Below w.heap.size w w' := by
  have hal := (Below.refl w.heap.size w).alloc (Nat.le_refl _) (.cells #[.func (.func 59) #[.pointer (some ⟨sg, 0, none⟩)] #[], .func (.func 84) #[.pointer (some ⟨sg, 0, none⟩)] #[]] 42)
  have hb : ∀ W, Below _ _ W → Below w.heap.size w W := fun W hW => hal.trans (hW.mono hal.size)
  refine (first_two (.pointer (some ⟨sg, 0, none⟩)) _ _ 0 (if (S n).isSome = true then 0 else 11) n w.heap.size _ (chk_blk w [.func (.func 59) #[.pointer (some ⟨sg, 0, none⟩)] #[], .func (.func 84) #[.pointer (some ⟨sg, 0, none⟩)] #[]] _ rfl)
    (fun w => by kernel_rfl) (fun w => by kernel_rfl) (fun W hW => made_some _ W (h.keep (hb W hW))) (fun W _ hW => has_any n W (h.keep (hb W hW)) hn)).mono ?_
  rintro e w' ⟨rfl, hb'⟩
  refine ⟨?_, hb w' hb'⟩
  cases hS : S n with
  | none => simp [askR, hS, fst]
  | some d => simp [askR, hS, fst]
/-! What the calls answer, and make of the inodes. -/
def lkR (L : Int) (S : Int → Option Nd) (n : Int) : Int := askR S n fun d => if d.links < L then 0 else 18
def lkS (L : Int) (S : Int → Option Nd) (n : Int) : Int → Option Nd := match S n with
  | none => S
  | some d => if d.links < L then upd S n (some { d with links := d.links + 1 }) else S
def gone (S : Int → Option Nd) (n : Int) : Int → Option Nd := match S n with
  | none => S
  | some d => if d.links = 0 ∧ d.opens = 0 then upd S n none else S
def ulR (S : Int → Option Nd) (n : Int) : Int := askR S n fun d => if 0 < d.links then 0 else 2
def ulS (S : Int → Option Nd) (n : Int) : Int → Option Nd := match S n with
  | none => S
  | some d => if 0 < d.links then gone (upd S n (some { d with links := d.links - 1 })) n else S
def opR (S : Int → Option Nd) (n : Int) : Int := askR S n fun _ => 0
def opS (S : Int → Option Nd) (n : Int) : Int → Option Nd := match S n with
  | none => S
  | some d => upd S n (some { d with opens := d.opens + 1 })
def clR (S : Int → Option Nd) (n : Int) : Int := askR S n fun d => if 0 < d.opens then 0 else 2
def clS (S : Int → Option Nd) (n : Int) : Int → Option Nd := match S n with
  | none => S
  | some d => if 0 < d.opens then gone (upd S n (some { d with opens := d.opens - 1 })) n else S
theorem tot_same {n : Int} {d d' : Nd} (hS : S n = some d) (hf : Fine I L B k S) (hl : d'.l = d.l) : tot (upd S n (some d')) I = tot S I := by
  have hb := hf.num n (by rw [hS]; simp)
  obtain ⟨m, rfl⟩ : ∃ m : Nat, n = m := ⟨n.toNat, by omega⟩
  have := tot_upd S m I (some d') (by omega) (by omega)
  rw [hS] at this
  simp only [cntOf, hl] at this
  omega
theorem Fine.set {n : Int} {d d' : Nd} (hf : Fine I L B k S) (hS : S n = some d) {k' : Nat} (hk : k ≤ k') (hl : EM.cnt d'.l = EM.cnt d.l) (hg : Good L k' d') : Fine I L B k' (upd S n (some d')) := by
  have hb := hf.num n (by rw [hS]; simp)
  obtain ⟨m, rfl⟩ : ∃ m : Nat, n = m := ⟨n.toNat, by omega⟩
  refine (hf.mono hk).turn (by omega) (by omega) (fun x hx => by cases hx; exact hg) ?_
  rw [hS]
  simp only [cntOf, hl]
  have := hf.tot
  omega
end
end IN
end Go.Proofs.YtfhidjkhmjdioaaGreat

/- Contract of Read, the program's, for all lists, sizes, places, numbers. -/
import Derived.Test.YtmnmheocmcmpmaaGreatRows
import Derived.WalkKit
import Derived.ProofKit
import Derived.KernelRfl
import Derived.Laws.AppendOwn
import Derived.WalkSmall
import Derived.OpenShut
import Derived.Laws.OwnMore
import Derived.Deep.OwnRows
import Derived.Maps.OwnSet
import Derived.Maps.RangeWalk
import Derived.Carry
import Derived.StringKeys
import Derived.Sort.MapsRangeIn
import Derived.Outline
import Derived.WalkLawsBesides
import Derived.Deep.QuietTactic
import Derived.BigQuiet
import Derived.IntWalk
import Derived.Deep.RegionWith
import Derived.Laws.BitsAllLaws
import Derived.Laws.BytesArg
import Derived.Laws.CopyOwn
import Derived.Laws.AppendOwnNone
import Derived.Lib.AppendStr
import Derived.Deep.RegionLaw
import Derived.RegionTactic
import Derived.Deep.DeepAppendWide
import Derived.Maps.AppendAt
import Derived.Deep.RegionHeld3
import Derived.Lib.BufferWrite

namespace Go.Proofs.YtmnmheocmcmpmaaGreat
set_option linter.unusedVariables false
set_option linter.unusedSimpArgs false
namespace PM
def str (l : List UInt8) : ByteArray := ⟨l.toArray⟩
theorem str_list (l : List UInt8) : (str l).data.toList = l := by simp [str]
theorem str_of (s : ByteArray) : str s.data.toList = s := by simp [str]
theorem str_size (l : List UInt8) : (str l).size = l.length := by simp [str, ByteArray.size]
theorem list_size (s : ByteArray) : s.data.toList.length = s.size := Array.length_toList
def has (s : ByteArray) (v : Nat) : Bool := s.data.toList.any fun c => c.toNat == v
def comp (s : ByteArray) : Bool := decide (1 ≤ s.size) && decide (s.size ≤ 32) && !has s 47 && !has s 0
def dot : ByteArray := ⟨#[46]⟩
def dots : ByteArray := ⟨#[46, 46]⟩
def name (s : ByteArray) : Bool := comp s && decide (s ≠ dot) && decide (s ≠ dots)
def tot (l : List ByteArray) : Nat := (l.map fun s => s.size + 1).sum
def plen (a : Bool) (l : List ByteArray) (d : Bool) : Nat := (tot l - 1) + (if a then 1 else 0) + (if d && decide (0 < l.length) then 1 else 0)
def valid (a : Bool) (l : List ByteArray) (d : Bool) : Bool := if l = [] then a && d else l.all comp && decide (plen a l d ≤ 256)
def behind : List ByteArray → List UInt8
  | [] => []
  | x :: r => 47 :: (x.data.toList ++ behind r)
def body : List ByteArray → List UInt8
  | [] => []
  | x :: r => x.data.toList ++ behind r
def text (a : Bool) (l : List ByteArray) (d : Bool) : List UInt8 := (if a then [47] else []) ++ body l ++ (if d && decide (0 < l.length) then [47] else [])
def emit (cur : List UInt8) (acc : List ByteArray) : List ByteArray := if cur = [] then acc else acc ++ [str cur]
def split : List UInt8 → List ByteArray → List UInt8 → Option (List ByteArray)
  | cur, acc, [] => if 32 < cur.length then none else some (emit cur acc)
  | cur, acc, c :: r => if c.toNat = 47 then (if 32 < cur.length then none else split [] (emit cur acc) r) else split (cur ++ [c]) acc r
def names (s : ByteArray) : List ByteArray := (split [] [] s.data.toList).getD []
def perr (s : ByteArray) : Int := if s.size = 0 then 11 else if 256 < s.size then 17 else if has s 0 then 2 else if (split [] [] s.data.toList).isNone then 17 else 0
def first (s : ByteArray) : Bool := s.data.toList.head?.any fun c => c.toNat == 47
def last (s : ByteArray) : Bool := s.data.toList.getLast?.any fun c => c.toNat == 47
def pA (s : ByteArray) : Bool := if perr s = 0 then first s else false
def pD (s : ByteArray) : Bool := if perr s = 0 then last s else false
def pN (s : ByteArray) : List ByteArray := if perr s = 0 then names s else []
def step (a : Bool) (out : List ByteArray) (x : ByteArray) : List ByteArray :=
  if x = dot then out
  else if x = dots ∧ out ≠ [] ∧ out.getLast? ≠ some dots then out.dropLast
  else if x = dots ∧ out = [] ∧ a = true then out
  else out ++ [x]
def fold (a : Bool) (l : List ByteArray) : List ByteArray := l.foldl (step a) []
def normL (a : Bool) (l : List ByteArray) : List ByteArray := if fold a l = [] ∧ a = false then [dot] else fold a l
def normD (a : Bool) (l : List ByteArray) (d : Bool) : Bool := d || (decide (fold a l = []) && a)
/-! Totals. -/
theorem tot_nil : tot [] = 0 := rfl
theorem tot_cons (x : ByteArray) (l : List ByteArray) : tot (x :: l) = x.size + 1 + tot l := by simp [tot]
theorem tot_append (a b : List ByteArray) : tot (a ++ b) = tot a + tot b := by simp [tot]
theorem tot_snoc (a : List ByteArray) (x : ByteArray) : tot (a ++ [x]) = tot a + (x.size + 1) := by rw [tot_append]; simp [tot]
theorem tot_pos (l : List ByteArray) (h : l ≠ []) : 1 ≤ tot l := by
  cases l with
  | nil => exact absurd rfl h
  | cons x r => rw [tot_cons]; omega
theorem tot_len (l : List ByteArray) : l.length ≤ tot l := by
  induction l with
  | nil => simp [tot]
  | cons x r ih => rw [tot_cons, List.length_cons]; omega
/-! Components. -/
theorem comp_iff (s : ByteArray) : comp s = true ↔ (1 ≤ s.size ∧ s.size ≤ 32) ∧ (∀ c ∈ s.data.toList, c.toNat ≠ 47) ∧ ∀ c ∈ s.data.toList, c.toNat ≠ 0 := by
  simp only [comp, has, Bool.and_eq_true, decide_eq_true_eq, Bool.not_eq_true', List.any_eq_false, beq_iff_eq]
  constructor
  · rintro ⟨⟨h1, h2⟩, h3⟩; exact ⟨h1, h2, h3⟩
  · rintro ⟨h1, h2, h3⟩; exact ⟨⟨h1, h2⟩, h3⟩
theorem dot_ne : dot ≠ dots := by decide
/-! The parts of a text. -/
theorem emit_nil (acc : List ByteArray) : emit [] acc = acc := by simp [emit]
theorem emit_tot (cur : List UInt8) (acc : List ByteArray) : tot (emit cur acc) = tot acc + (if cur = [] then 0 else cur.length + 1) := by
  unfold emit
  by_cases h : cur = []
  · simp [h]
  · rw [if_neg h, if_neg h, tot_snoc, str_size]
def fresh (l : List UInt8) : Bool := l.getLast?.all fun c => c.toNat == 47
theorem fresh_mid (a : List UInt8) (c : UInt8) (r : List UInt8) (h : r ≠ []) : fresh (a ++ c :: r) = fresh r := by
  unfold fresh
  rw [List.getLast?_append]
  obtain ⟨y, r', rfl⟩ := List.exists_cons_of_ne_nil h
  rw [List.getLast?_cons_cons]
  cases h2 : (y :: r').getLast? with
  | none => simp at h2
  | some z => simp
theorem split_tot : ∀ (r cur : List UInt8) (acc l : List ByteArray), (∀ c ∈ cur, c.toNat ≠ 47) → split cur acc r = some l → tot l ≤ tot acc + (cur ++ r).length + (if fresh (cur ++ r) then 0 else 1)
  | [], cur, acc, l, hc, h => by
    simp only [split] at h
    split at h
    · cases h
    · obtain rfl := Option.some.inj h
      rw [emit_tot, List.append_nil]
      by_cases h0 : cur = []
      · simp [h0]
      · rw [if_neg h0]
        have hf : fresh cur = false := by
          unfold fresh
          rw [List.getLast?_eq_some_getLast h0]
          simp only [Option.all_some, beq_eq_false_iff_ne, ne_eq]
          exact hc _ (List.getLast_mem h0)
        rw [hf]; simp; omega
  | c :: r, cur, acc, l, hc, h => by
    simp only [split] at h
    split at h
    · rename_i h47
      split at h
      · cases h
      · have ih := split_tot r [] (emit cur acc) l (by simp) h
        rw [emit_tot] at ih
        simp only [List.nil_append] at ih
        have hf : (if fresh r then 0 else 1) ≤ (if fresh (cur ++ c :: r) then 0 else 1) := by
          by_cases hr : r = []
          · subst hr; simp [fresh]
          · rw [fresh_mid _ _ _ hr]; exact Nat.le_refl _
        simp only [List.length_append, List.length_cons]
        split at ih <;> omega
    · rename_i h47
      have ih := split_tot r (cur ++ [c]) acc l (by
        intro x hx
        rcases List.mem_append.1 hx with h1 | h1
        · exact hc x h1
        · simp at h1; subst h1; exact h47) h
      simpa using ih
theorem split_pre : ∀ (r cur : List UInt8) (acc l : List ByteArray), split cur acc r = some l → ∃ m, l = acc ++ m ∧ (cur ≠ [] → m ≠ [])
  | [], cur, acc, l, h => by
    simp only [split] at h
    split at h
    · cases h
    · obtain rfl := Option.some.inj h
      unfold emit
      split
      · rename_i h0; exact ⟨[], by simp, fun h => absurd h0 h⟩
      · exact ⟨[str cur], rfl, fun _ => by simp⟩
  | c :: r, cur, acc, l, h => by
    simp only [split] at h
    split at h
    · split at h
      · cases h
      · obtain ⟨m, rfl, -⟩ := split_pre r [] (emit cur acc) l h
        unfold emit
        split
        · rename_i h0; exact ⟨m, rfl, fun h => absurd h0 h⟩
        · exact ⟨str cur :: m, by simp, fun _ => by simp⟩
    · obtain ⟨m, rfl, hm⟩ := split_pre r (cur ++ [c]) acc l h
      exact ⟨m, rfl, fun _ => hm (by simp)⟩
theorem split_empty : ∀ (r : List UInt8), split [] [] r = some [] → ∀ c ∈ r, c.toNat = 47
  | [], _, c, hc => by simp at hc
  | c :: r, h, x, hx => by
    simp only [split, emit_nil] at h
    split at h
    · rename_i h47
      rw [if_neg (by simp)] at h
      rcases List.mem_cons.1 hx with rfl | hx
      · exact h47
      · exact split_empty r h x hx
    · obtain ⟨m, hm, hne⟩ := split_pre r _ [] [] h
      have : m = [] := by simpa using hm.symm
      exact absurd this (hne (by simp))
theorem split_comp : ∀ (r cur : List UInt8) (acc l : List ByteArray), (∀ c ∈ cur, c.toNat ≠ 47) → (∀ c ∈ cur ++ r, c.toNat ≠ 0) → (∀ x ∈ acc, comp x = true) → split cur acc r = some l → ∀ x ∈ l, comp x = true := by
  have hem : ∀ (cur : List UInt8) (acc : List ByteArray), ¬ 32 < cur.length → (∀ c ∈ cur, c.toNat ≠ 47) → (∀ c ∈ cur, c.toNat ≠ 0) → (∀ x ∈ acc, comp x = true) → ∀ x ∈ emit cur acc, comp x = true := by
    intro cur acc h32 h1 h2 h3 x hx
    unfold emit at hx
    split at hx
    · exact h3 x hx
    · rename_i h0
      rcases List.mem_append.1 hx with hx | hx
      · exact h3 x hx
      · obtain rfl : x = str cur := by simpa using hx
        rw [comp_iff, str_list, str_size]
        have : cur.length ≠ 0 := fun h => h0 (List.eq_nil_of_length_eq_zero h)
        exact ⟨⟨by omega, by omega⟩, h1, h2⟩
  intro r
  induction r with
  | nil =>
    intro cur acc l h1 h2 h3 h
    simp only [split] at h
    split at h
    · cases h
    · rename_i h32
      obtain rfl := Option.some.inj h
      exact hem cur acc h32 h1 (by simpa using h2) h3
  | cons c r ih =>
    intro cur acc l h1 h2 h3 h
    simp only [split] at h
    split at h
    · split at h
      · cases h
      · rename_i h32
        exact ih [] (emit cur acc) l (by simp) (fun x hx => h2 x (by simp only [List.nil_append] at hx; simp [hx])) (hem cur acc h32 h1 (fun x hx => h2 x (by simp [hx])) h3) h
    · rename_i h47
      refine ih (cur ++ [c]) acc l ?_ (by simpa using h2) h3 h
      intro x hx
      rcases List.mem_append.1 hx with hx | hx
      · exact h1 x hx
      · obtain rfl : x = c := by simpa using hx
        exact h47
/-! A path's text. -/
theorem take_snoc (l : List ByteArray) (k : Nat) (h : k < l.length) : l.take (k + 1) = l.take k ++ [l[k]] := List.take_succ_eq_append_getElem h
theorem valid_some {a d : Bool} {l : List ByteArray} (h : valid a l d = true) (hl : l ≠ []) : (∀ x ∈ l, comp x = true) ∧ plen a l d ≤ 256 := by
  unfold valid at h
  rw [if_neg hl] at h
  simp only [Bool.and_eq_true, decide_eq_true_eq, List.all_eq_true] at h
  exact h
theorem valid_comp {a d : Bool} {l : List ByteArray} (h : valid a l d = true) : ∀ x ∈ l, comp x = true := by
  by_cases hl : l = []
  · subst hl; simp
  · exact (valid_some h hl).1
theorem valid_len {a d : Bool} {l : List ByteArray} (h : valid a l d = true) : plen a l d ≤ 256 := by
  by_cases hl : l = []
  · subst hl; unfold plen; simp [tot]; cases a <;> simp
  · exact (valid_some h hl).2
theorem valid_tot {a d : Bool} {l : List ByteArray} (h : valid a l d = true) : tot l ≤ 257 := by
  have := valid_len h; unfold plen at this; omega
theorem valid_count {a d : Bool} {l : List ByteArray} (h : valid a l d = true) : l.length ≤ 257 := Nat.le_trans (tot_len l) (valid_tot h)
theorem parse_valid {s : ByteArray} (h : perr s = 0) : valid (pA s) (pN s) (pD s) = true ∧ plen (pA s) (pN s) (pD s) ≤ s.size := by
  have hE := h
  unfold perr at h
  split at h
  · cases h
  split at h
  · cases h
  split at h
  · cases h
  split at h
  · cases h
  rename_i h0 h256 hz hs
  obtain ⟨l, hl⟩ : ∃ l, split [] [] s.data.toList = some l := by
    cases hx : split [] [] s.data.toList with
    | none => rw [hx] at hs; simp at hs
    | some l => exact ⟨l, rfl⟩
  have hN : pN s = l := by unfold pN names; rw [if_pos hE, hl]; rfl
  have hA : pA s = first s := by unfold pA; rw [if_pos hE]
  have hD : pD s = PM.last s := by unfold pD; rw [if_pos hE]
  rw [hN, hA, hD]
  have hsz := list_size s
  have hz' : ∀ c ∈ s.data.toList, c.toNat ≠ 0 := by
    simp only [has, Bool.not_eq_true, List.any_eq_false, beq_iff_eq] at hz
    exact hz
  have hcomp : ∀ x ∈ l, comp x = true := split_comp s.data.toList [] [] l (by simp) (by simpa using hz') (by simp) hl
  obtain ⟨c, r, hcr⟩ : ∃ c r, s.data.toList = c :: r := by
    cases hx : s.data.toList with
    | nil => rw [hx] at hsz; simp at hsz; omega
    | cons c r => exact ⟨c, r, rfl⟩
  have hfirst : first s = (c.toNat == 47) := by unfold first; rw [hcr]; rfl
  have hfresh : fresh s.data.toList = PM.last s := by
    unfold fresh PM.last
    rw [hcr]
    cases hx : (c :: r).getLast? with
    | none => simp at hx
    | some z => rfl
  have hbound : l ≠ [] → plen (first s) l (PM.last s) ≤ s.size := by
    intro hne
    have htp := tot_pos l hne
    have hlp : 0 < l.length := by cases l with
      | nil => exact absurd rfl hne
      | cons x r => simp
    unfold plen
    by_cases hc47 : c.toNat = 47
    · have h1 : split [] [] r = some l := by
        rw [hcr, split, if_pos hc47, if_neg (by simp), emit_nil] at hl; exact hl
      have h2 := split_tot r [] [] l (by simp) h1
      rw [List.nil_append, tot_nil, Nat.zero_add] at h2
      have hr : fresh r = true ∨ fresh r = PM.last s := by
        by_cases hr : r = []
        · subst hr; exact .inl rfl
        · right
          rw [← hfresh, hcr]
          exact (fresh_mid [] c r hr).symm
      rw [hfirst, show (c.toNat == 47) = true from by simpa using hc47]
      rw [hcr] at hsz
      simp only [List.length_cons] at hsz
      simp only [if_true]
      rcases hr with hr | hr
      · rw [hr] at h2; simp only [if_true] at h2
        split <;> omega
      · rw [hr] at h2
        cases hd : PM.last s with
        | true => rw [hd] at h2; simp only [if_true] at h2; split <;> omega
        | false => rw [hd] at h2; simp at h2 ⊢; omega
    · rw [hfirst, show (c.toNat == 47) = false from by simpa using hc47]
      have h2 := split_tot s.data.toList [] [] l (by simp) hl
      simp only [List.nil_append, tot_nil, Nat.zero_add, hfresh, hsz] at h2
      cases hd : PM.last s with
      | true => rw [hd] at h2; simp only [if_true] at h2; simp [hlp]; omega
      | false => rw [hd] at h2; simp at h2 ⊢; omega
  by_cases hne : l = []
  · subst hne
    have hall := split_empty _ hl
    have h1 : first s = true := by rw [hfirst]; simpa using hall c (by rw [hcr]; simp)
    have h2 : PM.last s = true := by
      rw [← hfresh]; unfold fresh
      rw [hcr]
      cases hx : (c :: r).getLast? with
      | none => simp at hx
      | some z =>
        have := hall z (by rw [hcr]; exact List.mem_of_getLast? hx)
        simpa using this
    rw [h1, h2]
    exact ⟨by simp [valid], by simp [plen, tot]; omega⟩
  · refine ⟨?_, hbound hne⟩
    unfold valid
    rw [if_neg hne]
    simp only [Bool.and_eq_true, decide_eq_true_eq, List.all_eq_true]
    exact ⟨hcomp, by have := hbound hne; omega⟩
/-! The normal form. -/
def Shape (a : Bool) (o : List ByteArray) : Prop := ∃ k p, o = List.replicate k dots ++ p ∧ (∀ x ∈ p, x ≠ dot ∧ x ≠ dots) ∧ (a = true → k = 0)
theorem Shape.nil (a : Bool) : Shape a [] := ⟨0, [], rfl, by simp, fun _ => rfl⟩
end PM
end Go.Proofs.YtmnmheocmcmpmaaGreat

namespace Go.Proofs.YtmnmheocmcmpmaaGreat
open Go.ChangeShapes Go.WideShapes Go.ChangeAt Go.RowKit
theorem W_hid {p : Prop} (h : p) : Hid p := h
theorem ret_int {k : IntKind} {a b : Int} (h : a = b) : Ending.returned (.int k a) = .returned (.int k b) := by rw [h]
theorem ret_bool {a b : Bool} (h : a = b) : Ending.returned (.bool a) = .returned (.bool b) := by rw [h]
theorem ret_u64 {a b : Int} (h : a = b) : Ending.returned (.int .u64 a) = .returned (.int .u64 b) := by rw [h]
theorem own_ge {w : World} {base e size n : Nat} {v : Value} {xs : List Value} (hown : w.ownsRow base e size v n xs) (g : Nat) (hg : v.ownBlock = some g) : base ≤ g := by
  rcases hown.2 with ⟨rfl, _⟩ | ⟨g', cap, cur, rfl, hb, _⟩
  · cases hg
  · cases hg; exact hb
theorem own_base {w : World} {base base' e size : Nat} {v : Value} {n : Nat} {xs : List Value} (h : base' ≤ base) (hown : w.ownsRow base e size v n xs) : w.ownsRow base' e size v n xs := by
  rcases hown.2 with h0 | ⟨g, cap, cur, h1, h2, h3⟩
  · exact ⟨hown.1, .inl h0⟩
  · exact ⟨hown.1, .inr ⟨g, cap, cur, h1, Nat.le_trans h h2, h3⟩⟩
end Go.Proofs.YtmnmheocmcmpmaaGreat

namespace Go.Proofs.YtmnmheocmcmpmaaGreat
open Go.ChangeShapes Go.WideShapes Go.ChangeAt Go.RowKit
set_option linter.unusedVariables false
set_option linter.unusedSimpArgs false
theorem cell_lt {w : World} {p : Addr} {v : Value} (h : w.cell? p = some v) : p.block < w.heap.size := World.block_lt_of_cell? w p h
theorem bundrew {B : Nat} {w w' : World} (h : Below B w.drew w') : Below B w w' := ⟨h.os, h.tape, h.output, h.size, h.block⟩
def Blk (w : World) (g : Nat) (e : TypeId) (l : List Value) : Prop := w.heap[g]? = some (.cells l.toArray e (0, 0))
section
variable {w w' : World} {g : Nat} {e : TypeId} {l : List Value}
theorem Blk.cell (h : Blk w g e l) {j : Nat} {v : Value} (hj : l[j]? = some v) : w.cell? ⟨g, j, none⟩ = some v := by
  rw [cell_of_row w g j _ _ _ h]; simpa using hj
theorem Blk.fz (h : Blk w g e l) (i : Nat) : w.frozen? ⟨g, i, none⟩ = false := by unfold Blk at h; simp [World.frozen?, h]
theorem Blk.lt (h : Blk w g e l) : g < w.heap.size := by
  rcases Nat.lt_or_ge g w.heap.size with hlt | hge
  · exact hlt
  · unfold Blk at h; rw [Array.getElem?_eq_none hge] at h; cases h
theorem Blk.below {B : Nat} (h : Blk w g e l) (hb : Below B w w') (hg : g < B) : Blk w' g e l := (hb.block g hg).trans h
theorem Blk.keep (h : Blk w g e l) (hb : Below w.heap.size w w') : Blk w' g e l := h.below hb h.lt
theorem Blk.alloc (h : Blk w g e l) (o : Obj) : Blk (w.alloc o) g e l := (Below.heap_alloc w o g h.lt).trans h
theorem Blk.grown {row : Option Nat} (h : Blk w g e l) (hb : w.grownBy w' row) (hg : some g ≠ row) : Blk w' g e l := (hb.block g h.lt hg).trans h
theorem Blk.far (h : Blk w g e l) {p : Addr} (hp : g ≠ p.block) (u : Value) : Blk (w.setCell p u) g e l := (Below.heap_setCell w p u g hp).trans h
theorem Blk.set (h : Blk w g e l) (j : Nat) (u : Value) : Blk (w.setCell ⟨g, j, none⟩ u) g e (l.set j u) := by
  unfold Blk at h ⊢
  rw [heap_setCell_same w g j _ _ u h]
  simp
theorem Blk.own {base size n cap : Nat} (h : w.ownsRow base e size (.slice (some ⟨g, 0, none⟩) n n) n l) : Blk w g e l := by
  rcases h.2 with ⟨h', _⟩ | ⟨g', cap', cur, h', _, hg, _, _, hcs, htake⟩
  · simp at h'
  · simp only [Value.slice.injEq, Option.some.injEq, Addr.mk.injEq, and_true, true_and] at h'
    obtain ⟨rfl, rfl⟩ := h'
    rw [List.take_of_length_le (by simp; omega)] at htake
    unfold Blk
    rw [hg, ← htake]
end
theorem Blk.new (w : World) (e : TypeId) (l : List Value) {x : Nat} (hx : x = w.heap.size) : Blk (w.alloc (.cells l.toArray e)) x e l := by subst hx; exact heap_alloc_new w _
structure Two (g b : Nat) (w w' : World) : Prop where
  os : w'.os = w.os
  tape : w'.tape = w.tape
  output : w'.output = w.output
  size : w.heap.size ≤ w'.heap.size
  block : ∀ k, k < w.heap.size → k ≠ g → k ≠ b → w'.heap[k]? = w.heap[k]?
section
variable {w w' w2 : World} {g b : Nat}
theorem Two.of (h : Below w.heap.size w w') : Two g b w w' := ⟨h.os, h.tape, h.output, h.size, fun k hk _ _ => h.block k hk⟩
theorem Two.refl (g b : Nat) (w : World) : Two g b w w := Two.of (Below.refl _ _)
theorem Two.trans (h : Two g b w w') (k : Two g b w' w2) : Two g b w w2 :=
  ⟨k.os.trans h.os, k.tape.trans h.tape, k.output.trans h.output, Nat.le_trans h.size k.size, fun i hi h1 h2 => (k.block i (Nat.lt_of_lt_of_le hi h.size) h1 h2).trans (h.block i hi h1 h2)⟩
theorem Two.setCell (h : Two g b w w') {p : Addr} (hp : p.block = g ∨ p.block = b) (u : Value) : Two g b w (w'.setCell p u) :=
  h.trans ⟨rfl, rfl, rfl, by simp [World.setCell], fun k hk h1 h2 => Below.heap_setCell _ _ _ _ (by rcases hp with hp | hp <;> omega)⟩
theorem Two.drew (h : Two g b w w') (n : Nat) : Two g b w (w'.drewN n) := ⟨h.os, h.tape, h.output, h.size, h.block⟩
theorem Two.wide (h : Two b b w w') : Two g b w w' := ⟨h.os, h.tape, h.output, h.size, fun k hk _ h2 => h.block k hk h2 h2⟩
theorem Two.below {B : Nat} (h : Two g b w w') (hB : B ≤ w.heap.size) (hg : B ≤ g) (hb : B ≤ b) : Below B w w' := ⟨h.os, h.tape, h.output, h.size, fun k hk => h.block k (by omega) (by omega) (by omega)⟩
theorem Blk.two {x : Nat} {e : TypeId} {l : List Value} (h : Blk w x e l) (t : Two g b w w') (h1 : x ≠ g) (h2 : x ≠ b) : Blk w' x e l := (t.block x h.lt h1 h2).trans h
end
theorem Two.undrew {g b : Nat} {w w' : World} (h : Two g b w.drew w') : Two g b w w' := ⟨h.os, h.tape, h.output, h.size, h.block⟩
def IsRow (k : IntKind) (w : World) (a : Option Addr) (len cap : Nat) (zs : List Int) : Prop :=
  (a = none ∧ len = 0 ∧ cap = 0 ∧ zs = []) ∨
  ∃ x, a = some x ∧ len ≤ cap ∧ cap ≤ maxLen ∧ zs.length = cap ∧ (∀ i, i < zs.length → w.cell? (x.add i) = some (.int k (zs.getD i 0))) ∧ ∀ n ∈ zs, (Lit.int k n).wf = true
end Go.Proofs.YtmnmheocmcmpmaaGreat

namespace Go.Proofs.YtmnmheocmcmpmaaGreat
open Go.ChangeShapes Go.WideShapes Go.ChangeAt Go.RowKit Go.Maps
open Go.WideElems (Fit rd rg pl rd_val rd_key rg_of)
set_option linter.unusedVariables false
set_option linter.unusedSimpArgs false
namespace IS
def ptr : Option Nat → Value
  | none => .pointer none
  | some g => .pointer (some ⟨g, 0, none⟩)
def PR : Value → Option (DataW Unit × List MemPlace)
  | .pointer none => some (.nil, [])
  | .pointer (some ⟨g, 0, none⟩) => some (.lit (.int .i64 (g : Int)), [])
  | _ => none
def pd : Option Nat → DataW Unit
  | none => .nil
  | some g => .lit (.int .i64 (g : Int))
theorem PR_ptr (x : Option Nat) : PR (ptr x) = some (pd x, []) := by cases x <;> rfl
theorem PR_inv {v : Value} {x : Option Nat} {ps : List MemPlace} (h : PR v = some (pd x, ps)) : v = ptr x := by
  unfold PR at h
  split at h
  · cases x with
    | none => rfl
    | some g => simp [pd] at h
  · rename_i g
    cases x with
    | none => simp [pd] at h
    | some g' =>
      simp only [pd, Option.some.injEq, Prod.mk.injEq, DataW.lit.injEq, Lit.int.injEq, true_and] at h
      obtain ⟨h, -⟩ := h
      have : g = g' := by omega
      subst this; rfl
  · cases h
theorem und_map : Tryz.prog.underlying 120 = some (.map 3 127) := by kernel_rfl
theorem und_int : Tryz.prog.underlying 3 = some (.int .i64) := by kernel_rfl
theorem keyed_int : Keyed Tryz.prog 3 := int_keyed und_int
def key (f : Int) : Lit := .int .i64 f
def I64 (f : Int) : Prop := -9223372036854775808 ≤ f ∧ f ≤ 9223372036854775807
theorem i64_nat {f : Nat} (h : f < 65536) : I64 (f : Int) := ⟨by omega, by omega⟩
theorem wf_i64 {f : Int} (h : I64 f) : (Lit.int .i64 f).wf = true := by
  unfold I64 at h
  simp [Lit.wf, IntKind.min, IntKind.max, IntKind.signed, IntKind.bits]; omega
theorem wf_bounds {x : Int} (h : (Lit.int .i64 x).wf = true) : I64 x := by
  simp [Lit.wf, IntKind.min, IntKind.max, IntKind.signed, IntKind.bits] at h
  exact ⟨by omega, by omega⟩
theorem key_of (f : Int) (h : I64 f) : keyOf Tryz.prog 3 (.int .i64 f) = some (key f) := keyOf_int_mk und_int (wf_i64 h)
theorem key_ne {f g : Int} (h : f ≠ g) : key f ≠ key g := by
  intro e
  simp only [key, Lit.int.injEq, true_and] at e
  exact h e
theorem isKey (f : Int) (h : I64 f) : WideAt.IsKeyLit (key f) := keyed_int.key (key_of f h)
theorem zero_ptr (w : World) : (zeroValue 127).run Tryz.prog w = .ok (ptr none) w := by kernel_rfl
theorem nodup_sub : ∀ (l m : List Nat), l.Nodup → (∀ x ∈ l, x ∈ m) → l.length ≤ m.length
  | [], _, _, _ => Nat.zero_le _
  | a :: l, m, hn, h => by
    have hn' := List.nodup_cons.1 hn
    have h1 := nodup_sub l (m.erase a) hn'.2 (fun x hx => by
      have hm := h x (List.mem_cons_of_mem _ hx)
      exact (List.mem_erase_of_ne (fun e => hn'.1 (by rw [← e]; exact hx))).2 hm)
    have ha := h a List.mem_cons_self
    rw [List.length_erase_of_mem ha] at h1
    have : 0 < m.length := List.length_pos_of_mem ha
    simp only [List.length_cons]
    omega
theorem nodup_le (N : Nat) (l : List Nat) (h : l.Nodup) (hl : ∀ x ∈ l, x < N) : l.length ≤ N := by
  have := nodup_sub l (List.range N) h (fun x hx => List.mem_range.2 (hl x hx))
  simpa using this
def Nums (M : Int → Option Nat) (ss : List Nat) : Prop := ss.Nodup ∧ ∀ f : Nat, f ∈ ss ↔ M f ≠ none
theorem Nums.len_eq {M : Int → Option Nat} {a b : List Nat} (ha : Nums M a) (hb : Nums M b) : a.length = b.length :=
  Nat.le_antisymm (nodup_sub a b ha.1 fun x hx => (hb.2 x).2 ((ha.2 x).1 hx)) (nodup_sub b a hb.1 fun x hx => (ha.2 x).2 ((hb.2 x).1 hx))
structure MB (w : World) (b : Nat) (M : Int → Option Nat) : Prop where
  ex : ∃ D : DataW Unit, w.ownsMap Tryz.prog 3 PR b (Maps.size D) D ∧ (∀ f, I64 f → Maps.has D (key f) = (M f).isSome) ∧ (∀ f g, I64 f → M f = some g → ∀ z, D.atKey (key f) z = pd (some g))
  bound : ∀ f, M f ≠ none → 0 ≤ f ∧ f < 65536
section
variable {w w' : World} {b : Nat} {M : Int → Option Nat}
theorem Nums.lt {ss : List Nat} (h : Nums M ss) (hm : MB w b M) : ∀ f ∈ ss, f < 65536 := fun f hf => by have := hm.bound f ((h.2 f).1 hf); omega
theorem Nums.len {ss : List Nat} (h : Nums M ss) (hm : MB w b M) : ss.length ≤ 65536 := nodup_le 65536 ss h.1 (h.lt hm)
theorem own_tight {n : Nat} {D : DataW Unit} (h : w.ownsMap Tryz.prog 3 PR b n D) : w.ownsMap Tryz.prog 3 PR b (Maps.size D) D := by
  obtain ⟨es, clock, hb, F, hs, rfl⟩ := h
  exact ⟨es, clock, hb, F, by simp [Maps.size, length_sorted], rfl⟩
theorem own_nums {n : Nat} {D : DataW Unit} (h : w.ownsMap Tryz.prog 3 PR b n D) (hf : ∀ f, I64 f → Maps.has D (key f) = (M f).isSome) (hb : ∀ f, M f ≠ none → 0 ≤ f ∧ f < 65536) : ∃ ss, Nums M ss ∧ ss.length = Maps.size D := by
  obtain ⟨es0, rfl, hne, -⟩ := h.entries keyed_int
  obtain ⟨es, clock, hbk, F, hs, hD⟩ := h
  simp only [DataW.map.injEq] at hD
  have hk : ∀ p ∈ es0, ∃ f : Nat, f < 65536 ∧ p.1 = key f ∧ M f ≠ none := by
    intro p hp
    have hp0 := hp
    rw [hD] at hp
    obtain ⟨v, hv⟩ := fit_keys F p (mem_sorted.1 hp)
    obtain ⟨x, rfl, hx, hwf⟩ := Maps.keyOf_int_inv und_int hv
    have hI := wf_bounds hwf
    have hh := hf x hI
    have h1 : Maps.has (DataW.map es0) (key x) = true := by
      rw [Maps.has_eq]
      exact List.any_eq_true.2 ⟨p, hp0, by rw [hx]; exact WideAt.sameKey_self (isKey x hI)⟩
    rw [h1] at hh
    have hM : M x ≠ none := fun e => by rw [e] at hh; cases hh
    obtain ⟨h2, h3⟩ := hb x hM
    refine ⟨x.toNat, by omega, ?_, ?_⟩
    · rw [hx]; simp only [key, Lit.int.injEq, true_and]; omega
    · rw [Int.toNat_of_nonneg h2]; exact hM
  refine ⟨es0.map fun p => match p.1 with | .int _ x => x.toNat | _ => 0, ⟨?_, fun f => ?_⟩, by simp [Maps.size]⟩
  · unfold List.Nodup
    rw [List.pairwise_map]
    refine hne.imp_of_mem ?_
    intro p q hp hq hpq
    obtain ⟨f, -, e1, -⟩ := hk p hp
    obtain ⟨g, -, e2, -⟩ := hk q hq
    rw [e1, e2] at hpq
    rw [e1, e2]
    intro hfg
    apply hpq
    simp only [key, Int.toNat_natCast] at hfg
    rw [hfg]
  · rw [List.mem_map]
    constructor
    · rintro ⟨p, hp, rfl⟩
      obtain ⟨f, hf1, e1, hM⟩ := hk p hp
      rw [e1]
      simpa [key] using hM
    · intro hM
      have hbd := hb f hM
      have h1 := hf f (i64_nat (by omega))
      have h2 : Maps.has (DataW.map es0) (key f) = true := by
        rw [h1]
        cases e : M f with
        | none => exact absurd e hM
        | some _ => rfl
      rw [Maps.has_eq] at h2
      obtain ⟨p, hp, hs⟩ := List.any_eq_true.1 h2
      obtain ⟨g, -, e1, -⟩ := hk p hp
      refine ⟨p, hp, ?_⟩
      rw [e1] at hs ⊢
      simp only [key, Lit.sameKey] at hs
      simp only [key, Int.toNat_natCast]
      simp at hs
      omega
theorem MB.congr (h : MB w b M) {M' : Int → Option Nat} (hM : ∀ f, M f = M' f) : MB w b M' := by
  obtain rfl : M = M' := funext hM
  exact h
theorem MB.lt (h : MB w b M) : b < w.heap.size := by obtain ⟨D, ho, _⟩ := h.ex; exact ho.lt
theorem MB.grown (h : MB w b M) {row : Option Nat} (hg : w.grownBy w' row) (hne : some b ≠ row) : MB w' b M := by
  obtain ⟨⟨D, ho, h1, h2⟩, hb⟩ := h
  exact ⟨⟨D, ho.kept hg hne, h1, h2⟩, hb⟩
theorem MB.heap (h : MB w b M) (e : w'.heap[b]? = w.heap[b]?) : MB w' b M := by
  obtain ⟨⟨D, ⟨es, clock, hb, F, hs, hD⟩, h1, h2⟩, hbd⟩ := h
  exact ⟨⟨D, ⟨es, clock, e.trans hb, F, hs, hD⟩, h1, h2⟩, hbd⟩
theorem MB.keep (h : MB w b M) (hb : Below w.heap.size w w') : MB w' b M := h.heap (hb.block b h.lt)
theorem MB.far (h : MB w b M) {p : Addr} (hp : b ≠ p.block) (u : Value) : MB (w.setCell p u) b M := h.heap (Below.heap_setCell w p u b hp)
theorem MB.alloc (h : MB w b M) (o : Obj) : MB (w.alloc o) b M := h.heap (Below.heap_alloc w o b h.lt)
theorem MB.drew (h : MB w b M) (t : Nat) : MB (w.drewN t) b M := h.heap rfl
theorem MB.drew1 (h : MB w b M) : MB w.drew b M := h.heap rfl
theorem MB.look (h : MB w b M) (f : Int) (hf : I64 f) :
    (Instr.lookup 120 (.map (some b)) (.int .i64 f) false).run Tryz.prog w = .ok (ptr (M f)) w := by
  obtain ⟨⟨D, ho, h1, h2⟩, hb⟩ := h
  obtain ⟨v, ps, hrun, hv⟩ := ho.lookup keyed_int und_map (zero_ptr w) (PR_ptr none) (key_of f hf)
  have e : v = ptr (M f) := by
    apply PR_inv (ps := ps)
    rw [hv]
    cases hm : M f with
    | none => have := h1 f hf; rw [hm] at this; rw [Maps.atKey_of_not_has (by simpa using this)]
    | some g => rw [h2 f g hf hm]
  rw [hrun, e]
theorem MB.count (h : MB w b M) {ss : List Nat} (hs : Nums M ss) (ty : TypeId) : (Builtin.len_ #[120] ty #[.map (some b)]).run Tryz.prog w = .ok (.int .i64 (ss.length : Int)) w := by
  obtain ⟨⟨D, ho, h1, h2⟩, hb⟩ := h
  obtain ⟨ss', h3, h4⟩ := own_nums ho h1 hb
  rw [ho.len und_map ty, ← h4, h3.len_eq hs]
def upd (M : Int → Option Nat) (f : Int) (x : Option Nat) : Int → Option Nat := fun g => if g = f then x else M g
theorem MB.put (h : MB w b M) (f : Int) (g : Nat) (hf : 0 ≤ f ∧ f < 65536) :
    ∃ w', (Instr.mapUpdate 120 (.map (some b)) (.int .i64 f) (.pointer (some ⟨g, 0, none⟩))).run Tryz.prog w = .ok () w' ∧ MB w' b (upd M f (some g)) ∧ w.grownBy w' (some b) ∧ w'.heap.size = w.heap.size := by
  obtain ⟨⟨D, ho, h1, h2⟩, hb⟩ := h
  have hf2 : I64 f := ⟨by omega, by omega⟩
  obtain ⟨ss, hN, hL⟩ := own_nums ho h1 hb
  have hsz : Maps.size D ≤ 65536 := by
    rw [← hL]
    exact nodup_le 65536 ss hN.1 fun x hx => by have := hb x ((hN.2 x).1 hx); omega
  obtain ⟨w', hrun, ho', ht⟩ := ho.store keyed_int und_map (by unfold maxLen; omega) (key_of f hf2) (PR_ptr (some g))
  refine ⟨w', hrun, ⟨⟨_, own_tight ho', fun k hk => ?_, fun k vs hk hv z => ?_⟩, fun k hk => ?_⟩, ht.grown, ?_⟩
  · unfold upd
    by_cases e : k = f
    · subst e; rw [if_pos rfl, Maps.has_put_same ho.isMap (isKey k hk)]; rfl
    · rw [if_neg e, Maps.has_put_other (key_ne e), h1 k hk]
  · unfold upd at hv
    by_cases e : k = f
    · subst e; rw [if_pos rfl] at hv; cases hv; exact Maps.atKey_put_same ho.isMap (isKey k hk) _ _
    · rw [if_neg e] at hv; rw [Maps.atKey_put_other (key_ne e)]; exact h2 k vs hk hv z
  · unfold upd at hk
    by_cases e : k = f
    · omega
    · rw [if_neg e] at hk; exact hb k hk
  · obtain ⟨es, c, es', c', hbb, rfl⟩ := ht
    simp [ChangeMaps.setBlock]
theorem MB.del (h : MB w b M) (f : Int) (hf : I64 f) (ty : TypeId) :
    ∃ w', (Builtin.delete_ #[120, 3] ty #[.map (some b), .int .i64 f]).run Tryz.prog w = .ok (.tuple #[]) w' ∧ MB w' b (upd M f none) ∧ w.grownBy w' (some b) ∧ w'.heap.size = w.heap.size := by
  obtain ⟨⟨D, ho, h1, h2⟩, hb⟩ := h
  obtain ⟨w', hrun, ho', ht⟩ := ho.drop keyed_int und_map (key_of f hf) ty
  refine ⟨w', hrun, ⟨⟨_, own_tight ho', fun g hg => ?_, fun g vs hg hv z => ?_⟩, fun g hg => ?_⟩, ht.grown, ?_⟩
  · unfold upd
    by_cases e : g = f
    · subst e; rw [if_pos rfl, Maps.has_del_same]; rfl
    · rw [if_neg e, Maps.has_del_other (key_ne e), h1 g hg]
  · unfold upd at hv
    by_cases e : g = f
    · rw [if_pos e] at hv; cases hv
    · rw [if_neg e] at hv; rw [Maps.atKey_del_other (key_ne e)]; exact h2 g vs hg hv z
  · unfold upd at hg
    by_cases e : g = f
    · rw [if_pos e] at hg; exact absurd rfl hg
    · rw [if_neg e] at hg; exact hb g hg
  · obtain ⟨es, c, es', c', hbb, rfl⟩ := ht
    simp [ChangeMaps.setBlock]
theorem MB.new (w : World) : MB (w.alloc (.map #[] 0)) w.heap.size (fun _ => none) :=
  ⟨⟨.map [], own_tight (World.ownsMap_made w _ _ PR), fun _ _ => rfl, fun _ _ _ h => by cases h⟩, fun _ h => absurd rfl h⟩
end
end IS
namespace NS
def nv (x : Int × Option Nat) : Value := .agg #[.int .i64 x.1, IS.ptr x.2]
def nd (x : Int × Option Nat) : DataW Unit := .agg [.lit (.int .i64 x.1), IS.pd x.2]
def PR : Value → Option (DataW Unit × List MemPlace)
  | .agg cs => match cs.toList with
    | [.int .i64 n, p] => (IS.PR p).map fun z => (.agg [.lit (.int .i64 n), z.1], [])
    | _ => none
  | _ => none
theorem PR_nv (x : Int × Option Nat) : PR (nv x) = some (nd x, []) := by simp [PR, nv, nd, IS.PR_ptr]
theorem PR_inv {v : Value} {x : Int × Option Nat} {ps : List MemPlace} (h : PR v = some (nd x, ps)) : v = nv x := by
  unfold PR at h
  split at h
  · rename_i cs
    split at h
    · rename_i n p e
      obtain ⟨cs⟩ := cs
      simp only at e
      subst e
      cases hp : IS.PR p with
      | none => rw [hp] at h; cases h
      | some z =>
        rw [hp] at h
        simp only [Option.map_some, nd, Option.some.injEq, Prod.mk.injEq, DataW.agg.injEq, List.cons.injEq, DataW.lit.injEq, Lit.int.injEq, true_and, and_true] at h
        obtain ⟨⟨h1, h2⟩, -⟩ := h
        obtain ⟨z1, z2⟩ := z
        simp only at h2
        subst h2
        have := IS.PR_inv hp
        subst h1 this
        rfl
    · cases h
  · cases h
theorem und_map : Tryz.prog.underlying 161 = some (.map 9 141) := by kernel_rfl
theorem und_str : Tryz.prog.underlying 9 = some .string := by kernel_rfl
theorem keyed_str : Keyed Tryz.prog 9 := string_keyed und_str
def key (k : ByteArray) : Lit := .string k.data.toList
def Sm (k : ByteArray) : Prop := k.size ≤ maxLen
theorem key_of (k : ByteArray) (h : Sm k) : keyOf Tryz.prog 9 (.string k) = some (key k) := WideMaps.keyOf_string_mk und_str h
theorem key_inj {f g : ByteArray} (h : key f = key g) : f = g := by
  simp only [key, Lit.string.injEq] at h
  have := Array.toList_inj.1 h
  exact ByteArray.ext this
theorem key_ne {f g : ByteArray} (h : f ≠ g) : key f ≠ key g := fun e => h (key_inj e)
theorem isKey (f : ByteArray) (h : Sm f) : WideAt.IsKeyLit (key f) := keyed_str.key (key_of f h)
theorem zero_node (w : World) : (zeroValue 141).run Tryz.prog w = .ok (nv (0, none)) w := by kernel_rfl
def Nums (M : ByteArray → Option (Int × Option Nat)) (ss : List ByteArray) : Prop := ss.Nodup ∧ ∀ f, f ∈ ss ↔ M f ≠ none
theorem nodup_sub {α : Type} [DecidableEq α] : ∀ (l m : List α), l.Nodup → (∀ x ∈ l, x ∈ m) → l.length ≤ m.length
  | [], _, _, _ => Nat.zero_le _
  | a :: l, m, hn, h => by
    have hn' := List.nodup_cons.1 hn
    have h1 := nodup_sub l (m.erase a) hn'.2 (fun x hx => by
      have hm := h x (List.mem_cons_of_mem _ hx)
      exact (List.mem_erase_of_ne (fun e => hn'.1 (by rw [← e]; exact hx))).2 hm)
    have ha := h a List.mem_cons_self
    rw [List.length_erase_of_mem ha] at h1
    have : 0 < m.length := List.length_pos_of_mem ha
    simp only [List.length_cons]
    omega
theorem Nums.len_eq {M : ByteArray → Option (Int × Option Nat)} {a b : List ByteArray} (ha : Nums M a) (hb : Nums M b) : a.length = b.length :=
  Nat.le_antisymm (nodup_sub a b ha.1 fun x hx => (hb.2 x).2 ((ha.2 x).1 hx)) (nodup_sub b a hb.1 fun x hx => (ha.2 x).2 ((hb.2 x).1 hx))
structure MB (w : World) (b : Nat) (M : ByteArray → Option (Int × Option Nat)) : Prop where
  ex : ∃ D : DataW Unit, w.ownsMap Tryz.prog 9 PR b (Maps.size D) D ∧ (∀ f, Sm f → Maps.has D (key f) = (M f).isSome) ∧ (∀ f x, Sm f → M f = some x → ∀ z, D.atKey (key f) z = nd x)
  bound : ∀ f, M f ≠ none → Sm f
section
variable {w w' : World} {b : Nat} {M : ByteArray → Option (Int × Option Nat)}
theorem own_nums {n : Nat} {D : DataW Unit} (h : w.ownsMap Tryz.prog 9 PR b n D) (hf : ∀ f, Sm f → Maps.has D (key f) = (M f).isSome) (hb : ∀ f, M f ≠ none → Sm f) : ∃ ss, Nums M ss ∧ ss.length = Maps.size D := by
  obtain ⟨es0, rfl, hne, -⟩ := h.entries keyed_str
  obtain ⟨es, clock, hbk, F, hs, hD⟩ := h
  simp only [DataW.map.injEq] at hD
  have hk : ∀ p ∈ es0, ∃ f : ByteArray, p.1 = key f ∧ M f ≠ none := by
    intro p hp
    have hp0 := hp
    rw [hD] at hp
    obtain ⟨v, hv⟩ := fit_keys F p (mem_sorted.1 hp)
    obtain ⟨x, rfl, hx, hsz⟩ := WideMaps.string_of_keyOf und_str hv
    have hI : Sm x := hsz
    have hh := hf x hI
    have h1 : Maps.has (DataW.map es0) (key x) = true := by
      rw [Maps.has_eq]
      exact List.any_eq_true.2 ⟨p, hp0, by rw [hx]; exact WideAt.sameKey_self (isKey x hI)⟩
    rw [h1] at hh
    have hM : M x ≠ none := fun e => by rw [e] at hh; cases hh
    exact ⟨x, hx, hM⟩
  refine ⟨es0.map fun p => match p.1 with | .string l => ⟨l.toArray⟩ | _ => ByteArray.empty, ⟨?_, fun f => ?_⟩, by simp [Maps.size]⟩
  · unfold List.Nodup
    rw [List.pairwise_map]
    refine hne.imp_of_mem ?_
    intro p q hp hq hpq
    obtain ⟨f, e1, -⟩ := hk p hp
    obtain ⟨g, e2, -⟩ := hk q hq
    rw [e1, e2] at hpq
    rw [e1, e2]
    intro hfg
    apply hpq
    simp only [key] at hfg
    rw [show f = g from hfg]
  · rw [List.mem_map]
    constructor
    · rintro ⟨p, hp, rfl⟩
      obtain ⟨f, e1, hM⟩ := hk p hp
      rw [e1]
      exact hM
    · intro hM
      have hbd := hb f hM
      have h1 := hf f hbd
      have h2 : Maps.has (DataW.map es0) (key f) = true := by
        rw [h1]
        cases e : M f with
        | none => exact absurd e hM
        | some _ => rfl
      rw [Maps.has_eq] at h2
      obtain ⟨p, hp, hs⟩ := List.any_eq_true.1 h2
      obtain ⟨g, e1, -⟩ := hk p hp
      refine ⟨p, hp, ?_⟩
      rw [e1] at hs ⊢
      have : g = f := by
        simp only [key, Lit.sameKey] at hs
        have hs' : g.data.toList = f.data.toList := by simpa using hs
        exact ByteArray.ext (Array.toList_inj.1 hs')
      exact this
theorem MB.nums (h : MB w b M) : ∃ ss, Nums M ss := by
  obtain ⟨⟨D, ho, h1, h2⟩, hb⟩ := h
  obtain ⟨ss, h3, -⟩ := own_nums ho h1 hb
  exact ⟨ss, h3⟩
theorem own_tight {n : Nat} {D : DataW Unit} (h : w.ownsMap Tryz.prog 9 PR b n D) : w.ownsMap Tryz.prog 9 PR b (Maps.size D) D := by
  obtain ⟨es, clock, hb, F, hs, rfl⟩ := h
  exact ⟨es, clock, hb, F, by simp [Maps.size, length_sorted], rfl⟩
theorem MB.congr (h : MB w b M) {M' : ByteArray → Option (Int × Option Nat)} (hM : ∀ f, M f = M' f) : MB w b M' := by
  obtain rfl : M = M' := funext hM
  exact h
theorem MB.lt (h : MB w b M) : b < w.heap.size := by obtain ⟨D, ho, _⟩ := h.ex; exact ho.lt
theorem MB.obj (h : MB w b M) : ∃ es c, w.heap[b]? = some (.map es c) := by
  obtain ⟨D, ⟨es, clock, hb, _⟩, _⟩ := h.ex
  exact ⟨es, clock, hb⟩
theorem MB.grown (h : MB w b M) {row : Option Nat} (hg : w.grownBy w' row) (hne : some b ≠ row) : MB w' b M := by
  obtain ⟨⟨D, ho, h1, h2⟩, hb⟩ := h
  exact ⟨⟨D, ho.kept hg hne, h1, h2⟩, hb⟩
theorem MB.heap (h : MB w b M) (e : w'.heap[b]? = w.heap[b]?) : MB w' b M := by
  obtain ⟨⟨D, ⟨es, clock, hb, F, hs, hD⟩, h1, h2⟩, hbd⟩ := h
  exact ⟨⟨D, ⟨es, clock, e.trans hb, F, hs, hD⟩, h1, h2⟩, hbd⟩
theorem MB.keep (h : MB w b M) (hb : Below w.heap.size w w') : MB w' b M := h.heap (hb.block b h.lt)
theorem MB.far (h : MB w b M) {p : Addr} (hp : b ≠ p.block) (u : Value) : MB (w.setCell p u) b M := h.heap (Below.heap_setCell w p u b hp)
theorem MB.alloc (h : MB w b M) (o : Obj) : MB (w.alloc o) b M := h.heap (Below.heap_alloc w o b h.lt)
theorem MB.drew (h : MB w b M) (t : Nat) : MB (w.drewN t) b M := h.heap rfl
theorem MB.drew1 (h : MB w b M) : MB w.drew b M := h.heap rfl
theorem MB.look (h : MB w b M) (f : ByteArray) (hf : Sm f) :
    (Instr.lookup 161 (.map (some b)) (.string f) true).run Tryz.prog w = .ok (.tuple #[nv ((M f).getD (0, none)), .bool (M f).isSome]) w := by
  obtain ⟨⟨D, ho, h1, h2⟩, hb⟩ := h
  obtain ⟨v, ps, hrun, hv⟩ := ho.look_ok keyed_str und_map (zero_node w) (PR_nv (0, none)) (key_of f hf)
  have e : v = nv ((M f).getD (0, none)) := by
    apply PR_inv (ps := ps)
    rw [hv]
    cases hm : M f with
    | none => have := h1 f hf; rw [hm] at this; rw [Maps.atKey_of_not_has (by simpa using this)]; rfl
    | some x => rw [h2 f x hf hm]; rfl
  rw [hrun, e, h1 f hf]
theorem MB.count (h : MB w b M) {ss : List ByteArray} (hs : Nums M ss) (ty : TypeId) : (Builtin.len_ #[161] ty #[.map (some b)]).run Tryz.prog w = .ok (.int .i64 (ss.length : Int)) w := by
  obtain ⟨⟨D, ho, h1, h2⟩, hb⟩ := h
  obtain ⟨ss', h3, h4⟩ := own_nums ho h1 hb
  rw [ho.len und_map ty, ← h4, h3.len_eq hs]
def upd (M : ByteArray → Option (Int × Option Nat)) (f : ByteArray) (x : Option (Int × Option Nat)) : ByteArray → Option (Int × Option Nat) := fun g => if g = f then x else M g
theorem MB.put (h : MB w b M) (f : ByteArray) (x : Int × Option Nat) (hf : Sm f) (hfew : ∀ ss, Nums M ss → ss.length < 65536) :
    ∃ w', (Instr.mapUpdate 161 (.map (some b)) (.string f) (nv x)).run Tryz.prog w = .ok () w' ∧ MB w' b (upd M f (some x)) ∧ w.grownBy w' (some b) ∧ w'.heap.size = w.heap.size := by
  obtain ⟨⟨D, ho, h1, h2⟩, hb⟩ := h
  obtain ⟨ss, hN, hL⟩ := own_nums ho h1 hb
  have hsz : Maps.size D < 65536 := by
    rw [← hL]
    exact hfew ss hN
  obtain ⟨w', hrun, ho', ht⟩ := ho.store keyed_str und_map (by unfold maxLen; omega) (key_of f hf) (PR_nv x)
  refine ⟨w', hrun, ⟨⟨_, own_tight ho', fun k hk => ?_, fun k vs hk hv z => ?_⟩, fun k hk => ?_⟩, ht.grown, ?_⟩
  · unfold upd
    by_cases e : k = f
    · subst e; rw [if_pos rfl, Maps.has_put_same ho.isMap (isKey k hk)]; rfl
    · rw [if_neg e, Maps.has_put_other (key_ne e), h1 k hk]
  · unfold upd at hv
    by_cases e : k = f
    · subst e; rw [if_pos rfl] at hv; cases hv; exact Maps.atKey_put_same ho.isMap (isKey k hk) _ _
    · rw [if_neg e] at hv; rw [Maps.atKey_put_other (key_ne e)]; exact h2 k vs hk hv z
  · unfold upd at hk
    by_cases e : k = f
    · rw [e]; exact hf
    · rw [if_neg e] at hk; exact hb k hk
  · obtain ⟨es, c, es', c', hbb, rfl⟩ := ht
    simp [ChangeMaps.setBlock]
theorem MB.del (h : MB w b M) (f : ByteArray) (hf : Sm f) (ty : TypeId) :
    ∃ w', (Builtin.delete_ #[161, 9] ty #[.map (some b), .string f]).run Tryz.prog w = .ok (.tuple #[]) w' ∧ MB w' b (upd M f none) ∧ w.grownBy w' (some b) ∧ w'.heap.size = w.heap.size := by
  obtain ⟨⟨D, ho, h1, h2⟩, hb⟩ := h
  obtain ⟨w', hrun, ho', ht⟩ := ho.drop keyed_str und_map (key_of f hf) ty
  refine ⟨w', hrun, ⟨⟨_, own_tight ho', fun g hg => ?_, fun g vs hg hv z => ?_⟩, fun g hg => ?_⟩, ht.grown, ?_⟩
  · unfold upd
    by_cases e : g = f
    · subst e; rw [if_pos rfl, Maps.has_del_same]; rfl
    · rw [if_neg e, Maps.has_del_other (key_ne e), h1 g hg]
  · unfold upd at hv
    by_cases e : g = f
    · rw [if_pos e] at hv; cases hv
    · rw [if_neg e] at hv; rw [Maps.atKey_del_other (key_ne e)]; exact h2 g vs hg hv z
  · unfold upd at hg
    by_cases e : g = f
    · rw [if_pos e] at hg; exact absurd rfl hg
    · rw [if_neg e] at hg; exact hb g hg
  · obtain ⟨es, c, es', c', hbb, rfl⟩ := ht
    simp [ChangeMaps.setBlock]
theorem MB.new (w : World) : MB (w.alloc (.map #[] 0)) w.heap.size (fun _ => none) :=
  ⟨⟨.map [], own_tight (World.ownsMap_made w _ _ PR), fun _ _ => rfl, fun _ _ _ h => by cases h⟩, fun _ h => absurd rfl h⟩
end
end NS
end Go.Proofs.YtmnmheocmcmpmaaGreat

namespace Go.Proofs.YtmnmheocmcmpmaaGreat
set_option linter.unusedVariables false
set_option linter.unusedSimpArgs false
namespace NT
structure Dr where
  up : Int
  l : List (ByteArray × Int)
abbrev Ds := Int → Option Dr
def upd (D : Ds) (n : Int) (x : Option Dr) : Ds := fun m => if m = n then x else D m
theorem upd_at (D : Ds) (n : Int) (x : Option Dr) : upd D n x n = x := if_pos rfl
theorem upd_ne {D : Ds} {n m : Int} {x : Option Dr} (h : m ≠ n) : upd D n x m = D m := if_neg h
def look (k : ByteArray) : List (ByteArray × Int) → Option Int
  | [] => none
  | x :: l => if x.1 = k then some x.2 else look k l
def blt (a b : ByteArray) : Bool := Op.bytesLess a.toList b.toList
def ins (k : ByteArray) (n : Int) : List (ByteArray × Int) → List (ByteArray × Int)
  | [] => [(k, n)]
  | x :: l => if blt x.1 k = true then x :: ins k n l else (k, n) :: x :: l
def del (k : ByteArray) (l : List (ByteArray × Int)) : List (ByteArray × Int) := l.filter fun x => decide (x.1 ≠ k)
def put (k : ByteArray) (n : Int) (l : List (ByteArray × Int)) : List (ByteArray × Int) := ins k n (del k l)
theorem look_ins (k : ByteArray) (n : Int) (j : ByteArray) : ∀ l, look k l = none → look j (ins k n l) = if j = k then some n else look j l
  | [], _ => by
    by_cases h : j = k
    · subst h; simp [ins, look]
    · simp [ins, look, h, Ne.symm h]
  | x :: l, h => by
    have hx : x.1 ≠ k := fun e => by simp [look, e] at h
    have hl : look k l = none := by simpa [look, hx] using h
    unfold ins
    split
    · rename_i hb
      unfold look
      rw [look_ins k n j l hl]
      by_cases e : x.1 = j
      · have : j ≠ k := fun e' => hx (e.trans e')
        simp [e, this]
      · simp [e]
    · by_cases e : j = k
      · subst e; simp [look]
      · simp [look, e, Ne.symm e]
theorem look_del (k j : ByteArray) : ∀ l, look j (del k l) = if j = k then none else look j l
  | [] => by simp [del, look]
  | x :: l => by
    have ih := look_del k j l
    unfold del at ih ⊢
    by_cases hx : x.1 = k
    · rw [List.filter_cons_of_neg (by simp [hx]), ih]
      by_cases e : j = k
      · simp [e]
      · have : x.1 ≠ j := fun e' => e (e'.symm.trans hx)
        simp [look, e, this]
    · rw [List.filter_cons_of_pos (by simp [hx])]
      unfold look
      rw [ih]
      by_cases e : j = k
      · subst e; simp [hx]
      · simp [e]
theorem look_put (k : ByteArray) (n : Int) (j : ByteArray) (l : List (ByteArray × Int)) : look j (put k n l) = if j = k then some n else look j l := by
  unfold put
  rw [look_ins k n j _ (by rw [look_del, if_pos rfl]), look_del]
  by_cases e : j = k
  · simp [e]
  · simp [e]
theorem look_mem {k : ByteArray} {n : Int} : ∀ {l}, look k l = some n → (k, n) ∈ l
  | [], h => by cases h
  | x :: l, h => by
    unfold look at h
    split at h
    · rename_i e
      cases h
      subst e
      exact List.mem_cons_self
    · exact List.mem_cons_of_mem _ (look_mem h)
theorem look_some {k : ByteArray} {n : Int} : ∀ {l}, (k, n) ∈ l → look k l ≠ none
  | [], h => by cases h
  | x :: l, h => by
    unfold look
    split
    · simp
    · rename_i e
      rcases List.mem_cons.1 h with rfl | h
      · exact absurd rfl e
      · exact look_some h
def step (D : Ds) (n : Int) (x : ByteArray) : Except Int Int := match D n with
  | none => .error 13
  | some d => if x = PM.dot then .ok n else if x = PM.dots then .ok d.up else match look x d.l with
    | none => .error 11
    | some m => .ok m
def goes (D : Ds) : Int → List ByteArray → Except Int Int
  | n, [] => .ok n
  | n, x :: xs => match step D n x with
    | .error e => .error e
    | .ok m => goes D m xs
theorem goes_snoc (D : Ds) : ∀ (xs : List ByteArray) (n : Int) (x : ByteArray), goes D n (xs ++ [x]) = (match goes D n xs with
  | .error e => .error e
  | .ok m => step D m x)
  | [], n, x => by
    simp only [List.nil_append, goes]
    cases step D n x <;> rfl
  | y :: ys, n, x => by
    simp only [List.cons_append, goes]
    cases step D n y with
    | error e => rfl
    | ok m => exact goes_snoc D ys m x
def find (D : Ds) (l : List ByteArray) (dir : Bool) : Except Int Int := match goes D 1 l with
  | .error e => .error e
  | .ok n => if dir = true ∧ D n = none then .error 13 else .ok n
def place (D : Ds) (l : List ByteArray) (nameless : Int) : Except Int Int := if l = [] then .error nameless else match goes D 1 l.dropLast with
  | .error e => .error e
  | .ok n => if D n = none then .error 13 else .ok n
def at_ (D : Ds) (n : Int) (k : ByteArray) : Option Int := match D n with
  | none => none
  | some d => look k d.l
def er {α : Type} : Except Int α → Int
  | .error e => e
  | .ok _ => 0
theorem step_er {D : Ds} {n : Int} {x : ByteArray} {e : Int} (h : step D n x = .error e) : e ≠ 0 := by
  unfold step at h
  split at h
  · cases h; decide
  · split at h
    · cases h
    · split at h
      · cases h
      · split at h <;> cases h
        decide
theorem goes_er {D : Ds} {e : Int} : ∀ {l : List ByteArray} {n : Int}, goes D n l = .error e → e ≠ 0
  | [], n, h => by cases h
  | x :: xs, n, h => by
    unfold goes at h
    split at h
    · rename_i e' he
      cases h
      exact step_er he
    · exact goes_er h
end NT
end Go.Proofs.YtmnmheocmcmpmaaGreat

namespace Go.Proofs.YtmnmheocmcmpmaaGreat
open Go.ChangeShapes Go.WideShapes Go.ChangeAt Go.RowKit
set_option linter.unusedVariables false
def cel (l : List UInt8) : List Value := l.map fun b => Value.int .u8 b.toNat
theorem cel_length (l : List UInt8) : (cel l).length = l.length := by simp [cel]
theorem cel_get (l : List UInt8) (j : Nat) : (cel l)[j]? = (l[j]?).map fun b => Value.int .u8 b.toNat := by simp [cel]
def BS (w : World) (ao : Option Addr) (n cap : Nat) (l : List UInt8) : Prop :=
  l.length = n ∧ n ≤ cap ∧ cap ≤ maxLen ∧ (ao = none → cap = 0) ∧ ∀ a, ao = some a → ∀ j u, (cel l)[j]? = some u → w.cell? (a.add j) = some u
theorem BS.below {w w' : World} {ao : Option Addr} {n cap : Nat} {l : List UInt8} (h : BS w ao n cap l) {B : Nat} (hb : Below B w w') (hB : w.heap.size ≤ B) : BS w' ao n cap l := by
  refine ⟨h.1, h.2.1, h.2.2.1, h.2.2.2.1, fun a ha j u hu => ?_⟩
  have hc := h.2.2.2.2 a ha j u hu
  rw [hb.cell (Nat.lt_of_lt_of_le (World.block_lt_of_cell? w _ hc) hB)]
  exact hc
theorem BS.nil (w : World) : BS w none 0 0 [] := ⟨rfl, Nat.le_refl _, Nat.zero_le _, fun _ => rfl, fun _ h => by cases h⟩
theorem BS.cut {w : World} {ao : Option Addr} {n cap : Nat} {l : List UInt8} (h : BS w ao n cap l) {lo hi : Nat} (h1 : lo ≤ hi) (h2 : hi ≤ n) :
    BS w (if cap = lo then ao else ao.map (·.add (lo * 1))) (hi - lo) (cap - lo) ((l.take hi).drop lo) := by
  obtain ⟨hl, hnc, hcm, hnone, hc⟩ := h
  refine ⟨by simp; omega, by omega, by omega, fun hn => ?_, fun a ha j u hu => ?_⟩
  · split at hn
    · have := hnone hn; omega
    · cases ao with
      | none => have := hnone rfl; omega
      | some x => simp at hn
  · have hj : j < hi - lo := by
      have := (List.getElem?_eq_some_iff.1 hu).1
      rw [cel_length] at this; simp at this; omega
    rw [if_neg (by omega)] at ha
    obtain ⟨x, rfl, rfl⟩ := Option.map_eq_some_iff.1 ha
    show w.cell? ((x.add (lo * 1)).add j) = some u
    rw [Addr.add_add, Nat.mul_one]
    refine hc x rfl (lo + j) u ?_
    rw [cel_get] at hu ⊢
    rw [← hu, List.getElem?_drop, List.getElem?_take, if_pos (by omega)]
def strOf (l : List UInt8) : ByteArray := ⟨l.toArray⟩
/-! Numbers of bytes, the least first. -/
def le : Nat → Nat → List UInt8
  | 0, _ => []
  | m + 1, k => UInt8.ofNat (k % 256) :: le m (k / 256)
def num : List UInt8 → Nat
  | [] => 0
  | b :: r => b.toNat + 256 * num r
end Go.Proofs.YtmnmheocmcmpmaaGreat

namespace Go.Proofs.YtmnmheocmcmpmaaGreat
open Go.ChangeShapes Go.WideShapes Go.ChangeAt Go.RowKit
set_option linter.unusedVariables false
set_option linter.unusedSimpArgs false
theorem byte_get (s : ByteArray) (k : Nat) (h : k < s.size) : s.data.toList.drop k = s[k] :: s.data.toList.drop (k + 1) := by
  rw [List.drop_eq_getElem_cons (by simpa using h)]; rfl
theorem any_take_snoc (s : ByteArray) (f : UInt8 → Bool) (k : Nat) (h : k < s.size) : (s.data.toList.take (k + 1)).any f = ((s.data.toList.take k).any f || f s[k]) := by
  rw [List.take_succ_eq_append_getElem (by simpa using h), List.any_append]; simp; rfl
theorem has_of {s : ByteArray} {k v : Nat} (h : k < s.size) (e : (s[k].toNat : Int) = v) : PM.has s v = true := by
  unfold PM.has
  rw [List.any_eq_true]
  exact ⟨s[k], by simp [ByteArray.getElem_eq_getElem_data], by simpa using (by omega : s[k].toNat = v)⟩
theorem has_none {s : ByteArray} {v : Nat} (h : (s.data.toList.take s.size).any (fun c => c.toNat == v) = false) : PM.has s v = false := by
  unfold PM.has
  rw [List.take_of_length_le (by simp [PM.list_size])] at h
  exact h
set_option maxRecDepth 100000 in
set_option maxHeartbeats 400000 in
theorem contains_any (s : ByteArray) (v : Nat) (x : Int) (hx : x = v) (w : World) (hs : s.size ≤ maxLen) :
    Calls Tryz.prog 143 #[.string s, .int .u8 x] w fun e w' => e = .returned (.bool (PM.has s v)) ∧ w = w' := by
  unfold maxLen at hs
  have HX : Hid _ := hx
  clear hx
  go_enter Tryz.func143, Tryz.ntmps143
  go_wp2
  go_loop [8] (fun i => ∃ k : Nat, k ≤ s.size ∧ i = .int .i64 k ∧ Hid ((s.data.toList.take k).any (fun c => c.toNat == v) = false)) (fun i => s.size - (intOf i).toNat)
  case atStart => exact ⟨0, Nat.zero_le _, rfl, rfl⟩
  case round =>
    obtain ⟨k, hk, rfl, hno⟩ := hrel
    by_cases hlt : k < s.size
    · by_cases he : (s[k].toNat : Int) = x
      · have hh : Hid (PM.has s v = true) := has_of hlt (he.trans HX.out)
        have hb : ((s[k].toNat : Int) == x) = true := by simpa using he
        clear he
        go_wp2
        go_ret
        exact ⟨by rw [hh.out]; rfl, rfl⟩
      · have hb : ((s[k].toNat : Int) == x) = false := by simpa using he
        have hn : Hid ((s.data.toList.take (k + 1)).any (fun c => c.toNat == v) = false) := by
          have h0 := hno.out
          show _ = false
          rw [any_take_snoc _ _ _ hlt, h0]
          have := HX.out
          simp only [Bool.false_or, beq_eq_false_iff_ne, ne_eq]
          omega
        clear he
        go_wp2
        go_round
        case rel => exact ⟨k + 1, by omega, by go_num, hn⟩
        case measure => simp [intOf]; omega
    · obtain rfl : k = s.size := by omega
      have hh : Hid (PM.has s v = false) := has_none hno.out
      go_wp2
      go_ret
      exact ⟨by rw [hh.out]; rfl, rfl⟩
theorem comp_false {s : ByteArray} (h : ¬ (1 ≤ s.size ∧ s.size ≤ 32) ∨ PM.has s 47 = true ∨ PM.has s 0 = true) : PM.comp s = false := by
  unfold PM.comp
  rcases h with h | h | h
  · rcases Nat.lt_or_ge s.size 1 with h1 | h1
    · simp [show ¬ 1 ≤ s.size by omega]
    · simp [show ¬ s.size ≤ 32 by omega]
  · rw [h]; simp
  · rw [h]; simp
theorem comp_true {s : ByteArray} (h1 : 1 ≤ s.size) (h2 : s.size ≤ 32) (h3 : PM.has s 47 = false) (h4 : PM.has s 0 = false) : PM.comp s = true := by
  unfold PM.comp; rw [h3, h4]; simp [h1, h2]
theorem empty_facts {s : ByteArray} (h : s.size = 0) : s.toList = [] ∧ s.toList.isEmpty = true := by
  have : s.data.toList = [] := List.eq_nil_of_length_eq_zero (by rw [PM.list_size]; exact h)
  rw [ByteArray.toList_eq, this]; exact ⟨rfl, rfl⟩
theorem full_facts {s : ByteArray} (h : s.size ≠ 0) : (s.toList = []) = False ∧ s.toList.isEmpty = false := by
  have hl := PM.list_size s
  rw [ByteArray.toList_eq]
  cases he : s.data.toList with
  | nil => rw [he] at hl; exact absurd hl.symm h
  | cons c r => exact ⟨by simp, rfl⟩
set_option maxRecDepth 100000 in
set_option maxHeartbeats 400000 in
theorem component_any (s : ByteArray) (w : World) (hs : s.size ≤ maxLen) :
    Calls Tryz.prog 158 #[.string s] w fun e w' => e = .returned (.bool (PM.comp s)) ∧ w = w' := by
  by_cases h1 : s.size = 0
  · have hh : Hid (PM.comp s = false) := comp_false (by omega)
    obtain ⟨e1, e2⟩ := empty_facts h1
    clear h1
    go_enter Tryz.func158, Tryz.ntmps158
    go_wp2_with fail
    go_ret
    exact ⟨by rw [hh.out]; rfl, rfl⟩
  obtain ⟨e1, e2⟩ := full_facts h1
  by_cases h2 : s.size ≤ 32
  · cases h3 : PM.has s 47 with
    | true =>
      have hh : Hid (PM.comp s = false) := comp_false (.inr (.inl h3))
      have H47 : Hid (Calls Tryz.prog 143 #[.string s, .int .u8 47] w fun e w' => e = .returned (.bool true) ∧ w = w') := by
        have := contains_any s 47 47 rfl w hs
        rwa [h3] at this
      clear h3
      go_enter Tryz.func158, Tryz.ntmps158
      go_wp2_with (go_at_call 143; refine H47.out.mono ?_; rintro e w' ⟨rfl, rfl⟩)
      go_ret
      exact ⟨by rw [hh.out]; rfl, rfl⟩
    | false =>
      have H47 : Hid (Calls Tryz.prog 143 #[.string s, .int .u8 47] w fun e w' => e = .returned (.bool false) ∧ w = w') := by
        have := contains_any s 47 47 rfl w hs
        rwa [h3] at this
      have hh : Hid (PM.comp s = !PM.has s 0) := by
        cases h4 : PM.has s 0 with
        | true => exact comp_false (.inr (.inr h4))
        | false => exact comp_true (by omega) h2 h3 h4
      have H0 : Hid (Calls Tryz.prog 143 #[.string s, .int .u8 0] w fun e w' => e = .returned (.bool (PM.has s 0)) ∧ w = w') := contains_any s 0 0 rfl w hs
      clear h3
      go_enter Tryz.func158, Tryz.ntmps158
      go_wp2_with fail
      refine H47.out.mono ?_
      rintro e w' ⟨rfl, rfl⟩
      go_wp2_with fail
      refine H0.out.mono ?_
      rintro e w' ⟨rfl, rfl⟩
      go_wp2
      go_ret
      exact ⟨by rw [hh.out]; rfl, rfl⟩
  · have hh : Hid (PM.comp s = false) := comp_false (by omega)
    have h2' : 32 < s.size := by omega
    unfold maxLen at hs
    go_enter Tryz.func158, Tryz.ntmps158
    go_wp2_with fail
    go_ret
    exact ⟨by rw [hh.out]; rfl, rfl⟩
theorem list_inj {s t : ByteArray} (h : s.toList = t.toList) : s = t := by
  rw [ByteArray.toList_eq, ByteArray.toList_eq] at h
  rw [← PM.str_of s, ← PM.str_of t, h]
theorem dot_list : PM.dot.toList = [46] := by rw [ByteArray.toList_eq]; rfl
theorem dots_list : PM.dots.toList = [46, 46] := by rw [ByteArray.toList_eq]; rfl
theorem dot_yes {s : ByteArray} (h : s = PM.dot) : s.toList = [46] := by rw [h, dot_list]
theorem dots_yes {s : ByteArray} (h : s = PM.dots) : s.toList = [46, 46] := by rw [h, dots_list]
theorem dot_no {s : ByteArray} (h : s ≠ PM.dot) : (s.toList = [46]) = False ∧ (s.toList == [46]) = false := by
  have : s.toList ≠ [46] := fun e => h (list_inj (e.trans dot_list.symm))
  exact ⟨by simpa using this, by simpa using this⟩
theorem dots_no {s : ByteArray} (h : s ≠ PM.dots) : (s.toList = [46, 46]) = False ∧ (s.toList == [46, 46]) = false := by
  have : s.toList ≠ [46, 46] := fun e => h (list_inj (e.trans dots_list.symm))
  exact ⟨by simpa using this, by simpa using this⟩
theorem name_no {s : ByteArray} (h : PM.comp s = false ∨ s = PM.dot ∨ s = PM.dots) : PM.name s = false := by
  unfold PM.name
  rcases h with h | h | h <;> simp [h]
theorem name_yes {s : ByteArray} (h : PM.comp s = true) (h1 : s ≠ PM.dot) (h2 : s ≠ PM.dots) : PM.name s = true := by
  unfold PM.name; simp [h, h1, h2]
set_option maxRecDepth 100000 in
set_option maxHeartbeats 400000 in
theorem IsName_any (s : ByteArray) (w : World) (hs : s.size ≤ maxLen) :
    Calls Tryz.prog 93 #[.string s] w fun e w' => e = .returned (.bool (PM.name s)) ∧ w = w' := by
  cases h0 : PM.comp s with
  | true =>
    have H0 : Hid (Calls Tryz.prog 158 #[.string s] w fun e w' => e = .returned (.bool true) ∧ w = w') := by
      have := component_any s w hs
      rwa [h0] at this
    by_cases h1 : s = PM.dot
    · have hh : Hid (PM.name s = false) := name_no (.inr (.inl h1))
      have e1 := dot_yes h1
      clear h0 h1
      go_enter Tryz.func93, Tryz.ntmps93
      go_wp2_with fail
      refine H0.out.mono ?_
      rintro e w' ⟨rfl, rfl⟩
      go_wp2_with fail
      go_ret
      exact ⟨by rw [hh.out]; rfl, rfl⟩
    obtain ⟨e1, e2⟩ := dot_no h1
    by_cases h2 : s = PM.dots
    · have hh : Hid (PM.name s = false) := name_no (.inr (.inr h2))
      have e3 := dots_yes h2
      clear h0 h1 h2
      go_enter Tryz.func93, Tryz.ntmps93
      go_wp2_with fail
      refine H0.out.mono ?_
      rintro e w' ⟨rfl, rfl⟩
      go_wp2_with fail
      go_ret
      exact ⟨by rw [hh.out]; rfl, rfl⟩
    obtain ⟨e3, e4⟩ := dots_no h2
    have hh : Hid (PM.name s = true) := name_yes h0 h1 h2
    clear h0 h1 h2
    go_enter Tryz.func93, Tryz.ntmps93
    go_wp2_with fail
    refine H0.out.mono ?_
    rintro e w' ⟨rfl, rfl⟩
    go_wp2_with fail
    go_ret
    exact ⟨by rw [hh.out]; rfl, rfl⟩
  | false =>
    have H0 : Hid (Calls Tryz.prog 158 #[.string s] w fun e w' => e = .returned (.bool false) ∧ w = w') := by
      have := component_any s w hs
      rwa [h0] at this
    have hh : Hid (PM.name s = false) := name_no (.inl h0)
    clear h0
    go_enter Tryz.func93, Tryz.ntmps93
    go_wp2_with fail
    refine H0.out.mono ?_
    rintro e w' ⟨rfl, rfl⟩
    go_wp2_with fail
    go_ret
    exact ⟨by rw [hh.out]; rfl, rfl⟩
namespace Own
section
variable {w w' : World} {base e size n : Nat} {v : Value} {xs : List Value}
theorem ge (hown : w.ownsRow base e size v n xs) (g : Nat) (hg : v.ownBlock = some g) : base ≤ g := by
  rcases hown.2 with ⟨rfl, _⟩ | ⟨g', cap, cur, rfl, hb, _⟩
  · cases hg
  · cases hg; exact hb
theorem low {base' : Nat} (h : base' ≤ base) (hown : w.ownsRow base e size v n xs) : w.ownsRow base' e size v n xs := by
  rcases hown.2 with h0 | ⟨g, cap, cur, h1, h2, h3⟩
  · exact ⟨hown.1, .inl h0⟩
  · exact ⟨hown.1, .inr ⟨g, cap, cur, h1, Nat.le_trans h h2, h3⟩⟩
theorem form (h : w.ownsRow base e size v n xs) : ∃ ao cap, v = .slice ao n cap := by
  rcases h.2 with ⟨rfl, rfl⟩ | ⟨g, cap, cur, rfl, _⟩
  · exact ⟨_, _, rfl⟩
  · exact ⟨_, _, rfl⟩
theorem set (h : w.ownsRow base e size v n xs) {p : Addr} (hp : p.block < base) (u : Value) : (w.setCell p u).ownsRow base e size v n xs := by
  rcases h.2 with h0 | ⟨g, cap, cur, h1, h2, h3, h4⟩
  · exact ⟨h.1, .inl h0⟩
  · exact ⟨h.1, .inr ⟨g, cap, cur, h1, h2, (Below.heap_setCell w p u g (by omega)).trans h3, h4⟩⟩
theorem below (h : w.ownsRow base e size v n xs) (hb : Below w.heap.size w w') : w'.ownsRow base e size v n xs := by
  rcases h.2 with h0 | ⟨g, cap, cur, h1, h2, h3, h4⟩
  · exact ⟨h.1, .inl h0⟩
  · have hlt : g < w.heap.size := by
      rcases Nat.lt_or_ge g w.heap.size with hlt | hge
      · exact hlt
      · rw [Array.getElem?_eq_none hge] at h3; cases h3
    exact ⟨h.1, .inr ⟨g, cap, cur, h1, h2, (hb.block g hlt).trans h3, h4⟩⟩
theorem cut {ao : Option Addr} {cap : Nat} (h : w.ownsRow base e size (.slice ao n cap) n xs) {k : Nat} (hk : k ≤ n) : w.ownsRow base e size (.slice ao k cap) k (xs.take (k * size)) := by
  have hks : k * size ≤ n * size := Nat.mul_le_mul_right _ hk
  rcases h.2 with ⟨h', h''⟩ | ⟨g, cap', cur, h', hb, hg, hnc, hcm, hcs, htake⟩
  · simp only [Value.slice.injEq] at h'
    obtain ⟨rfl, rfl, rfl⟩ := h'
    obtain rfl : k = 0 := by omega
    rw [Nat.zero_mul, List.take_zero]
    exact World.ownsRow_nil _ _ _ _
  · simp only [Value.slice.injEq, true_and] at h'
    obtain ⟨rfl, rfl⟩ := h'
    refine ⟨by rw [List.length_take, h.1]; omega, .inr ⟨g, cap, cur, rfl, hb, hg, by omega, hcm, hcs, ?_⟩⟩
    rw [← htake, List.take_take, Nat.min_eq_left hks]
end
theorem undrew {w w' : World} {row : Option Nat} (h : w.drew.grownBy w' row) : w.grownBy w' row := ⟨h.os, h.tape, h.output, h.size, h.block⟩
theorem bundrew {B : Nat} {w w' : World} (h : Below B w.drew w') : Below B w w' := ⟨h.os, h.tape, h.output, h.size, h.block⟩
theorem cellg {w w' : World} {row : Option Nat} {p : Addr} {v : Value} (hg : w.grownBy w' row) (hc : w.cell? p = some v) (hp : some p.block ≠ row) : w'.cell? p = some v := by
  rw [World.cell?_of_block (w := w) (hg.block p.block (World.block_lt_of_cell? w _ hc) hp)]
  exact hc
end Own
end Go.Proofs.YtmnmheocmcmpmaaGreat

namespace Go.Proofs.YtmnmheocmcmpmaaGreat
set_option linter.unusedVariables false
set_option linter.unusedSimpArgs false
namespace EM
def fin (x : Int × ByteArray) : Int := x.1 + x.2.size
def ok : Int → List (Int × ByteArray) → Bool
  | _, [] => true
  | b, x :: r => decide (0 < x.2.size) && decide (b ≤ x.1) && decide (fin x ≤ 1048576) && ok (fin x + 1) r
def nxt : Int → List (Int × ByteArray) → Int
  | b, [] => b
  | _, x :: r => nxt (fin x + 1) r
def wk : Int → List (Int × ByteArray) → Prop
  | _, [] => True
  | b, x :: r => 0 < x.2.size ∧ b ≤ x.1 ∧ fin x ≤ 1048576 ∧ wk (fin x) r
def get (x : Int × ByteArray) (i : Int) : Option UInt8 := if x.1 ≤ i then x.2.data.toList[(i - x.1).toNat]? else none
def cont : List (Int × ByteArray) → Int → Option UInt8
  | [], _ => none
  | x :: r, i => (get x i).or (cont r i)
def piece (lo hi : Int) (x : Int × ByteArray) : Option (Int × ByteArray) :=
  if max x.1 lo < min (fin x) hi then some (max x.1 lo, x.2.extract (max x.1 lo - x.1).toNat (min (fin x) hi - x.1).toNat) else none
def part (lo hi : Int) (l : List (Int × ByteArray)) : List (Int × ByteArray) := l.filterMap (piece lo hi)
def put (out : List (Int × ByteArray)) (x : Int × ByteArray) : List (Int × ByteArray) :=
  match out.getLast? with
  | some y => if fin y = x.1 then out.dropLast ++ [(y.1, y.2 ++ x.2)] else out ++ [x]
  | none => [x]
def merge (l : List (Int × ByteArray)) : List (Int × ByteArray) := l.foldl put []
def wr (l : List (Int × ByteArray)) (f : Int) (d : ByteArray) : List (Int × ByteArray) :=
  merge (if d.size = 0 then l else part 0 f l ++ [(f, d)] ++ part (f + d.size) 1048576 l)
def rd (l : List (Int × ByteArray)) (f : Int) (m : Nat) : List UInt8 := (List.range m).map fun (i : Nat) => (cont l (f + (i : Int))).getD 0
def cnt (l : List (Int × ByteArray)) : Nat := (l.map fun x => x.2.size).sum
def cat (l : List (Int × ByteArray)) : List UInt8 := l.flatMap fun x => x.2.data.toList
/-! Bytes. -/
theorem list_size (s : ByteArray) : s.data.toList.length = s.size := Array.length_toList
theorem cut_list (s : ByteArray) (a b : Nat) : (s.extract a b).data.toList = (s.data.toList.take b).drop a := by
  rw [ByteArray.data_extract, Array.toList_extract, List.extract_eq_take_drop, List.drop_take]
theorem cut_size (s : ByteArray) (a b : Nat) (h : b ≤ s.size) : (s.extract a b).size = b - a := by
  rw [← list_size, cut_list, List.length_drop, List.length_take, list_size]; omega
/-! One extent. -/
theorem fin_pos (x : Int × ByteArray) : x.1 < fin x ↔ 0 < x.2.size := by unfold fin; omega
/-! Lists. -/
theorem ok_append (b : Int) (l m : List (Int × ByteArray)) : ok b (l ++ m) = (ok b l && ok (nxt b l) m) := by
  induction l generalizing b with
  | nil => simp [ok, nxt]
  | cons x r ih => simp only [List.cons_append, ok, nxt, ih, Bool.and_assoc]
theorem nxt_append (b : Int) (l m : List (Int × ByteArray)) : nxt b (l ++ m) = nxt (nxt b l) m := by
  induction l generalizing b with
  | nil => rfl
  | cons x r ih => simp only [List.cons_append, nxt, ih]
theorem nxt_snoc (b : Int) (l : List (Int × ByteArray)) (x : Int × ByteArray) : nxt b (l ++ [x]) = fin x + 1 := by rw [nxt_append]; rfl
theorem ok_cons {b : Int} {x : Int × ByteArray} {r : List (Int × ByteArray)} : ok b (x :: r) = true ↔ 0 < x.2.size ∧ b ≤ x.1 ∧ fin x ≤ 1048576 ∧ ok (fin x + 1) r = true := by
  simp only [ok, Bool.and_eq_true, decide_eq_true_eq, and_assoc]
theorem ok_le {b c : Int} {l : List (Int × ByteArray)} (h : ok b l = true) (hc : c ≤ b) : ok c l = true := by
  cases l with
  | nil => rfl
  | cons x r =>
    rw [ok_cons] at h ⊢
    exact ⟨h.1, by omega, h.2.2⟩
theorem ok_wk {b : Int} {l : List (Int × ByteArray)} (h : ok b l = true) : wk b l := by
  induction l generalizing b with
  | nil => trivial
  | cons x r ih =>
    rw [ok_cons] at h
    exact ⟨h.1, h.2.1, h.2.2.1, ih (ok_le h.2.2.2 (by omega))⟩
/-! Where nothing stands. -/
/-! A list is its bytes. -/
/-! Pieces made one list. -/
/-! A write. -/
/-! A read. -/
/-! Totals. -/
theorem cnt_nil : cnt [] = 0 := rfl
theorem cnt_append (a b : List (Int × ByteArray)) : cnt (a ++ b) = cnt a + cnt b := by simp [cnt]
theorem cnt_one (x : Int × ByteArray) : cnt [x] = x.2.size := by simp [cnt]
theorem cnt_cons (x : Int × ByteArray) (r : List (Int × ByteArray)) : cnt (x :: r) = x.2.size + cnt r := by simp [cnt]
theorem cnt_take (l : List (Int × ByteArray)) (k : Nat) : cnt (l.take k) ≤ cnt l := by
  have := cnt_append (l.take k) (l.drop k)
  rw [List.take_append_drop] at this; omega
theorem wk_cnt {b : Int} {l : List (Int × ByteArray)} (h : wk b l) (hb : b ≤ 1048576) : (cnt l : Int) ≤ 1048576 - b ∧ l.length ≤ cnt l := by
  induction l generalizing b with
  | nil => exact ⟨by rw [cnt_nil]; omega, Nat.le_refl _⟩
  | cons x r ih =>
    obtain ⟨h0, h1, h2, h3⟩ := h
    have := ih h3 h2
    have hf : fin x = x.1 + x.2.size := rfl
    rw [cnt_cons, List.length_cons]
    omega
theorem take_snoc {α : Type} (l : List α) (k : Nat) (h : k < l.length) : l.take (k + 1) = l.take k ++ [l[k]] := by
  rw [List.take_succ_eq_append_getElem h]
theorem ok_at {b : Int} {l : List (Int × ByteArray)} (h : ok b l = true) (k : Nat) (hk : k < l.length) : ok b (l.take k) = true ∧ 0 < l[k].2.size ∧ nxt b (l.take k) ≤ l[k].1 ∧ fin l[k] ≤ 1048576 := by
  have e : l = l.take k ++ l[k] :: l.drop (k + 1) := by rw [← List.drop_eq_getElem_cons hk, List.take_append_drop]
  rw [e, ok_append, Bool.and_eq_true, ok_cons] at h
  exact ⟨h.1, h.2.1, h.2.2.1, h.2.2.2.1⟩
theorem ok_no {b : Int} {l : List (Int × ByteArray)} (k : Nat) (hk : k < l.length) (h : l[k].2.size = 0 ∨ l[k].1 < nxt b (l.take k) ∨ 1048576 < fin l[k]) : ok b l = false := by
  rw [← Bool.not_eq_true]
  intro hok
  obtain ⟨-, h1, h2, h3⟩ := ok_at hok k hk
  omega
theorem ok_next {b : Int} {l : List (Int × ByteArray)} (k : Nat) (hk : k < l.length) (h : ok b (l.take k) = true) (h1 : 0 < l[k].2.size) (h2 : nxt b (l.take k) ≤ l[k].1) (h3 : fin l[k] ≤ 1048576) : ok b (l.take (k + 1)) = true ∧ nxt b (l.take (k + 1)) = fin l[k] + 1 := by
  rw [take_snoc l k hk, nxt_snoc, ok_append, Bool.and_eq_true, ok_cons]
  exact ⟨⟨h, h1, h2, h3, rfl⟩, rfl⟩
theorem nxt_le {b : Int} {l : List (Int × ByteArray)} (h : ok b l = true) (hb : b ≤ 1048577) : b ≤ nxt b l ∧ nxt b l ≤ 1048577 := by
  induction l generalizing b with
  | nil => exact ⟨Int.le_refl _, hb⟩
  | cons x r ih =>
    rw [ok_cons] at h
    have := ih h.2.2.2 (by omega)
    have := (fin_pos x).2 h.1
    show b ≤ nxt (fin x + 1) r ∧ nxt (fin x + 1) r ≤ 1048577
    omega
theorem part_length (lo hi : Int) (l : List (Int × ByteArray)) : (part lo hi l).length ≤ l.length := List.length_filterMap_le _ _
end EM
end Go.Proofs.YtmnmheocmcmpmaaGreat

namespace Go.Proofs.YtmnmheocmcmpmaaGreat
open Go.ChangeShapes Go.WideShapes Go.ChangeAt Go.RowKit
set_option linter.unusedVariables false
set_option linter.unusedSimpArgs false
def ecl (l : List (Int × ByteArray)) : List Value := l.flatMap fun x => [Value.int .i64 x.1, Value.string x.2]
theorem ecl_cons (x : Int × ByteArray) (r : List (Int × ByteArray)) : ecl (x :: r) = .int .i64 x.1 :: .string x.2 :: ecl r := by simp [ecl]
theorem ecl_length (l : List (Int × ByteArray)) : (ecl l).length = l.length * 2 := by
  induction l with
  | nil => rfl
  | cons x r ih => rw [ecl_cons]; simp only [List.length_cons, ih]; omega
theorem ecl_get (l : List (Int × ByteArray)) (j : Nat) (h : j < l.length) : (ecl l)[j * 2]? = some (.int .i64 l[j].1) ∧ (ecl l)[j * 2 + 1]? = some (.string l[j].2) := by
  induction l generalizing j with
  | nil => simp at h
  | cons x r ih =>
    cases j with
    | zero => rw [ecl_cons]; exact ⟨rfl, rfl⟩
    | succ j =>
      have := ih j (by simpa using h)
      rw [Nat.succ_mul, ecl_cons]
      exact this
def XS (w : World) (ao : Option Addr) (n cap : Nat) (l : List (Int × ByteArray)) : Prop :=
  l.length = n ∧ n ≤ cap ∧ cap ≤ maxLen ∧ (ao = none → cap = 0) ∧ ∀ a, ao = some a → ∀ j u, (ecl l)[j]? = some u → w.cell? (a.add j) = some u
section
variable {w w' : World} {ao : Option Addr} {n cap : Nat} {l : List (Int × ByteArray)}
theorem XS.below (h : XS w ao n cap l) {B : Nat} (hb : Below B w w') (hB : w.heap.size ≤ B) : XS w' ao n cap l := by
  refine ⟨h.1, h.2.1, h.2.2.1, h.2.2.2.1, fun a ha j u hu => ?_⟩
  have hc := h.2.2.2.2 a ha j u hu
  rw [hb.cell (Nat.lt_of_lt_of_le (World.block_lt_of_cell? w _ hc) hB)]
  exact hc
theorem XS.nil (w : World) : XS w none 0 0 [] := ⟨rfl, Nat.le_refl _, Nat.zero_le _, fun _ => rfl, fun _ h => by cases h⟩
theorem XS.alloc (h : XS w ao n cap l) (o : Obj) : XS (w.alloc o) ao n cap l := h.below (Below.alloc (Below.refl _ _) (Nat.le_refl _) o) (Nat.le_refl _)
theorem XS_own {base e : Nat} (h : w.ownsRow base e 2 (.slice ao n cap) n (ecl l)) : XS w ao n cap l := by
  have hl : l.length = n := by have := h.1; rw [ecl_length] at this; omega
  rcases h.2 with ⟨h', h''⟩ | ⟨g', cap', cur, h', hb, hg, hnc, hcm, _⟩
  · simp only [Value.slice.injEq] at h'
    obtain ⟨rfl, rfl, rfl⟩ := h'
    obtain rfl := List.eq_nil_of_length_eq_zero hl
    exact XS.nil w
  · simp only [Value.slice.injEq, true_and] at h'
    obtain ⟨rfl, rfl⟩ := h'
    refine ⟨hl, hnc, hcm, (fun h => by cases h), fun a ha j u hu => ?_⟩
    obtain rfl := Option.some.inj ha
    exact h.cells (g := g') rfl j u hu
theorem XS.at_ (h : XS w ao n cap l) (hn : 0 < n) : ∃ blk off, ao = some ⟨blk, off, none⟩ ∧ ∀ j, (hj : j < n) → w.cell? ⟨blk, off + j * 2, none⟩ = some (.int .i64 (l[j]'(by rw [h.1]; exact hj)).1) ∧ w.cell? ⟨blk, off + j * 2 + 1, none⟩ = some (.string (l[j]'(by rw [h.1]; exact hj)).2) := by
  obtain ⟨hl, h1, h2, h3, h4⟩ := h
  cases ao with
  | none => have := h3 rfl; omega
  | some a =>
    have hcell : ∀ j, (hj : j < n) → w.cell? (a.add (j * 2)) = some (.int .i64 (l[j]'(by rw [hl]; exact hj)).1) ∧ w.cell? (a.add (j * 2 + 1)) = some (.string (l[j]'(by rw [hl]; exact hj)).2) := fun j hj => by
      obtain ⟨e1, e2⟩ := ecl_get l j (by rw [hl]; exact hj)
      exact ⟨h4 a rfl _ _ e1, h4 a rfl _ _ e2⟩
    obtain ⟨b, off, spot⟩ := a
    have h0 := (hcell 0 hn).1
    have hs : spot = none := by simpa [Addr.add] using World.cell?_spot h0
    subst hs
    exact ⟨b, off, rfl, fun j hj => by have := hcell j hj; rwa [Addr.add_lit, Addr.add_lit, ← Nat.add_assoc] at this⟩
end
def XB (w : World) (g : Nat) (x : Int × ByteArray) : Prop := w.heap[g]? = some (.cells #[.int .i64 x.1, .string x.2] 245 (0, 0))
section
variable {w w' : World} {g : Nat} {x : Int × ByteArray}
theorem XB.c0 (h : XB w g x) : w.cell? ⟨g, 0, none⟩ = some (.int .i64 x.1) := by rw [cell_of_row w g 0 _ _ _ h]; rfl
theorem XB.c1 (h : XB w g x) : w.cell? ⟨g, 1, none⟩ = some (.string x.2) := by rw [cell_of_row w g 1 _ _ _ h]; rfl
theorem XB.lt (h : XB w g x) : g < w.heap.size := by
  rcases Nat.lt_or_ge g w.heap.size with hlt | hge
  · exact hlt
  · unfold XB at h; rw [Array.getElem?_eq_none hge] at h; cases h
theorem XB.below {B : Nat} (h : XB w g x) (hb : Below B w w') (hg : g < B) : XB w' g x := (hb.block g hg).trans h
theorem XB.alloc (h : XB w g x) (o : Obj) : XB (w.alloc o) g x := (Below.heap_alloc w o g h.lt).trans h
theorem XB.grown {row : Option Nat} (h : XB w g x) (hb : w.grownBy w' row) (hg : some g ≠ row) : XB w' g x := (hb.block g h.lt hg).trans h
theorem XB.new {y : Nat} (w : World) (a : Int) (d : ByteArray) (hx : y = w.heap.size) : XB (w.alloc (.cells #[.int .i64 a, .string d] 245)) y (a, d) := by subst hx; exact heap_alloc_new w _
end
def I64 (a : Int) : Prop := -9223372036854775808 ≤ a ∧ a ≤ 9223372036854775807
set_option maxRecDepth 100000 in
set_option maxHeartbeats 400000 in
theorem end_any (a : Int) (d : ByteArray) (w : World) (h1 : -9223372036854775808 ≤ a) (h2 : a + d.size ≤ 9223372036854775807) :
    Calls Tryz.prog 208 #[.agg #[.int .i64 a, .string d]] w fun e w' => e = .returned (.int .i64 (a + d.size)) ∧ Below w.heap.size w w' := by
  have bb : Below w.heap.size w (w.alloc (.cells #[.int .i64 a, .string d] 245)) := (Below.refl _ _).alloc (Nat.le_refl _) _
  go_enter Tryz.func208, Tryz.ntmps208
  go_wp2_with fail
  go_ret
  exact ⟨rfl, bb⟩
set_option maxRecDepth 100000 in
set_option maxHeartbeats 400000 in
theorem fits_any (a : Int) (d : ByteArray) (w : World) (h1 : I64 a) (h2 : d.size ≤ maxLen) :
    Calls Tryz.prog 205 #[.int .i64 a, .string d] w fun e w' => e = .returned (.bool (decide (a + d.size ≤ 1048576))) ∧ w = w' := by
  obtain ⟨h3, h4⟩ := h1
  unfold maxLen at h2
  go_enter Tryz.func205, Tryz.ntmps205
  go_wp2_with fail
  go_ret
  exact ⟨ret_bool (decide_eq_decide.2 (by omega)), rfl⟩
theorem xempty {s : ByteArray} (h : s.size = 0) : s.toList = [] ∧ s.toList.isEmpty = true := by
  have : s.data.toList = [] := List.eq_nil_of_length_eq_zero (by rw [EM.list_size]; exact h)
  rw [ByteArray.toList_eq, this]; exact ⟨rfl, rfl⟩
theorem xfull {s : ByteArray} (h : s.size ≠ 0) : (s.toList = []) = False ∧ s.toList.isEmpty = false := by
  have hl := EM.list_size s
  rw [ByteArray.toList_eq]
  cases he : s.data.toList with
  | nil => rw [he] at hl; exact absurd hl.symm h
  | cons c r => exact ⟨by simp, rfl⟩
def XFit (l : List (Int × ByteArray)) : Prop := ∀ x ∈ l, I64 x.1 ∧ x.2.size ≤ maxLen
set_option maxRecDepth 100000 in
set_option maxHeartbeats 1000000 in
theorem xvalid_any (ao : Option Addr) (n cap : Nat) (l : List (Int × ByteArray)) (w : World) (h : XS w ao n cap l) (hf : XFit l) :
    Calls Tryz.prog 204 #[.slice ao n cap] w fun e w' => e = .returned (.bool (EM.ok 0 l)) ∧ Below w.heap.size w w' := by
  have hn : n ≤ 9223372036854775807 := by have := h.2.1; have := h.2.2.1; unfold maxLen at *; omega
  have L := W_hid h.1
  have hfit := W_hid hf
  have hno := W_hid (fun k hk h => @EM.ok_no 0 l k hk h)
  have hgo := W_hid (fun k hk h => @EM.ok_next 0 l k hk h)
  have hle := W_hid (fun k (h : EM.ok 0 (l.take k) = true) => EM.nxt_le h (by decide))
  have H := W_hid h
  clear h hf
  go_enter Tryz.func204, Tryz.ntmps204
  go_wp2_with fail
  go_loopw [3, 8] (fun f i wr => ∃ (k : Nat) (b : Int), k ≤ n ∧ i = .int .i64 k ∧ f = .int .i64 b ∧ Hid (EM.ok 0 (l.take k) = true ∧ EM.nxt 0 (l.take k) = b) ∧ Below w.heap.size w wr) (fun _ i _ => n - (intOf i).toNat)
  case atStart => exact ⟨0, 0, Nat.zero_le _, rfl, rfl, W_hid ⟨rfl, rfl⟩, Below.refl _ _⟩
  case round =>
    obtain ⟨k, b, hk, rfl, rfl, hok, bel⟩ := hrel
    obtain ⟨hb0, hb1⟩ : 0 ≤ b ∧ b ≤ 1048577 := by have := hle.out k hok.out.1; rw [hok.out.2] at this; exact this
    by_cases hlt : k < n
    · obtain ⟨b1, o1, rfl, g1⟩ := (H.out.below bel (Nat.le_refl _)).at_ (by omega)
      have k1 : k < l.length := by rw [L.out]; exact hlt
      obtain ⟨e1, e2⟩ := g1 k hlt
      have hft := hfit.out l[k] (List.getElem_mem k1)
      have hno := W_hid (hno.out k k1)
      have hgo := W_hid (hgo.out k k1)
      obtain ⟨⟨a, d⟩, hx⟩ : ∃ x, l[k] = x := ⟨_, rfl⟩
      simp only [hx] at e1 e2 hft hno hgo
      obtain ⟨⟨ha1, ha2⟩, hd⟩ := hft
      clear hx g1 k1
      by_cases h0 : d.size = 0
      · obtain ⟨s1, s2⟩ := xempty h0
        have hh : Hid (EM.ok 0 l = false) := hno.out (.inl h0)
        clear hno hgo h0
        go_wp2_with fail
        go_ret
        exact ⟨ret_bool hh.out.symm, bel.alloc bel.size _⟩
      obtain ⟨s1, s2⟩ := xfull h0
      by_cases h1 : a < b
      · have hh : Hid (EM.ok 0 l = false) := hno.out (.inr (.inl (by rw [hok.out.2]; exact h1)))
        clear hno hgo h0
        go_wp2_with fail
        go_ret
        exact ⟨ret_bool hh.out.symm, bel.alloc bel.size _⟩
      by_cases h2 : a + d.size ≤ 1048576
      · have hc : Hid (∀ w, Calls Tryz.prog 205 #[.int .i64 a, .string d] w fun e w' => e = .returned (.bool true) ∧ w = w') := by
          intro w
          have := fits_any a d w ⟨ha1, ha2⟩ hd
          rwa [decide_eq_true h2] at this
        have hend := W_hid (fun w => end_any a d w ha1 (by omega))
        have hnx := W_hid (hgo.out hok.out.1 (by omega) (by rw [hok.out.2]; show b ≤ a; omega) h2)
        clear hno hgo h0
        go_wp2_with fail
        refine (hc.out _).mono ?_
        rintro e w' ⟨rfl, rfl⟩
        go_wp2_with fail
        refine (hend.out _).mono ?_
        rintro e w2 ⟨rfl, bel2⟩
        have bel3 := bel.alloc bel.size (.cells #[.int .i64 a, .string d] 245)
        go_wp2_with fail
        go_roundw
        case rel => exact ⟨k + 1, a + d.size + 1, by omega, by go_num, rfl, hnx, bel3.trans (bel2.mono bel3.size)⟩
        case measure => simp [intOf]; omega
      · have hc : Hid (∀ w, Calls Tryz.prog 205 #[.int .i64 a, .string d] w fun e w' => e = .returned (.bool false) ∧ w = w') := by
          intro w
          have := fits_any a d w ⟨ha1, ha2⟩ hd
          rwa [decide_eq_false h2] at this
        have hh : Hid (EM.ok 0 l = false) := hno.out (.inr (.inr (by show (1048576 : Int) < a + d.size; omega)))
        clear hno hgo h0
        go_wp2_with fail
        refine (hc.out _).mono ?_
        rintro e w' ⟨rfl, rfl⟩
        go_wp2_with fail
        go_ret
        exact ⟨ret_bool hh.out.symm, bel.alloc bel.size _⟩
    · obtain rfl : k = n := by omega
      have hh : Hid (EM.ok 0 l = true) := by
        have := hok.out.1
        rwa [List.take_of_length_le (by rw [L.out]; exact Nat.le_refl _)] at this
      clear hok hno hgo
      go_wp2_with fail
      go_ret
      exact ⟨ret_bool hh.out.symm, bel⟩
set_option maxRecDepth 100000 in
set_option maxHeartbeats 1000000 in
theorem count_any (ao : Option Addr) (n cap : Nat) (l : List (Int × ByteArray)) (w : World) (h : XS w ao n cap l) (hc : EM.cnt l ≤ 4611686018427387904) :
    Calls Tryz.prog 223 #[.slice ao n cap] w fun e w' => e = .returned (.int .i64 (EM.cnt l)) ∧ Below w.heap.size w w' := by
  have hn : n ≤ 9223372036854775807 := by have := h.2.1; have := h.2.2.1; unfold maxLen at *; omega
  have L := W_hid h.1
  have H := W_hid h
  have hle := W_hid (fun k => Nat.le_trans (EM.cnt_take l k) hc)
  clear h hc
  go_enter Tryz.func223, Tryz.ntmps223
  go_wp2_with fail
  go_loopw [3, 8] (fun f i wr => ∃ (k b : Nat), k ≤ n ∧ i = .int .i64 k ∧ f = .int .i64 b ∧ Hid (EM.cnt (l.take k) = b) ∧ Below w.heap.size w wr) (fun _ i _ => n - (intOf i).toNat)
  case atStart => exact ⟨0, 0, Nat.zero_le _, rfl, rfl, W_hid rfl, Below.refl _ _⟩
  case round =>
    obtain ⟨k, b, hk, rfl, rfl, hok, bel⟩ := hrel
    by_cases hlt : k < n
    · obtain ⟨b1, o1, rfl, g1⟩ := (H.out.below bel (Nat.le_refl _)).at_ (by omega)
      have k1 : k < l.length := by rw [L.out]; exact hlt
      obtain ⟨e1, e2⟩ := g1 k hlt
      have hnext : Hid (EM.cnt (l.take (k + 1)) = b + l[k].2.size) := by
        show _ = _
        rw [EM.take_snoc l k k1, EM.cnt_append, EM.cnt_one, hok.out]
      have hbb : b + l[k].2.size ≤ 4611686018427387904 := by rw [← hnext.out]; exact hle.out _
      obtain ⟨⟨a, d⟩, hx⟩ : ∃ x, l[k] = x := ⟨_, rfl⟩
      simp only [hx] at e1 e2 hnext hbb
      clear hx g1 k1 hok
      have bel3 := bel.alloc bel.size (.cells #[.int .i64 a, .string d] 245)
      go_wp2_with fail
      go_roundw
      case rel => exact ⟨k + 1, b + d.size, by omega, by go_num, by go_num, hnext, bel3⟩
      case measure => simp [intOf]; omega
    · obtain rfl : k = n := by omega
      have hh : Hid (EM.cnt l = b) := by
        have := hok.out
        rwa [List.take_of_length_le (by rw [L.out]; exact Nat.le_refl _)] at this
      clear hok
      go_wp2_with fail
      go_ret
      exact ⟨ret_int (by rw [hh.out]), bel⟩
def ends : List (Int × ByteArray) → Int
  | [] => 0
  | x :: r => EM.nxt 0 (x :: r) - 1
theorem ok_nums {l : List (Int × ByteArray)} (h : EM.ok 0 l = true) : l.length ≤ 1048576 ∧ EM.cnt l ≤ 1048576 := by
  have := EM.wk_cnt (EM.ok_wk h) (by decide)
  omega
def BR (w : World) (g : Nat) (bs : List UInt8) : Prop := w.heap[g]? = some (.cells (cel bs).toArray 5 (0, 0))
section
variable {w w' : World} {g : Nat} {bs : List UInt8}
theorem BR.lt (h : BR w g bs) : g < w.heap.size := by
  rcases Nat.lt_or_ge g w.heap.size with hlt | hge
  · exact hlt
  · unfold BR at h; rw [Array.getElem?_eq_none hge] at h; cases h
theorem BR.below {B : Nat} (h : BR w g bs) (hb : Below B w w') (hg : g < B) : BR w' g bs := (hb.block g hg).trans h
theorem BR.alloc (h : BR w g bs) (o : Obj) : BR (w.alloc o) g bs := (Below.heap_alloc w o g h.lt).trans h
theorem BR.reads (h : BR w g bs) (hm : bs.length ≤ maxLen) : BS w (some ⟨g, 0, none⟩) bs.length bs.length bs := by
  refine ⟨rfl, Nat.le_refl _, hm, (fun h => by cases h), fun a ha j u hu => ?_⟩
  obtain rfl := Option.some.inj ha
  rw [Addr.add_lit, cell_of_row w g _ _ _ _ h]
  simpa using hu
theorem BR.made (N : Nat) {base : Nat} {w : World} (h : w.ownsRow base 5 1 (.slice (some ⟨g, 0, none⟩) N N) N (madeCells (Value.int .u8 0).cells (N * 1)).toList) : BR w g (List.replicate N 0) := by
  rcases h.2 with ⟨h', _⟩ | ⟨g', cap', cur, h', hb, hg, hnc, hcm, hcs, htake⟩
  · simp at h'
  · simp only [Value.slice.injEq, Option.some.injEq, Addr.mk.injEq, and_true, true_and] at h'
    obtain ⟨rfl, rfl⟩ := h'
    unfold BR
    rw [hg]
    congr 2
    rw [Nat.mul_one] at htake hcs
    rw [List.take_of_length_le (by rw [Array.length_toList]; omega)] at htake
    apply Array.toList_inj.1
    rw [htake]
    refine (toList_madeCells_one _ _).trans ?_
    simp [cel]
end
def LS (w : World) (ao : Option Addr) (n cap : Nat) (ls : List (Value × List (Int × ByteArray))) : Prop :=
  ls.length = n ∧ n ≤ cap ∧ cap ≤ maxLen ∧ (ao = none → cap = 0) ∧ (∀ a, ao = some a → ∀ j u, ls[j]? = some u → w.cell? (a.add j) = some u.1) ∧ ∀ p ∈ ls, ∃ ao n c, p.1 = .slice ao n c ∧ XS w ao n c p.2
section
variable {w w' : World} {ao : Option Addr} {n cap : Nat} {ls : List (Value × List (Int × ByteArray))}
theorem LS.below (h : LS w ao n cap ls) {B : Nat} (hb : Below B w w') (hB : w.heap.size ≤ B) : LS w' ao n cap ls := by
  refine ⟨h.1, h.2.1, h.2.2.1, h.2.2.2.1, fun a ha j u hu => ?_, fun p hp => ?_⟩
  · have hc := h.2.2.2.2.1 a ha j u hu
    rw [hb.cell (Nat.lt_of_lt_of_le (World.block_lt_of_cell? w _ hc) hB)]
    exact hc
  · obtain ⟨a, n, c, h1, h2⟩ := h.2.2.2.2.2 p hp
    exact ⟨a, n, c, h1, h2.below hb hB⟩
theorem LS.at_ (h : LS w ao n cap ls) (hn : 0 < n) : ∃ blk off, ao = some ⟨blk, off, none⟩ ∧ ∀ j, (hj : j < n) → w.cell? ⟨blk, off + j, none⟩ = some (ls[j]'(by rw [h.1]; exact hj)).1 := by
  obtain ⟨hl, h1, h2, h3, h4, h5⟩ := h
  cases ao with
  | none => have := h3 rfl; omega
  | some a =>
    have hcell : ∀ j, (hj : j < n) → w.cell? (a.add j) = some (ls[j]'(by rw [hl]; exact hj)).1 := fun j hj => h4 a rfl j _ (List.getElem?_eq_getElem (by rw [hl]; exact hj))
    obtain ⟨b, off, spot⟩ := a
    have h0 := hcell 0 hn
    have hs : spot = none := by simpa [Addr.add] using World.cell?_spot h0
    subst hs
    exact ⟨b, off, rfl, fun j hj => by have := hcell j hj; rwa [Addr.add_lit] at this⟩
end
def alls (ls : List (Value × List (Int × ByteArray))) : List (Int × ByteArray) := ls.flatMap (·.2)
def stV (l : List (Int × ByteArray)) : Int := if EM.ok 0 l = true then (EM.cnt l : Int) else 0
def stE (l : List (Int × ByteArray)) : Int := if EM.ok 0 l = true then 0 else 2
set_option maxRecDepth 100000 in
set_option maxHeartbeats 1000000 in
theorem Stored_any (ao : Option Addr) (n cap : Nat) (l : List (Int × ByteArray)) (w : World) (h : XS w ao n cap l) (hf : XFit l) :
    Calls Tryz.prog 190 #[.slice ao n cap] w fun e w' => e = .returned (.tuple #[.int .i64 (stV l), .int .i64 (stE l)]) ∧ Below w.heap.size w w' := by
  have hval := xvalid_any ao n cap l w h hf
  have H := W_hid h
  cases hv : EM.ok 0 l with
  | false =>
    have e1 : Hid (stV l = 0 ∧ stE l = 2) := by unfold stV stE; rw [hv]; exact ⟨rfl, rfl⟩
    rw [hv] at hval
    have hval := W_hid hval
    clear hv h
    go_enter Tryz.func190, Tryz.ntmps190
    go_wp2_with fail
    refine hval.out.mono ?_
    rintro e w1 ⟨rfl, bel1⟩
    go_wp2_with fail
    go_ret2
    exact ⟨by rw [e1.out.1, e1.out.2]; rfl, bel1⟩
  | true =>
    have e1 : Hid (stV l = EM.cnt l ∧ stE l = 0) := by unfold stV stE; rw [hv]; exact ⟨rfl, rfl⟩
    have hc := W_hid (fun w h => count_any ao n cap l w h (by have := (ok_nums hv).2; omega))
    rw [hv] at hval
    have hval := W_hid hval
    clear hv h
    go_enter Tryz.func190, Tryz.ntmps190
    go_wp2_with fail
    refine hval.out.mono ?_
    rintro e w1 ⟨rfl, bel1⟩
    go_wp2_with fail
    refine (hc.out _ (H.out.below bel1 (Nat.le_refl _))).mono ?_
    rintro e w2 ⟨rfl, bel2⟩
    go_wp2_with fail
    go_ret2
    exact ⟨by rw [e1.out.1, e1.out.2]; rfl, bel1.trans (bel2.mono bel1.size)⟩
def Gave (L : List (Int × ByteArray)) (E : Int) (w : World) (e : Ending) (w' : World) : Prop := ∃ v, e = .returned (.tuple #[v, .int .i64 E]) ∧
      w'.ownsRow w.heap.size 245 2 v L.length (ecl L) ∧ Below w.heap.size w w'
def ctL (l : List (Int × ByteArray)) (s : Int) : List (Int × ByteArray) := if EM.ok 0 l = true ∧ 0 ≤ s then EM.part 0 s l else []
def ctE (l : List (Int × ByteArray)) (s : Int) : Int := if EM.ok 0 l = true ∧ 0 ≤ s then 0 else 2
def wrE (l : List (Int × ByteArray)) (f : Int) (d : ByteArray) : Int := if EM.ok 0 l = true ∧ 0 ≤ f then (if f + d.size ≤ 1048576 then 0 else 28) else 2
def wrL (l : List (Int × ByteArray)) (f : Int) (d : ByteArray) : List (Int × ByteArray) := if wrE l f d = 0 then EM.wr l f d else []
def XV (w : World) (v : Value) (l : List (Int × ByteArray)) : Prop := ∃ ao n c, v = .slice ao n c ∧ XS w ao n c l
theorem XV.alloc {w : World} {v : Value} {l : List (Int × ByteArray)} (h : XV w v l) (o : Obj) : XV (w.alloc o) v l := by
  obtain ⟨a, n, c, h1, h2⟩ := h
  exact ⟨a, n, c, h1, h2.alloc o⟩
theorem XV.below {w w' : World} {v : Value} {l : List (Int × ByteArray)} (h : XV w v l) (hb : Below w.heap.size w w') : XV w' v l := by
  obtain ⟨a, n, c, h1, h2⟩ := h
  exact ⟨a, n, c, h1, h2.below hb (Nat.le_refl _)⟩
theorem XV.drew {w : World} {v : Value} {l : List (Int × ByteArray)} (h : XV w v l) : XV w.drew v l := h
end Go.Proofs.YtmnmheocmcmpmaaGreat

namespace Go.Proofs.YtmnmheocmcmpmaaGreat
open Go.ChangeShapes Go.WideShapes Go.ChangeAt Go.RowKit Go.Maps
set_option linter.unusedVariables false
set_option linter.unusedSimpArgs false
namespace IN
structure Nd where
  kind : Int
  links : Int
  opens : Int
  size : Int
  l : List (Int × ByteArray)
def upd (S : Int → Option Nd) (n : Int) (x : Option Nd) : Int → Option Nd := fun m => if m = n then x else S m
theorem upd_at (S : Int → Option Nd) (n : Int) (x : Option Nd) : upd S n x n = x := if_pos rfl
theorem upd_ne {S : Int → Option Nd} {n m : Int} {x : Option Nd} (h : m ≠ n) : upd S n x m = S m := if_neg h
theorem upd_upd (S : Int → Option Nd) (n : Int) (x y : Option Nd) : upd (upd S n x) n y = upd S n y := by
  funext m; unfold upd; split <;> rfl
structure Keeps (B : Nat) (T : Nat → Obj → Prop) (w w' : World) : Prop where
  os : w'.os = w.os
  tape : w'.tape = w.tape
  output : w'.output = w.output
  size : w.heap.size ≤ w'.heap.size
  low : ∀ (k : Nat), k < B → w'.heap[k]? = w.heap[k]?
  block : ∀ (k : Nat) (o : Obj), w.heap[k]? = some o → ¬ T k o → w'.heap[k]? = some o
section
variable {w w' w2 : World} {B : Nat} {T : Nat → Obj → Prop}
theorem Keeps.refl (B : Nat) (T : Nat → Obj → Prop) (w : World) : Keeps B T w w := ⟨rfl, rfl, rfl, Nat.le_refl _, fun _ _ => rfl, fun _ _ h _ => h⟩
theorem Keeps.trans (h : Keeps B T w w') (k : Keeps B T w' w2) : Keeps B T w w2 :=
  ⟨k.os.trans h.os, k.tape.trans h.tape, k.output.trans h.output, Nat.le_trans h.size k.size, fun i hi => (k.low i hi).trans (h.low i hi), fun i o ho hT => k.block i o (h.block i o ho hT) hT⟩
theorem lt_of_some {w : World} {k : Nat} {o : Obj} (h : w.heap[k]? = some o) : k < w.heap.size := by
  rcases Nat.lt_or_ge k w.heap.size with hlt | hge
  · exact hlt
  · rw [Array.getElem?_eq_none hge] at h; cases h
theorem Keeps.of {C : Nat} (h : Below C w w') (hB : B ≤ C) (hC : w.heap.size ≤ C) : Keeps B T w w' :=
  ⟨h.os, h.tape, h.output, h.size, fun k hk => h.block k (by omega), fun k o ho _ => (h.block k (Nat.lt_of_lt_of_le (lt_of_some ho) hC)).trans ho⟩
theorem Keeps.new (h : Below w.heap.size w w') (hB : B ≤ w.heap.size) : Keeps B T w w' := Keeps.of h hB (Nat.le_refl _)
theorem Keeps.drew (h : Keeps B T w w') (n : Nat) : Keeps B T w (w'.drewN n) := ⟨h.os, h.tape, h.output, h.size, h.low, h.block⟩
theorem Keeps.drew1 (h : Keeps B T w w') : Keeps B T w w'.drew := ⟨h.os, h.tape, h.output, h.size, h.low, h.block⟩
theorem Keeps.undrew (h : Keeps B T w.drew w') : Keeps B T w w' := ⟨h.os, h.tape, h.output, h.size, h.low, h.block⟩
theorem Keeps.alloc (h : Keeps B T w w') (hB : B ≤ w.heap.size) (o : Obj) : Keeps B T w (w'.alloc o) :=
  h.trans (Keeps.new ((Below.refl _ _).alloc (Nat.le_refl _) o) (Nat.le_trans hB h.size))
theorem Keeps.setCell (h : Keeps B T w w') {p : Addr} {o : Obj} (ho : w'.heap[p.block]? = some o) (hT : T p.block o) (hB : B ≤ p.block) (u : Value) : Keeps B T w (w'.setCell p u) :=
  h.trans ⟨rfl, rfl, rfl, by simp [World.setCell], fun k hk => Below.heap_setCell _ _ _ _ (by omega), fun k o' ho' hT' => by
    rw [Below.heap_setCell _ _ _ _ (fun e => hT' (by subst e; rw [ho] at ho'; cases ho'; exact hT))]
    exact ho'⟩
theorem Keeps.grown (h : Keeps B T w w') {b : Nat} {o : Obj} (ho : w'.heap[b]? = some o) (hT : T b o) (hB : B ≤ b) (hg : w'.grownBy w2 (some b)) : Keeps B T w w2 :=
  h.trans ⟨hg.os, hg.tape, hg.output, hg.size, fun k hk => hg.block k (Nat.lt_trans hk (by have := lt_of_some ho; omega)) (by intro e; cases e; omega), fun k o' ho' hT' => by
    rw [hg.block k (lt_of_some ho') (by intro e; cases e; rw [ho] at ho'; cases ho'; exact hT' hT)]
    exact ho'⟩
theorem Keeps.below (h : Keeps B T w w') {C : Nat} (hC : C ≤ B) : Below C w w' := ⟨h.os, h.tape, h.output, h.size, fun k hk => h.low k (by omega)⟩
theorem Keeps.mono (h : Keeps B T w w') {C : Nat} (hC : C ≤ B) : Keeps C T w w' := ⟨h.os, h.tape, h.output, h.size, fun k hk => h.low k (by omega), h.block⟩
end
def PT (mb : Nat) (k : Nat) (o : Obj) : Prop := (∃ c s, o = .cells c 122 s) ∨ (∃ c s, o = .cells c 208 s) ∨ (k = mb ∧ ∃ es c, o = .map es c)
def XE (w : World) (v : Value) (l : List (Int × ByteArray)) : Prop := ∃ ao n c, v = .slice ao n c ∧ XS w ao n c l ∧ ∀ a, ao = some a → ∃ cur, w.heap[a.block]? = some (.cells cur 245 (0, 0))
section
variable {w w' : World} {v : Value} {l : List (Int × ByteArray)}
theorem XE.move (h : XE w v l) (hk : ∀ (b : Nat) cur, w.heap[b]? = some (.cells cur 245 (0, 0)) → w'.heap[b]? = w.heap[b]?) : XE w' v l := by
  obtain ⟨ao, n, c, rfl, hx, ht⟩ := h
  refine ⟨ao, n, c, rfl, ⟨hx.1, hx.2.1, hx.2.2.1, hx.2.2.2.1, fun a ha j u hu => ?_⟩, fun a ha => ?_⟩
  · have hc := hx.2.2.2.2 a ha j u hu
    obtain ⟨cur, hb⟩ := ht a ha
    have ea : (a.add j).block = a.block := by
      unfold Addr.add
      split <;> rfl
    rw [World.cell?_of_block (w := w) (w' := w') (a := a.add j) (by rw [ea]; exact hk _ cur hb)]
    exact hc
  · obtain ⟨cur, hb⟩ := ht a ha
    exact ⟨cur, (hk _ cur hb).trans hb⟩
theorem XE.keeps (h : XE w v l) {B : Nat} {T : Nat → Obj → Prop} (hK : Keeps B T w w') (hT : ∀ k c, ¬ T k (.cells c 245 (0, 0))) : XE w' v l :=
  h.move fun b cur hb => (hK.block b _ hb (hT b cur)).trans hb.symm
theorem XE.keep (h : XE w v l) (hb : Below w.heap.size w w') : XE w' v l := h.move fun b cur hc => hb.block b (lt_of_some hc)
theorem XE.alloc (h : XE w v l) (o : Obj) : XE (w.alloc o) v l := h.keep ((Below.refl _ _).alloc (Nat.le_refl _) o)
theorem XE.drew (h : XE w v l) (n : Nat) : XE (w.drewN n) v l := h
theorem XE.nil (w : World) : XE w (.slice none 0 0) [] := ⟨none, 0, 0, rfl, XS.nil w, fun _ h => by cases h⟩
theorem XE.own {base : Nat} (h : w.ownsRow base 245 2 v l.length (ecl l)) : XE w v l := by
  obtain ⟨ao, c, rfl⟩ := Own.form h
  refine ⟨ao, _, c, rfl, XS_own h, fun a ha => ?_⟩
  subst ha
  rcases h.2 with ⟨h', _⟩ | ⟨g, cap, cur, h', _, hg, _⟩
  · simp at h'
  · simp only [Value.slice.injEq, Option.some.injEq] at h'
    obtain ⟨rfl, -, rfl⟩ := h'
    exact ⟨cur, hg⟩
end
def ncl (d : Nd) (v : Value) : List Value := [.int .i64 d.kind, .int .i64 d.links, .int .i64 d.opens, .int .i64 d.size, v]
def NB (w : World) (g : Nat) (d : Nd) (v : Value) : Prop := Blk w g 208 (ncl d v) ∧ XE w v d.l
theorem blk_ne {w : World} {g b : Nat} {e f : TypeId} {l m : List Value} (h : Blk w g e l) (k : Blk w b f m) (hef : e ≠ f) : g ≠ b := by
  intro e'
  subst e'
  unfold Blk at h k
  rw [h] at k
  simp only [Option.some.injEq, Obj.cells.injEq] at k
  exact hef k.2.1
theorem map_obj {w : World} {b : Nat} {M : Int → Option Nat} (h : IS.MB w b M) : ∃ es c, w.heap[b]? = some (.map es c) := by
  obtain ⟨D, ⟨es, clock, hb, _⟩, _⟩ := h.ex
  exact ⟨es, clock, hb⟩
theorem blk_map {w : World} {g b : Nat} {e : TypeId} {l : List Value} {M : Int → Option Nat} (h : Blk w g e l) (k : IS.MB w b M) : g ≠ b := by
  intro e'
  subst e'
  obtain ⟨es, c, hm⟩ := map_obj k
  unfold Blk at h
  rw [h] at hm
  cases hm
structure PM (base : Nat) (w : World) (sg mb : Nat) (M : Int → Option Nat) (I L left : Int) (S : Int → Option Nd) : Prop where
  box : Blk w sg 122 [.map (some mb), .int .i64 I, .int .i64 L, .int .i64 left]
  mp : IS.MB w mb M
  dom : ∀ n, M n = none ↔ S n = none
  node : ∀ n g d, M n = some g → S n = some d → ∃ v, NB w g d v
  inj : ∀ n m g, M n = some g → M m = some g → n = m
  ge : base ≤ sg ∧ base ≤ mb ∧ ∀ n g, M n = some g → base ≤ g
section
variable {base : Nat} {w w' : World} {sg mb : Nat} {M : Int → Option Nat} {I L left : Int} {S : Int → Option Nd}
theorem PM.moved (h : PM base w sg mb M I L left S) (h1 : w'.heap[sg]? = w.heap[sg]?) (h2 : w'.heap[mb]? = w.heap[mb]?) (h3 : ∀ n g, M n = some g → w'.heap[g]? = w.heap[g]?) (h4 : ∀ (b : Nat) (cur : Array Value), w.heap[b]? = some (.cells cur 245 (0, 0)) → w'.heap[b]? = w.heap[b]?) : PM base w' sg mb M I L left S :=
  ⟨h1.trans h.box, h.mp.heap h2, h.dom, fun n g d hM hS => by
    obtain ⟨v, hb, hx⟩ := h.node n g d hM hS
    exact ⟨v, (h3 n g hM).trans hb, hx.move h4⟩, h.inj, h.ge⟩
theorem PM.glt (h : PM base w sg mb M I L left S) {n : Int} {g : Nat} (hM : M n = some g) : g < w.heap.size := by
  cases hS : S n with
  | none => rw [(h.dom n).2 hS] at hM; cases hM
  | some d => obtain ⟨v, hb, _⟩ := h.node n g d hM hS; exact hb.lt
theorem PM.keep (h : PM base w sg mb M I L left S) (hb : Below w.heap.size w w') : PM base w' sg mb M I L left S :=
  h.moved (hb.block _ h.box.lt) (hb.block _ h.mp.lt) (fun n g hM => hb.block _ (h.glt hM)) (fun b cur hc => hb.block _ (lt_of_some hc))
theorem PM.drew (h : PM base w sg mb M I L left S) (n : Nat) : PM base (w.drewN n) sg mb M I L left S := h.moved rfl rfl (fun _ _ _ => rfl) (fun _ _ _ => rfl)
theorem PM.drew1 (h : PM base w sg mb M I L left S) : PM base w.drew sg mb M I L left S := h.moved rfl rfl (fun _ _ _ => rfl) (fun _ _ _ => rfl)
theorem PM.alloc (h : PM base w sg mb M I L left S) (o : Obj) : PM base (w.alloc o) sg mb M I L left S := h.keep ((Below.refl _ _).alloc (Nat.le_refl _) o)
theorem PM.keeps (h : PM base w sg mb M I L left S) {B : Nat} {T : Nat → Obj → Prop} (hK : Keeps B T w w') (h1 : ∀ k c s, ¬ T k (.cells c 122 s)) (h2 : ∀ k c s, ¬ T k (.cells c 208 s)) (h3 : ∀ es c, ¬ T mb (.map es c)) (h4 : ∀ k c, ¬ T k (.cells c 245 (0, 0))) : PM base w' sg mb M I L left S := by
  obtain ⟨es, c, hm⟩ := map_obj h.mp
  refine h.moved ((hK.block _ _ h.box (h1 _ _ _)).trans (Eq.symm h.box)) ((hK.block _ _ hm (h3 _ _)).trans hm.symm) (fun n g hM => ?_) (fun b cur hb => (hK.block b _ hb (h4 b cur)).trans hb.symm)
  cases hS : S n with
  | none => rw [(h.dom n).2 hS] at hM; cases hM
  | some d =>
    obtain ⟨v, hb, _⟩ := h.node n g d hM hS
    exact (hK.block _ _ hb (h2 _ _ _)).trans (Eq.symm hb)
theorem PM.has (h : PM base w sg mb M I L left S) {n : Int} {d : Nd} (hS : S n = some d) : ∃ g v, M n = some g ∧ NB w g d v ∧ base ≤ g ∧ g ≠ sg ∧ g ≠ mb := by
  cases hM : M n with
  | none => rw [(h.dom n).1 hM] at hS; cases hS
  | some g =>
    obtain ⟨v, hN⟩ := h.node n g d hM hS
    exact ⟨g, v, rfl, hN, h.ge.2.2 n g hM, blk_ne hN.1 h.box (by decide), blk_map hN.1 h.mp⟩
theorem PM.setNode (h : PM base w sg mb M I L left S) {n : Int} {g : Nat} {d d' : Nd} {v v' : Value} (hM : M n = some g) (hS : S n = some d) (hb : Blk w g 208 (ncl d v)) (hx : XE w v' d'.l) (j : Nat) (u : Value) (he : (ncl d v).set j u = ncl d' v') :
    PM base (w.setCell ⟨g, j, none⟩ u) sg mb M I L left (upd S n (some d')) ∧ NB (w.setCell ⟨g, j, none⟩ u) g d' v' ∧ Keeps base (PT mb) w (w.setCell ⟨g, j, none⟩ u) := by
  have hgs : sg ≠ g := (blk_ne hb h.box (by decide)).symm
  have hgm : mb ≠ g := (blk_map hb h.mp).symm
  have hext : ∀ (b : Nat) (cur : Array Value), w.heap[b]? = some (.cells cur 245 (0, 0)) → (w.setCell ⟨g, j, none⟩ u).heap[b]? = w.heap[b]? := fun b cur hc => Below.heap_setCell _ _ _ _ (fun e => by
    have e' : b = g := e
    subst e'
    unfold Blk at hb
    rw [hb] at hc
    simp only [Option.some.injEq, Obj.cells.injEq] at hc
    exact absurd hc.2.1 (by decide))
  have hnew : Blk (w.setCell ⟨g, j, none⟩ u) g 208 (ncl d' v') := by
    have := hb.set j u
    rw [he] at this
    exact this
  refine ⟨⟨h.box.far hgs u, h.mp.far hgm u, fun m => ?_, fun m g' d'' hM' hS' => ?_, h.inj, h.ge⟩, ⟨hnew, hx.move hext⟩, (Keeps.refl base (PT mb) w).setCell (p := ⟨g, j, none⟩) (o := .cells (ncl d v).toArray 208 (0, 0)) hb (.inr (.inl ⟨_, _, rfl⟩)) (h.ge.2.2 n g hM) u⟩
  · by_cases e : m = n
    · subst e; rw [upd_at, hM]; simp
    · rw [upd_ne e]; exact h.dom m
  · by_cases e : m = n
    · subst e
      rw [upd_at] at hS'
      cases hS'
      rw [hM] at hM'
      cases hM'
      exact ⟨v', hnew, hx.move hext⟩
    · rw [upd_ne e] at hS'
      obtain ⟨v'', hb', hx'⟩ := h.node m g' d'' hM' hS'
      exact ⟨v'', hb'.far (p := ⟨g, j, none⟩) (fun e' => e (h.inj m n g (by have e2 : g' = g := e'; rw [← e2]; exact hM') hM)) u, hx'.move hext⟩
theorem PM.setLeft (h : PM base w sg mb M I L left S) (x : Int) : PM base (w.setCell ⟨sg, 3, none⟩ (.int .i64 x)) sg mb M I L x S ∧ Keeps base (PT mb) w (w.setCell ⟨sg, 3, none⟩ (.int .i64 x)) := by
  have hext : ∀ (b : Nat) (cur : Array Value), w.heap[b]? = some (.cells cur 245 (0, 0)) → (w.setCell ⟨sg, 3, none⟩ (.int .i64 x)).heap[b]? = w.heap[b]? := fun b cur hc => Below.heap_setCell _ _ _ _ (fun e => by
    have e' : b = sg := e
    subst e'
    have hb := h.box
    unfold Blk at hb
    rw [hb] at hc
    simp only [Option.some.injEq, Obj.cells.injEq] at hc
    exact absurd hc.2.1 (by decide))
  refine ⟨⟨h.box.set 3 _, h.mp.far (blk_map h.box h.mp).symm _, h.dom, fun n g d hM hS => ?_, h.inj, h.ge⟩, (Keeps.refl base (PT mb) w).setCell (p := ⟨sg, 3, none⟩) (o := .cells [Value.map (some mb), .int .i64 I, .int .i64 L, .int .i64 left].toArray 122 (0, 0)) h.box (.inl ⟨_, _, rfl⟩) h.ge.1 _⟩
  obtain ⟨v, hb, hx⟩ := h.node n g d hM hS
  exact ⟨v, hb.far (blk_ne hb h.box (by decide)) _, hx.move hext⟩
theorem PM.turn (h : PM base w sg mb M I L left S) {M' : Int → Option Nat} (hm : IS.MB w' mb M') (hg : w.grownBy w' (some mb)) (S' : Int → Option Nd) (hd : ∀ n, M' n = none ↔ S' n = none)
    (hn : ∀ n g d, M' n = some g → S' n = some d → (M n = some g ∧ S n = some d) ∨ ∃ v, NB w g d v ∧ base ≤ g) (hi : ∀ n m g, M' n = some g → M' m = some g → n = m) : PM base w' sg mb M' I L left S' ∧ Keeps base (PT mb) w w' := by
  obtain ⟨es, c, hmo⟩ := map_obj h.mp
  have hext : ∀ (b : Nat) (cur : Array Value), w.heap[b]? = some (.cells cur 245 (0, 0)) → w'.heap[b]? = w.heap[b]? := fun b cur hc => hg.block b (lt_of_some hc) (fun e => by cases e; rw [hmo] at hc; cases hc)
  have hmv : ∀ {g : Nat} {d : Nd} {v : Value}, NB w g d v → NB w' g d v := fun {g d v} k => ⟨k.1.grown hg (fun e => blk_map k.1 h.mp (Option.some.inj e)), k.2.move hext⟩
  refine ⟨⟨h.box.grown hg (fun e => blk_map h.box h.mp (Option.some.inj e)), hm, hd, fun n g d hM hS => ?_, hi, h.ge.1, h.ge.2.1, fun n g hM => ?_⟩, (Keeps.refl _ _ _).grown hmo (.inr (.inr ⟨rfl, _, _, rfl⟩)) h.ge.2.1 hg⟩
  · rcases hn n g d hM hS with ⟨h1, h2⟩ | ⟨v, h1, _⟩
    · obtain ⟨v, hN⟩ := h.node n g d h1 h2
      exact ⟨v, hmv hN⟩
    · exact ⟨v, hmv h1⟩
  · cases hS : S' n with
    | none => rw [(hd n).2 hS] at hM; cases hM
    | some d =>
      rcases hn n g d hM hS with ⟨h1, h2⟩ | ⟨v, _, h1⟩
      · exact h.ge.2.2 n g h1
      · exact h1
end
end IN
namespace IN
set_option maxRecDepth 100000 in
set_option maxHeartbeats 1000000 in
theorem unless_any (b : Bool) (e : Int) (w : World) : Calls Tryz.prog 138 #[.bool b, .int .i64 e] w fun r w' => r = .returned (.int .i64 (if b = true then 0 else e)) ∧ w' = w := by
  go_enter Tryz.func138, Tryz.ntmps138
  cases b <;>
  · go_wp2
    go_ret
    exact ⟨rfl, rfl⟩
def Ans (r : Int) (w : World) (e : Ending) (w' : World) : Prop := e = .returned (.int .i64 r) ∧ Below w.heap.size w w'
theorem ans_drew {r : Int} {w : World} (n : Nat) : Ans r w (.returned (.int .i64 r)) (w.drewN n) := ⟨rfl, ⟨rfl, rfl, rfl, Nat.le_refl _, fun _ _ => rfl⟩⟩
theorem ans_same {r : Int} {w : World} : Ans r w (.returned (.int .i64 r)) w := ⟨rfl, Below.refl _ _⟩
set_option maxRecDepth 100000 in
set_option maxHeartbeats 1000000 in
theorem made_nil (a : Value) (w : World) : Calls Tryz.prog 69 #[.pointer none, a] w (Ans 1 w) := by
  have cU := fun w => unless_any false 1 w
  go_enter Tryz.func69, Tryz.ntmps69
  go_wp2_with (go_at_call 138; refine (cU _).mono ?_; rintro e w' ⟨rfl, rfl⟩)
  go_ret
  exact ans_same
set_option maxRecDepth 100000 in
set_option maxHeartbeats 1000000 in
theorem isKind_any (k : Int) (w : World) : Calls Tryz.prog 154 #[.int .i64 k] w (Ans (if k = 1 ∨ k = 2 then 0 else 2) w) := by
  have cU := fun b w => unless_any b 2 w
  go_enter Tryz.func154, Tryz.ntmps154
  by_cases h1 : k = 1
  · subst h1
    go_wp2_with (go_at_call 138; refine (cU _ _).mono ?_; rintro e w' ⟨rfl, rfl⟩)
    go_ret
    exact ans_same
  · by_cases h2 : k = 2
    · subst h2
      go_wp2_with (go_at_call 138; refine (cU _ _).mono ?_; rintro e w' ⟨rfl, rfl⟩)
      go_ret
      exact ans_same
    · rw [if_neg (by omega)]
      go_wp2_with (go_at_call 138; refine (cU _ _).mono ?_; rintro e w' ⟨rfl, rfl⟩)
      go_ret
      exact ans_same
section
variable {base sg mb : Nat} {M : Int → Option Nat} {I L left : Int} {S : Int → Option Nd}
set_option maxRecDepth 100000 in
set_option maxHeartbeats 1000000 in
theorem made_some (a : Value) (w : World) (h : PM base w sg mb M I L left S) : Calls Tryz.prog 69 #[.pointer (some ⟨sg, 0, none⟩), a] w (Ans 0 w) := by
  have cU := fun w => unless_any true 1 w
  have c0 := h.box.cell (j := 0) rfl
  have qT : ∀ (w : World) (r : Option Nat), (binOp .neq 120 (.map r) (.map none)).run Tryz.prog w = .ok (.bool (!r.isNone)) w := fun w r => run_neq_map_nil w _ _ _ r IS.und_map
  clear h
  go_enter Tryz.func69, Tryz.ntmps69
  go_wp2_with (go_at_call 138; refine (cU _).mono ?_; rintro e w' ⟨rfl, rfl⟩)
  go_ret
  exact ans_same
set_option maxRecDepth 100000 in
set_option maxHeartbeats 2000000 in
theorem has_any (n : Int) (w : World) (h : PM base w sg mb M I L left S) (hn : IS.I64 n) : Calls Tryz.prog 96 #[.pointer (some ⟨sg, 0, none⟩), .int .i64 n] w (Ans (if (S n).isSome = true then 0 else 11) w) := by
  have cU := fun b w => unless_any b 11 w
  have c0 := h.box.cell (j := 0) rfl
  have hl := h.mp.look n hn
  have hd : (S n).isSome = (M n).isSome := by
    have := h.dom n
    cases hM : M n <;> cases hS : S n <;> simp_all
  rw [hd]
  clear h hd
  generalize M n = x at hl ⊢
  cases x with
  | none =>
    go_enter Tryz.func96, Tryz.ntmps96
    simp only [IS.ptr] at hl
    go_wp2_with (go_at_call 138; refine (cU _ _).mono ?_; rintro e w' ⟨rfl, rfl⟩)
    go_ret
    exact ans_same
  | some g =>
    go_enter Tryz.func96, Tryz.ntmps96
    simp only [IS.ptr] at hl
    go_wp2_with (go_at_call 138; refine (cU _ _).mono ?_; rintro e w' ⟨rfl, rfl⟩)
    go_ret
    exact ans_same
set_option maxRecDepth 100000 in
set_option maxHeartbeats 2000000 in
theorem room_any (n : Value) (ss : List Nat) (w : World) (h : PM base w sg mb M I L left S) (hs : IS.Nums M ss) : Calls Tryz.prog 155 #[.pointer (some ⟨sg, 0, none⟩), n] w (Ans (if (ss.length : Int) < I then 0 else 21) w) := by
  have cT := fun t => Calls.quiet_of_same (unless_any true 21 (w.drewN t))
  have cF := fun t => Calls.quiet_of_same (unless_any false 21 (w.drewN t))
  have c0 := h.box.cell (j := 0) rfl
  have c1 := h.box.cell (j := 1) rfl
  have hl := fun t ty => (h.mp.drew t).count hs ty
  have hl0 := fun ty => h.mp.count hs ty
  clear h
  by_cases hlt : (ss.length : Int) < I
  · rw [if_pos hlt]
    go_enter Tryz.func155, Tryz.ntmps155
    go_wp2_with fail
    go_quiet ((go_at_call 138; exact cT _))
    go_wp2_with fail
    go_ret
    exact ans_drew _
  · rw [if_neg hlt]
    have hd : decide ((ss.length : Int) < I) = false := decide_eq_false hlt
    go_enter Tryz.func155, Tryz.ntmps155
    go_wp2_with fail
    go_quiet ((go_at_call 138; exact cF _))
    go_wp2_with fail
    go_ret
    exact ans_drew _
set_option maxRecDepth 100000 in
set_option maxHeartbeats 2000000 in
theorem linkable_any (n : Int) (d : Nd) (w : World) (h : PM base w sg mb M I L left S) (hn : IS.I64 n) (hS : S n = some d) : Calls Tryz.prog 157 #[.pointer (some ⟨sg, 0, none⟩), .int .i64 n] w (Ans (if d.links < L then 0 else 18) w) := by
  have cT := fun t => Calls.quiet_of_same (unless_any true 18 (w.drewN t))
  have cF := fun t => Calls.quiet_of_same (unless_any false 18 (w.drewN t))
  have cV := fun b w => unless_any b 18 w
  have c0 := h.box.cell (j := 0) rfl
  have c2 := h.box.cell (j := 2) rfl
  have hl := fun t => (h.mp.drew t).look n hn
  have hl0 := h.mp.look n hn
  obtain ⟨g, v, hM, hN, -⟩ := h.has hS
  have d1 := hN.1.cell (j := 1) rfl
  rw [hM] at hl hl0
  simp only [IS.ptr] at hl hl0
  clear h hN hM
  go_enter Tryz.func157, Tryz.ntmps157
  by_cases hk : d.links < L
  · rw [if_pos hk]
    go_wp2_with fail
    go_quiet ((go_at_call 138; exact cT _))
    go_wp2_with fail
    go_ret
    exact ans_drew _
  · rw [if_neg hk]
    have hd : decide (d.links < L) = false := decide_eq_false hk
    go_wp2_with fail
    go_quiet ((go_at_call 138; exact cF _))
    go_wp2_with fail
    go_ret
    exact ans_drew _
set_option maxRecDepth 100000 in
set_option maxHeartbeats 2000000 in
theorem linked_any (n : Int) (d : Nd) (w : World) (h : PM base w sg mb M I L left S) (hn : IS.I64 n) (hS : S n = some d) : Calls Tryz.prog 192 #[.pointer (some ⟨sg, 0, none⟩), .int .i64 n] w (Ans (if 0 < d.links then 0 else 2) w) := by
  have cU := fun b w => unless_any b 2 w
  have c0 := h.box.cell (j := 0) rfl
  have hl := h.mp.look n hn
  obtain ⟨g, v, hM, hN, -⟩ := h.has hS
  have d1 := hN.1.cell (j := 1) rfl
  rw [hM] at hl
  simp only [IS.ptr] at hl
  clear h hN hM
  go_enter Tryz.func192, Tryz.ntmps192
  by_cases hk : 0 < d.links
  · rw [if_pos hk]
    go_wp2_with (go_at_call 138; refine (cU _ _).mono ?_; rintro e w' ⟨rfl, rfl⟩)
    go_ret
    simp [hk]
    exact ans_same
  · rw [if_neg hk]
    go_wp2_with (go_at_call 138; refine (cU _ _).mono ?_; rintro e w' ⟨rfl, rfl⟩)
    go_ret
    simp [hk]
    exact ans_same
end
def fst : List Int → Int
  | [] => 0
  | r :: rs => if r = 0 then fst rs else r
def Chk (w : World) (arg : Value) (f : Value) (r : Int) : Prop := ∃ (k : Nat) (c : Array Value), f = .func (.func k) c #[] ∧ (∀ w, (callFunc k (c ++ #[arg])).run Tryz.prog w = .ok (.enter k (c ++ #[arg])) w) ∧ ∀ W, Below w.heap.size w W → Calls Tryz.prog k (c ++ #[arg]) W (Ans r W)
end IN
end Go.Proofs.YtmnmheocmcmpmaaGreat

namespace Go.Proofs.YtmnmheocmcmpmaaGreat
set_option linter.unusedVariables false
set_option linter.unusedSimpArgs false
namespace IN
def ent (S : Int → Option Nd) (i : Nat) : Option (Nat × Nd) := (S ((i + 1 : Nat) : Int)).map fun d => (i + 1, d)
def lst (S : Int → Option Nd) (I : Nat) : List (Nat × Nd) := (List.range I).filterMap (ent S)
def lo (S : Int → Option Nd) (n : Nat) : List (Nat × Nd) := (List.range (n - 1)).filterMap (ent S)
def hi (S : Int → Option Nd) (n I : Nat) : List (Nat × Nd) := (List.range' n (I - n)).filterMap (ent S)
def ks (S : Int → Option Nd) (I : Nat) : List Nat := (lst S I).map (·.1)
def tot (S : Int → Option Nd) (I : Nat) : Nat := ((lst S I).map fun x => EM.cnt x.2.l).sum
def cntOf (x : Option Nd) : Nat := match x with | none => 0 | some d => EM.cnt d.l
theorem fm_congr {α β : Type} {f g : α → Option β} : ∀ {l : List α}, (∀ x ∈ l, f x = g x) → l.filterMap f = l.filterMap g
  | [], _ => rfl
  | a :: l, h => by
    rw [List.filterMap_cons, List.filterMap_cons, h a List.mem_cons_self, fm_congr (fun x hx => h x (List.mem_cons_of_mem _ hx))]
theorem split (S : Int → Option Nd) (n I : Nat) (h1 : 1 ≤ n) (h2 : n ≤ I) : lst S I = lo S n ++ ((S (n : Int)).map fun d => (n, d)).toList ++ hi S n I := by
  have e : List.range I = List.range (n - 1) ++ [n - 1] ++ List.range' n (I - n) := by
    rw [List.range_eq_range', List.range_eq_range']
    have e1 : List.range' 0 (n - 1) ++ [n - 1] = List.range' 0 n := by
      have : n = n - 1 + 1 := by omega
      conv => rhs; rw [this, List.range'_concat]
      simp
    rw [e1]
    have e2 : I = n + (I - n) := by omega
    conv => lhs; rw [e2]
    rw [← List.range'_append]
    simp
  unfold lst
  rw [e, List.filterMap_append, List.filterMap_append]
  have : (n - 1 + 1 : Nat) = n := by omega
  have hone : List.filterMap (ent S) [n - 1] = ((S (n : Int)).map fun d => (n, d)).toList := by
    unfold ent
    rw [List.filterMap_cons]
    rw [this]
    cases S (n : Int) <;> rfl
  rw [hone]
  rfl
theorem lo_upd (S : Int → Option Nd) (n : Nat) (x : Option Nd) : lo (upd S (n : Int) x) n = lo S n :=
  fm_congr fun i hi => by
    have := List.mem_range.1 hi
    unfold ent
    rw [upd_ne (by omega)]
theorem hi_upd (S : Int → Option Nd) (n I : Nat) (x : Option Nd) : hi (upd S (n : Int) x) n I = hi S n I :=
  fm_congr fun i hi => by
    have := List.mem_range'_1.1 hi
    unfold ent
    rw [upd_ne (by omega)]
theorem lst_upd (S : Int → Option Nd) (n I : Nat) (x : Option Nd) (h1 : 1 ≤ n) (h2 : n ≤ I) : lst (upd S (n : Int) x) I = lo S n ++ (x.map fun d => (n, d)).toList ++ hi S n I := by
  rw [split _ n I h1 h2, lo_upd, hi_upd, upd_at]
theorem tot_upd (S : Int → Option Nd) (n I : Nat) (x : Option Nd) (h1 : 1 ≤ n) (h2 : n ≤ I) : tot (upd S (n : Int) x) I + cntOf (S n) = tot S I + cntOf x := by
  unfold tot
  rw [lst_upd S n I x h1 h2, split S n I h1 h2]
  simp only [List.map_append, List.sum_append]
  cases x <;> cases hS : S (n : Int) <;> simp [cntOf] <;> omega
theorem mem_lst {S : Int → Option Nd} {I : Nat} {x : Nat × Nd} : x ∈ lst S I ↔ 1 ≤ x.1 ∧ x.1 ≤ I ∧ S (x.1 : Int) = some x.2 := by
  unfold lst
  rw [List.mem_filterMap]
  constructor
  · rintro ⟨i, hi, e⟩
    have := List.mem_range.1 hi
    unfold ent at e
    cases hS : S ((i + 1 : Nat) : Int) with
    | none => rw [hS] at e; cases e
    | some d => rw [hS] at e; cases e; exact ⟨by simp, by simp; omega, hS⟩
  · rintro ⟨h1, h2, h3⟩
    refine ⟨x.1 - 1, List.mem_range.2 (by omega), ?_⟩
    unfold ent
    have : x.1 - 1 + 1 = x.1 := by omega
    rw [this, h3]
    rfl
theorem lst_rise (S : Int → Option Nd) (I : Nat) : (lst S I).Pairwise fun a b => a.1 < b.1 := by
  unfold lst
  rw [List.pairwise_filterMap]
  refine List.Pairwise.imp ?_ List.pairwise_lt_range
  intro i j hij a ha b hb
  unfold ent at ha hb
  cases hS : S ((i + 1 : Nat) : Int) with
  | none => rw [hS] at ha; cases ha
  | some d =>
    cases hS' : S ((j + 1 : Nat) : Int) with
    | none => rw [hS'] at hb; cases hb
    | some d' => rw [hS] at ha; rw [hS'] at hb; cases ha; cases hb; simp; exact hij
theorem ks_rise (S : Int → Option Nd) (I : Nat) : (ks S I).Pairwise (· < ·) := by
  unfold ks
  rw [List.pairwise_map]
  exact lst_rise S I
theorem ks_mem {S : Int → Option Nd} {I : Nat} (h : ∀ n, S n ≠ none → 1 ≤ n ∧ n ≤ (I : Int)) (f : Nat) : f ∈ ks S I ↔ S (f : Int) ≠ none := by
  unfold ks
  rw [List.mem_map]
  constructor
  · rintro ⟨x, hx, rfl⟩
    rw [(mem_lst.1 hx).2.2]
    simp
  · intro hf
    have := h f hf
    cases hS : S (f : Int) with
    | none => exact absurd hS hf
    | some d => exact ⟨(f, d), mem_lst.2 ⟨by omega, by omega, hS⟩, rfl⟩
theorem ks_nums {S : Int → Option Nd} {M : Int → Option Nat} {I : Nat} (h : ∀ n, S n ≠ none → 1 ≤ n ∧ n ≤ (I : Int)) (hd : ∀ n, M n = none ↔ S n = none) : IS.Nums M (ks S I) :=
  ⟨(ks_rise S I).imp fun h => by omega, fun f => by rw [ks_mem h, ne_eq, ne_eq, hd]⟩
theorem ks_len (S : Int → Option Nd) (I : Nat) : (ks S I).length = (lst S I).length := by simp [ks]
theorem lst_len (S : Int → Option Nd) (I : Nat) : (lst S I).length ≤ I := by
  have := List.length_filterMap_le (ent S) (List.range I)
  simpa [lst] using this
theorem rise_eq : ∀ {l m : List Nat}, l.Pairwise (· < ·) → m.Pairwise (· < ·) → (∀ x, x ∈ l ↔ x ∈ m) → l = m
  | [], [], _, _, _ => rfl
  | [], b :: m, _, _, h => by have := (h b).2 (by simp); simp at this
  | a :: l, [], _, _, h => by have := (h a).1 (by simp); simp at this
  | a :: l, b :: m, h1, h2, h => by
    have p1 := List.pairwise_cons.1 h1
    have p2 := List.pairwise_cons.1 h2
    have hab : a = b := by
      have ha := (h a).1 (by simp)
      have hb := (h b).2 (by simp)
      rcases List.mem_cons.1 ha with e | ha'
      · exact e
      · rcases List.mem_cons.1 hb with e | hb'
        · exact e.symm
        · have := p1.1 b hb'; have := p2.1 a ha'; omega
    subst hab
    rw [rise_eq p1.2 p2.2 fun x => ?_]
    have hx := h x
    constructor
    · intro hxl
      rcases List.mem_cons.1 (hx.1 (List.mem_cons_of_mem _ hxl)) with e | h'
      · subst e; have := p1.1 x hxl; omega
      · exact h'
    · intro hxm
      rcases List.mem_cons.1 (hx.2 (List.mem_cons_of_mem _ hxm)) with e | h'
      · subst e; have := p2.1 x hxm; omega
      · exact h'
def Low (S : Int → Option Nd) (n : Nat) : Prop := 1 ≤ n ∧ S (n : Int) = none ∧ ∀ m : Nat, 1 ≤ m → m < n → S (m : Int) ≠ none
theorem low_or (S : Int → Option Nd) : ∀ k : Nat, (∃ n, n ≤ k ∧ Low S n) ∨ ∀ m : Nat, 1 ≤ m → m ≤ k → S (m : Int) ≠ none
  | 0 => .inr fun m h1 h2 => by omega
  | k + 1 => by
    rcases low_or S k with ⟨n, h1, h2⟩ | h
    · exact .inl ⟨n, by omega, h2⟩
    · by_cases e : S ((k + 1 : Nat) : Int) = none
      · exact .inl ⟨k + 1, by omega, by omega, e, fun m h1 h2 => h m h1 (by omega)⟩
      · refine .inr fun m h1 h2 => ?_
        by_cases hm : m = k + 1
        · rw [hm]; exact e
        · exact h m h1 (by omega)
theorem fm_full {S : Int → Option Nd} : ∀ k : Nat, (∀ m : Nat, 1 ≤ m → m ≤ k → S (m : Int) ≠ none) → ((List.range k).filterMap (ent S)).length = k ∧ ∀ i x, ((List.range k).filterMap (ent S))[i]? = some x → x.1 = i + 1
  | 0, _ => ⟨rfl, fun i x h => by simp at h⟩
  | k + 1, h => by
    obtain ⟨h1, h2⟩ := fm_full k fun m a b => h m a (by omega)
    have h3 := h (k + 1) (by omega) (by omega)
    cases hS : S ((k + 1 : Nat) : Int) with
    | none => exact absurd hS h3
    | some d =>
      have e : (List.range (k + 1)).filterMap (ent S) = (List.range k).filterMap (ent S) ++ [(k + 1, d)] := by
        rw [List.range_succ, List.filterMap_append]
        congr 1
        unfold ent
        rw [List.filterMap_cons, hS]
        rfl
      rw [e]
      refine ⟨by simp [h1], fun i x hx => ?_⟩
      by_cases hi : i < k
      · rw [List.getElem?_append_left (by omega)] at hx
        exact h2 i x hx
      · rw [List.getElem?_append_right (by omega), h1] at hx
        have : i - k = 0 := by
          rcases Nat.eq_zero_or_pos (i - k) with e | e
          · exact e
          · rw [List.getElem?_eq_none (by simp; omega)] at hx; cases hx
        rw [this] at hx
        cases hx
        simp; omega
theorem low_of {S : Int → Option Nd} {I : Nat} (h : (lst S I).length < I) : ∃ n, n ≤ I ∧ Low S n := by
  rcases low_or S I with h1 | h1
  · exact h1
  · have := (fm_full I h1).1
    unfold lst at h
    omega
theorem low_lo {S : Int → Option Nd} {n : Nat} (h : Low S n) : (lo S n).length = n - 1 ∧ ∀ i x, (lo S n)[i]? = some x → x.1 = i + 1 :=
  fm_full (n - 1) fun m h1 h2 => h.2.2 m h1 (by have := h.1; omega)
structure Good (L k : Nat) (d : Nd) : Prop where
  kind : d.kind = 1 ∨ d.kind = 2
  links : 0 ≤ d.links ∧ d.links ≤ L
  opens : 0 ≤ d.opens ∧ d.opens ≤ k
  some : 1 ≤ d.links + d.opens
  size : 0 ≤ d.size ∧ d.size ≤ 1048576
  ok : EM.ok 0 d.l = true
  fin : ends d.l ≤ d.size
  dir : d.kind = 2 → d.size = 0 ∧ d.l = []
structure Fine (I L B k : Nat) (S : Int → Option Nd) : Prop where
  num : ∀ n, S n ≠ none → 1 ≤ n ∧ n ≤ (I : Int)
  good : ∀ n d, S n = some d → Good L k d
  tot : tot S I ≤ B
theorem Fine.empty (I L B : Nat) : Fine I L B 0 fun _ => none :=
  ⟨fun _ h => absurd rfl h, fun _ _ h => (by cases h), by
    have : lst (fun _ => none) I = [] := List.eq_nil_iff_forall_not_mem.2 fun x hx => by have := (mem_lst.1 hx).2.2; cases this
    unfold IN.tot; rw [this]; simp⟩
theorem Good.mono {L k k' : Nat} {d : Nd} (h : Good L k d) (hk : k ≤ k') : Good L k' d := ⟨h.kind, h.links, ⟨h.opens.1, by have := h.opens.2; omega⟩, h.some, h.size, h.ok, h.fin, h.dir⟩
theorem Fine.mono {I L B k k' : Nat} {S : Int → Option Nd} (h : Fine I L B k S) (hk : k ≤ k') : Fine I L B k' S := ⟨h.num, fun n d e => (h.good n d e).mono hk, h.tot⟩
theorem Fine.turn {I L B k : Nat} {S : Int → Option Nd} (h : Fine I L B k S) {n : Nat} {x : Option Nd} (h1 : 1 ≤ n) (h2 : n ≤ I) (hg : ∀ d, x = some d → Good L k d) (ht : IN.tot S I + cntOf x ≤ B + cntOf (S n)) : Fine I L B k (upd S n x) := by
  refine ⟨fun m hm => ?_, fun m d hd => ?_, ?_⟩
  · by_cases e : m = n
    · omega
    · rw [upd_ne e] at hm; exact h.num m hm
  · by_cases e : m = n
    · subst e; rw [upd_at] at hd; exact hg d hd
    · rw [upd_ne e] at hd; exact h.good m d hd
  · have := tot_upd S n I x h1 h2
    omega
end IN
end Go.Proofs.YtmnmheocmcmpmaaGreat

namespace Go.Proofs.YtmnmheocmcmpmaaGreat
open Go.ChangeShapes Go.WideShapes Go.ChangeAt Go.RowKit Go.Maps
set_option linter.unusedVariables false
set_option linter.unusedSimpArgs false
namespace IN
set_option maxRecDepth 100000 in
set_option maxHeartbeats 4000000 in
theorem first_one (p : Value) (k1 : Nat) (r1 : Int) (n : Int) (b : Nat) (w : World) (hB : Blk w b 78 [.func (.func k1) #[p] #[]])
    (e1 : ∀ w, (callFunc k1 #[p, .int .i64 n]).run Tryz.prog w = .ok (.enter k1 #[p, .int .i64 n]) w)
    (h1 : ∀ W, Below w.heap.size w W → Calls Tryz.prog k1 #[p, .int .i64 n] W (Ans r1 W)) :
    Calls Tryz.prog 68 #[.int .i64 n, .slice (some ⟨b, 0, none⟩) 1 1] w (Ans (fst [r1]) w) := by
  have c0 := hB.cell (j := 0) rfl
  have hlt := hB.lt
  have HB := W_hid hB
  have h1 := W_hid h1
  clear hB
  go_enter Tryz.func68, Tryz.ntmps68
  go_wp2_with fail
  refine wp_loop_rounds 2 ?_
  rw [rounds_succ]
  go_wp2_with fail
  refine (h1.out w (Below.refl _ _)).mono ?_
  rintro e w1 ⟨rfl, b1⟩
  by_cases hr1 : r1 = 0
  · subst hr1
    go_wp2_with fail
    rw [rounds_succ]
    go_wp2_with fail
    go_ret
    exact ⟨rfl, b1⟩
  · go_wp2_with fail
    go_ret
    exact ⟨by simp [fst, hr1], b1⟩
set_option maxRecDepth 100000 in
set_option maxHeartbeats 4000000 in
theorem first_two (p : Value) (k1 k2 : Nat) (r1 r2 : Int) (n : Int) (b : Nat) (w : World) (hB : Blk w b 78 [.func (.func k1) #[p] #[], .func (.func k2) #[p] #[]])
    (e1 : ∀ w, (callFunc k1 #[p, .int .i64 n]).run Tryz.prog w = .ok (.enter k1 #[p, .int .i64 n]) w) (e2 : ∀ w, (callFunc k2 #[p, .int .i64 n]).run Tryz.prog w = .ok (.enter k2 #[p, .int .i64 n]) w)
    (h1 : ∀ W, Below w.heap.size w W → Calls Tryz.prog k1 #[p, .int .i64 n] W (Ans r1 W)) (h2 : ∀ W, r1 = 0 → Below w.heap.size w W → Calls Tryz.prog k2 #[p, .int .i64 n] W (Ans r2 W)) :
    Calls Tryz.prog 68 #[.int .i64 n, .slice (some ⟨b, 0, none⟩) 2 2] w (Ans (fst [r1, r2]) w) := by
  have c0 := hB.cell (j := 0) rfl
  have hlt := hB.lt
  have HB := W_hid hB
  have h1 := W_hid h1
  have h2 := W_hid h2
  clear hB
  go_enter Tryz.func68, Tryz.ntmps68
  go_wp2_with fail
  refine wp_loop_rounds 3 ?_
  rw [rounds_succ]
  go_wp2_with fail
  refine (h1.out w (Below.refl _ _)).mono ?_
  rintro e w1 ⟨rfl, b1⟩
  by_cases hr1 : r1 = 0
  · subst hr1
    have c1 := (HB.out.keep b1).cell (j := 1) rfl
    have B1 := W_hid b1
    clear b1
    go_wp2_with fail
    rw [rounds_succ]
    go_wp2_with fail
    refine (h2.out w1 (by simp) B1.out).mono ?_
    rintro e w2 ⟨rfl, b2⟩
    have b2 := B1.out.trans (b2.mono B1.out.size)
    by_cases hr2 : r2 = 0
    · subst hr2
      go_wp2_with fail
      rw [rounds_succ]
      go_wp2_with fail
      go_ret
      exact ⟨rfl, b2⟩
    · go_wp2_with fail
      go_ret
      exact ⟨by simp [fst, hr2], b2⟩
  · go_wp2_with fail
    go_ret
    exact ⟨by simp [fst, hr1], b1⟩
set_option maxRecDepth 100000 in
set_option maxHeartbeats 4000000 in
theorem first_three (p : Value) (k1 k2 k3 : Nat) (r1 r2 r3 : Int) (n : Int) (b : Nat) (w : World) (hB : Blk w b 78 [.func (.func k1) #[p] #[], .func (.func k2) #[p] #[], .func (.func k3) #[p] #[]])
    (e1 : ∀ w, (callFunc k1 #[p, .int .i64 n]).run Tryz.prog w = .ok (.enter k1 #[p, .int .i64 n]) w) (e2 : ∀ w, (callFunc k2 #[p, .int .i64 n]).run Tryz.prog w = .ok (.enter k2 #[p, .int .i64 n]) w) (e3 : ∀ w, (callFunc k3 #[p, .int .i64 n]).run Tryz.prog w = .ok (.enter k3 #[p, .int .i64 n]) w)
    (h1 : ∀ W, Below w.heap.size w W → Calls Tryz.prog k1 #[p, .int .i64 n] W (Ans r1 W)) (h2 : ∀ W, r1 = 0 → Below w.heap.size w W → Calls Tryz.prog k2 #[p, .int .i64 n] W (Ans r2 W)) (h3 : ∀ W, r1 = 0 → r2 = 0 → Below w.heap.size w W → Calls Tryz.prog k3 #[p, .int .i64 n] W (Ans r3 W)) :
    Calls Tryz.prog 68 #[.int .i64 n, .slice (some ⟨b, 0, none⟩) 3 3] w (Ans (fst [r1, r2, r3]) w) := by
  have c0 := hB.cell (j := 0) rfl
  have hlt := hB.lt
  have HB := W_hid hB
  have h1 := W_hid h1
  have h2 := W_hid h2
  have h3 := W_hid h3
  clear hB
  go_enter Tryz.func68, Tryz.ntmps68
  go_wp2_with fail
  refine wp_loop_rounds 4 ?_
  rw [rounds_succ]
  go_wp2_with fail
  refine (h1.out w (Below.refl _ _)).mono ?_
  rintro e w1 ⟨rfl, b1⟩
  by_cases hr1 : r1 = 0
  · subst hr1
    have c1 := (HB.out.keep b1).cell (j := 1) rfl
    have B1 := W_hid b1
    clear b1
    go_wp2_with fail
    rw [rounds_succ]
    go_wp2_with fail
    refine (h2.out w1 (by simp) B1.out).mono ?_
    rintro e w2 ⟨rfl, b2⟩
    have b2 := B1.out.trans (b2.mono B1.out.size)
    by_cases hr2 : r2 = 0
    · subst hr2
      have c2 := (HB.out.keep b2).cell (j := 2) rfl
      have B2 := W_hid b2
      clear b2
      go_wp2_with fail
      rw [rounds_succ]
      go_wp2_with fail
      refine (h3.out w2 (by simp) (by simp) B2.out).mono ?_
      rintro e w3 ⟨rfl, b3⟩
      have b3 := B2.out.trans (b3.mono B2.out.size)
      by_cases hr3 : r3 = 0
      · subst hr3
        go_wp2_with fail
        rw [rounds_succ]
        go_wp2_with fail
        go_ret
        exact ⟨rfl, b3⟩
      · go_wp2_with fail
        go_ret
        exact ⟨by simp [fst, hr3], b3⟩
    · go_wp2_with fail
      go_ret
      exact ⟨by simp [fst, hr2], b2⟩
  · go_wp2_with fail
    go_ret
    exact ⟨by simp [fst, hr1], b1⟩
set_option maxRecDepth 100000 in
set_option maxHeartbeats 4000000 in
theorem first_make (p : Value) (k1 k2 k3 : Nat) (r1 r2 r3 : Int) (n : Int) (b : Nat) (w : World) (hB : Blk w b 78 [.func (.func k1) #[p] #[], .func (.func k2) #[] #[], .func (.func k3) #[p] #[]])
    (e1 : ∀ w, (callFunc k1 #[p, .int .i64 n]).run Tryz.prog w = .ok (.enter k1 #[p, .int .i64 n]) w) (e2 : ∀ w, (callFunc k2 #[.int .i64 n]).run Tryz.prog w = .ok (.enter k2 #[.int .i64 n]) w) (e3 : ∀ w, (callFunc k3 #[p, .int .i64 n]).run Tryz.prog w = .ok (.enter k3 #[p, .int .i64 n]) w)
    (h1 : ∀ W, Below w.heap.size w W → Calls Tryz.prog k1 #[p, .int .i64 n] W (Ans r1 W)) (h2 : ∀ W, r1 = 0 → Below w.heap.size w W → Calls Tryz.prog k2 #[.int .i64 n] W (Ans r2 W)) (h3 : ∀ W, r1 = 0 → r2 = 0 → Below w.heap.size w W → Calls Tryz.prog k3 #[p, .int .i64 n] W (Ans r3 W)) :
    Calls Tryz.prog 68 #[.int .i64 n, .slice (some ⟨b, 0, none⟩) 3 3] w (Ans (fst [r1, r2, r3]) w) := by
  have c0 := hB.cell (j := 0) rfl
  have hlt := hB.lt
  have HB := W_hid hB
  have h1 := W_hid h1
  have h2 := W_hid h2
  have h3 := W_hid h3
  clear hB
  go_enter Tryz.func68, Tryz.ntmps68
  go_wp2_with fail
  refine wp_loop_rounds 4 ?_
  rw [rounds_succ]
  go_wp2_with fail
  refine (h1.out w (Below.refl _ _)).mono ?_
  rintro e w1 ⟨rfl, b1⟩
  by_cases hr1 : r1 = 0
  · subst hr1
    have c1 := (HB.out.keep b1).cell (j := 1) rfl
    have B1 := W_hid b1
    clear b1
    go_wp2_with fail
    rw [rounds_succ]
    go_wp2_with fail
    refine (h2.out w1 (by simp) B1.out).mono ?_
    rintro e w2 ⟨rfl, b2⟩
    have b2 := B1.out.trans (b2.mono B1.out.size)
    by_cases hr2 : r2 = 0
    · subst hr2
      have c2 := (HB.out.keep b2).cell (j := 2) rfl
      have B2 := W_hid b2
      clear b2
      go_wp2_with fail
      rw [rounds_succ]
      go_wp2_with fail
      refine (h3.out w2 (by simp) (by simp) B2.out).mono ?_
      rintro e w3 ⟨rfl, b3⟩
      have b3 := B2.out.trans (b3.mono B2.out.size)
      by_cases hr3 : r3 = 0
      · subst hr3
        go_wp2_with fail
        rw [rounds_succ]
        go_wp2_with fail
        go_ret
        exact ⟨rfl, b3⟩
      · go_wp2_with fail
        go_ret
        exact ⟨by simp [fst, hr3], b3⟩
    · go_wp2_with fail
      go_ret
      exact ⟨by simp [fst, hr2], b2⟩
  · go_wp2_with fail
    go_ret
    exact ⟨by simp [fst, hr1], b1⟩
def askR (S : Int → Option Nd) (n : Int) (r : Nd → Int) : Int := match S n with | none => 11 | some d => r d
theorem ask_made (k : Nat) (hk : k = 69) (p : Value) (n : Int) (w : World) : (callFunc k #[p, .int .i64 n]).run Tryz.prog w = .ok (.enter k #[p, .int .i64 n]) w := by subst hk; kernel_rfl
section
variable {base sg mb : Nat} {M : Int → Option Nat} {I L left : Int} {S : Int → Option Nd}
theorem chk_blk (w : World) (l : List Value) (x : Nat) (hx : x = w.heap.size) : Blk (w.alloc (.cells l.toArray 78)) x 78 l := Blk.new w _ l hx
end
end IN
end Go.Proofs.YtmnmheocmcmpmaaGreat

namespace Go.Proofs.YtmnmheocmcmpmaaGreat
open Go.ChangeShapes Go.WideShapes Go.ChangeAt Go.RowKit
set_option linter.unusedVariables false
set_option linter.unusedSimpArgs false
def rdE (l : List (Int × ByteArray)) (s f n : Int) : Int := if EM.ok 0 l = true ∧ 0 ≤ s ∧ 0 ≤ f ∧ 0 ≤ n ∧ s ≤ 1048576 ∧ ends l ≤ s then 0 else 2
def rdV (l : List (Int × ByteArray)) (s f n : Int) : List UInt8 := if rdE l s f n = 0 then EM.rd l f (min n (s - f)).toNat else []
end Go.Proofs.YtmnmheocmcmpmaaGreat

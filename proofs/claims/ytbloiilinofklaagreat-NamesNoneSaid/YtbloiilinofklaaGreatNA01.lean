/- Contracts of package path's and the document's own functions on one string: a byte in a string, a component, a name. -/
import Derived.Test.YtbloiilinofklaaGreatRows
import Derived.WalkKit
import Derived.ProofKit
import Derived.KernelRfl
import Derived.Laws.AppendOwn
import Derived.WalkSmall
import Derived.OpenShut
import Derived.Laws.OwnMore
import Derived.Deep.OwnRows
import Derived.Maps.OwnSet
import Derived.Maps.RangeWalk
import Derived.Carry
import Derived.StringKeys
import Derived.Sort.MapsRangeIn
import Derived.Outline
import Derived.WalkLawsBesides
import Derived.Deep.QuietTactic
import Derived.BigQuiet
import Derived.Deep.RegionWith
import Derived.Deep.RegionLaw
import Derived.RegionTactic
import Derived.Deep.DeepAppendWide
import Derived.Laws.AppendOwnNone
import Derived.Maps.AppendAt
import Derived.Deep.RegionHeld3
import Derived.IntWalk
import Derived.Laws.BitsAllLaws
import Derived.Laws.BytesArg
import Derived.Laws.CopyOwn
import Derived.Lib.AppendStr
import Derived.Lib.BufferWrite

/- Paths as lists of byte strings: the parts of a text between slashes, a path's text, its normal form, and what holds of them; free of any program. -/
namespace Go.Proofs.YtbloiilinofklaaGreat
set_option linter.unusedVariables false
set_option linter.unusedSimpArgs false
namespace PM

def str (l : List UInt8) : ByteArray := ⟨l.toArray⟩
theorem str_list (l : List UInt8) : (str l).data.toList = l := by simp [str]
theorem str_of (s : ByteArray) : str s.data.toList = s := by simp [str]
theorem str_size (l : List UInt8) : (str l).size = l.length := by simp [str, ByteArray.size]
theorem list_size (s : ByteArray) : s.data.toList.length = s.size := Array.length_toList

/-- Does a byte stand in a string? -/
def has (s : ByteArray) (v : Nat) : Bool := s.data.toList.any fun c => c.toNat == v

/-- A component. -/
def comp (s : ByteArray) : Bool := decide (1 ≤ s.size) && decide (s.size ≤ 32) && !has s 47 && !has s 0

def dot : ByteArray := ⟨#[46]⟩
def dots : ByteArray := ⟨#[46, 46]⟩

def name (s : ByteArray) : Bool := comp s && decide (s ≠ dot) && decide (s ≠ dots)

/-- Names with a byte more each. -/
def tot (l : List ByteArray) : Nat := (l.map fun s => s.size + 1).sum

/-- How many bytes a path's text has. -/
def plen (a : Bool) (l : List ByteArray) (d : Bool) : Nat := (tot l - 1) + (if a then 1 else 0) + (if d && decide (0 < l.length) then 1 else 0)

/-- Is it a path? -/
def valid (a : Bool) (l : List ByteArray) (d : Bool) : Bool := if l = [] then a && d else l.all comp && decide (plen a l d ≤ 256)

/-- What stands behind the first name. -/
def behind : List ByteArray → List UInt8
  | [] => []
  | x :: r => 47 :: (x.data.toList ++ behind r)
def body : List ByteArray → List UInt8
  | [] => []
  | x :: r => x.data.toList ++ behind r
def text (a : Bool) (l : List ByteArray) (d : Bool) : List UInt8 := (if a then [47] else []) ++ body l ++ (if d && decide (0 < l.length) then [47] else [])

/-- The parts between slashes that are not empty; none where a part is too long. -/
def emit (cur : List UInt8) (acc : List ByteArray) : List ByteArray := if cur = [] then acc else acc ++ [str cur]
def split : List UInt8 → List ByteArray → List UInt8 → Option (List ByteArray)
  | cur, acc, [] => if 32 < cur.length then none else some (emit cur acc)
  | cur, acc, c :: r => if c.toNat = 47 then (if 32 < cur.length then none else split [] (emit cur acc) r) else split (cur ++ [c]) acc r

def names (s : ByteArray) : List ByteArray := (split [] [] s.data.toList).getD []
/-- The number of Parse's error. -/
def perr (s : ByteArray) : Int := if s.size = 0 then 11 else if 256 < s.size then 17 else if has s 0 then 2 else if (split [] [] s.data.toList).isNone then 17 else 0
def first (s : ByteArray) : Bool := s.data.toList.head?.any fun c => c.toNat == 47
def last (s : ByteArray) : Bool := s.data.toList.getLast?.any fun c => c.toNat == 47
def pA (s : ByteArray) : Bool := if perr s = 0 then first s else false
def pD (s : ByteArray) : Bool := if perr s = 0 then last s else false
def pN (s : ByteArray) : List ByteArray := if perr s = 0 then names s else []

/-- A path's normal form, name by name. -/
def step (a : Bool) (out : List ByteArray) (x : ByteArray) : List ByteArray :=
  if x = dot then out
  else if x = dots ∧ out ≠ [] ∧ out.getLast? ≠ some dots then out.dropLast
  else if x = dots ∧ out = [] ∧ a = true then out
  else out ++ [x]
def fold (a : Bool) (l : List ByteArray) : List ByteArray := l.foldl (step a) []
def normL (a : Bool) (l : List ByteArray) : List ByteArray := if fold a l = [] ∧ a = false then [dot] else fold a l
def normD (a : Bool) (l : List ByteArray) (d : Bool) : Bool := d || (decide (fold a l = []) && a)

/-! Totals. -/
theorem tot_nil : tot [] = 0 := rfl
theorem tot_cons (x : ByteArray) (l : List ByteArray) : tot (x :: l) = x.size + 1 + tot l := by simp [tot]
theorem tot_append (a b : List ByteArray) : tot (a ++ b) = tot a + tot b := by simp [tot]
theorem tot_snoc (a : List ByteArray) (x : ByteArray) : tot (a ++ [x]) = tot a + (x.size + 1) := by rw [tot_append]; simp [tot]
theorem tot_pos (l : List ByteArray) (h : l ≠ []) : 1 ≤ tot l := by
  cases l with
  | nil => exact absurd rfl h
  | cons x r => rw [tot_cons]; omega
theorem tot_len (l : List ByteArray) : l.length ≤ tot l := by
  induction l with
  | nil => simp [tot]
  | cons x r ih => rw [tot_cons, List.length_cons]; omega
theorem tot_sub {a b : List ByteArray} (h : List.Sublist a b) : tot a ≤ tot b := by
  induction h with
  | slnil => simp
  | cons x _ ih => rw [tot_cons]; omega
  | cons_cons x _ ih => rw [tot_cons, tot_cons]; omega
theorem tot_le (l : List ByteArray) (h : ∀ x ∈ l, comp x = true) : tot l ≤ 33 * l.length := by
  induction l with
  | nil => simp [tot]
  | cons x r ih =>
    have h1 := h x (by simp)
    have h2 := ih fun y hy => h y (by simp [hy])
    simp only [comp, Bool.and_eq_true, decide_eq_true_eq] at h1
    rw [tot_cons, List.length_cons]; omega

/-! Components. -/
theorem comp_iff (s : ByteArray) : comp s = true ↔ (1 ≤ s.size ∧ s.size ≤ 32) ∧ (∀ c ∈ s.data.toList, c.toNat ≠ 47) ∧ ∀ c ∈ s.data.toList, c.toNat ≠ 0 := by
  simp only [comp, has, Bool.and_eq_true, decide_eq_true_eq, Bool.not_eq_true', List.any_eq_false, beq_iff_eq]
  constructor
  · rintro ⟨⟨h1, h2⟩, h3⟩; exact ⟨h1, h2, h3⟩
  · rintro ⟨h1, h2, h3⟩; exact ⟨⟨h1, h2⟩, h3⟩
theorem comp_dot : comp dot = true := by decide
theorem comp_dots : comp dots = true := by decide
theorem dot_ne : dot ≠ dots := by decide

/-! The parts of a text. -/
theorem emit_nil (acc : List ByteArray) : emit [] acc = acc := by simp [emit]
theorem emit_tot (cur : List UInt8) (acc : List ByteArray) : tot (emit cur acc) = tot acc + (if cur = [] then 0 else cur.length + 1) := by
  unfold emit
  by_cases h : cur = []
  · simp [h]
  · rw [if_neg h, if_neg h, tot_snoc, str_size]

/-- Does a list of bytes end so that the next part begins anew? -/
def fresh (l : List UInt8) : Bool := l.getLast?.all fun c => c.toNat == 47
theorem fresh_cons (c d : UInt8) (r : List UInt8) : fresh (c :: d :: r) = fresh (d :: r) := by simp [fresh, List.getLast?_cons_cons]
theorem fresh_mid (a : List UInt8) (c : UInt8) (r : List UInt8) (h : r ≠ []) : fresh (a ++ c :: r) = fresh r := by
  unfold fresh
  rw [List.getLast?_append]
  obtain ⟨y, r', rfl⟩ := List.exists_cons_of_ne_nil h
  rw [List.getLast?_cons_cons]
  cases h2 : (y :: r').getLast? with
  | none => simp at h2
  | some z => simp

theorem split_tot : ∀ (r cur : List UInt8) (acc l : List ByteArray), (∀ c ∈ cur, c.toNat ≠ 47) → split cur acc r = some l → tot l ≤ tot acc + (cur ++ r).length + (if fresh (cur ++ r) then 0 else 1)
  | [], cur, acc, l, hc, h => by
    simp only [split] at h
    split at h
    · cases h
    · obtain rfl := Option.some.inj h
      rw [emit_tot, List.append_nil]
      by_cases h0 : cur = []
      · simp [h0]
      · rw [if_neg h0]
        have hf : fresh cur = false := by
          unfold fresh
          rw [List.getLast?_eq_some_getLast h0]
          simp only [Option.all_some, beq_eq_false_iff_ne, ne_eq]
          exact hc _ (List.getLast_mem h0)
        rw [hf]; simp; omega
  | c :: r, cur, acc, l, hc, h => by
    simp only [split] at h
    split at h
    · rename_i h47
      split at h
      · cases h
      · have ih := split_tot r [] (emit cur acc) l (by simp) h
        rw [emit_tot] at ih
        simp only [List.nil_append] at ih
        have hf : (if fresh r then 0 else 1) ≤ (if fresh (cur ++ c :: r) then 0 else 1) := by
          by_cases hr : r = []
          · subst hr; simp [fresh]
          · rw [fresh_mid _ _ _ hr]; exact Nat.le_refl _
        simp only [List.length_append, List.length_cons]
        split at ih <;> omega
    · rename_i h47
      have ih := split_tot r (cur ++ [c]) acc l (by
        intro x hx
        rcases List.mem_append.1 hx with h1 | h1
        · exact hc x h1
        · simp at h1; subst h1; exact h47) h
      simpa using ih

theorem split_pre : ∀ (r cur : List UInt8) (acc l : List ByteArray), split cur acc r = some l → ∃ m, l = acc ++ m ∧ (cur ≠ [] → m ≠ [])
  | [], cur, acc, l, h => by
    simp only [split] at h
    split at h
    · cases h
    · obtain rfl := Option.some.inj h
      unfold emit
      split
      · rename_i h0; exact ⟨[], by simp, fun h => absurd h0 h⟩
      · exact ⟨[str cur], rfl, fun _ => by simp⟩
  | c :: r, cur, acc, l, h => by
    simp only [split] at h
    split at h
    · split at h
      · cases h
      · obtain ⟨m, rfl, -⟩ := split_pre r [] (emit cur acc) l h
        unfold emit
        split
        · rename_i h0; exact ⟨m, rfl, fun h => absurd h0 h⟩
        · exact ⟨str cur :: m, by simp, fun _ => by simp⟩
    · obtain ⟨m, rfl, hm⟩ := split_pre r (cur ++ [c]) acc l h
      exact ⟨m, rfl, fun _ => hm (by simp)⟩

theorem split_empty : ∀ (r : List UInt8), split [] [] r = some [] → ∀ c ∈ r, c.toNat = 47
  | [], _, c, hc => by simp at hc
  | c :: r, h, x, hx => by
    simp only [split, emit_nil] at h
    split at h
    · rename_i h47
      rw [if_neg (by simp)] at h
      rcases List.mem_cons.1 hx with rfl | hx
      · exact h47
      · exact split_empty r h x hx
    · obtain ⟨m, hm, hne⟩ := split_pre r _ [] [] h
      have : m = [] := by simpa using hm.symm
      exact absurd this (hne (by simp))

theorem split_comp : ∀ (r cur : List UInt8) (acc l : List ByteArray), (∀ c ∈ cur, c.toNat ≠ 47) → (∀ c ∈ cur ++ r, c.toNat ≠ 0) → (∀ x ∈ acc, comp x = true) → split cur acc r = some l → ∀ x ∈ l, comp x = true := by
  have hem : ∀ (cur : List UInt8) (acc : List ByteArray), ¬ 32 < cur.length → (∀ c ∈ cur, c.toNat ≠ 47) → (∀ c ∈ cur, c.toNat ≠ 0) → (∀ x ∈ acc, comp x = true) → ∀ x ∈ emit cur acc, comp x = true := by
    intro cur acc h32 h1 h2 h3 x hx
    unfold emit at hx
    split at hx
    · exact h3 x hx
    · rename_i h0
      rcases List.mem_append.1 hx with hx | hx
      · exact h3 x hx
      · obtain rfl : x = str cur := by simpa using hx
        rw [comp_iff, str_list, str_size]
        have : cur.length ≠ 0 := fun h => h0 (List.eq_nil_of_length_eq_zero h)
        exact ⟨⟨by omega, by omega⟩, h1, h2⟩
  intro r
  induction r with
  | nil =>
    intro cur acc l h1 h2 h3 h
    simp only [split] at h
    split at h
    · cases h
    · rename_i h32
      obtain rfl := Option.some.inj h
      exact hem cur acc h32 h1 (by simpa using h2) h3
  | cons c r ih =>
    intro cur acc l h1 h2 h3 h
    simp only [split] at h
    split at h
    · split at h
      · cases h
      · rename_i h32
        exact ih [] (emit cur acc) l (by simp) (fun x hx => h2 x (by simp only [List.nil_append] at hx; simp [hx])) (hem cur acc h32 h1 (fun x hx => h2 x (by simp [hx])) h3) h
    · rename_i h47
      refine ih (cur ++ [c]) acc l ?_ (by simpa using h2) h3 h
      intro x hx
      rcases List.mem_append.1 hx with hx | hx
      · exact h1 x hx
      · obtain rfl : x = c := by simpa using hx
        exact h47

theorem split_run : ∀ (x cur : List UInt8) (acc : List ByteArray) (r : List UInt8), (∀ c ∈ x, c.toNat ≠ 47) → split cur acc (x ++ r) = split (cur ++ x) acc r
  | [], cur, acc, r, _ => by simp
  | c :: x, cur, acc, r, h => by
    rw [List.cons_append, split, if_neg (h c (by simp)), split_run x _ acc r fun y hy => h y (by simp [hy])]
    simp

theorem split_slash (r : List UInt8) (acc : List ByteArray) : split [] acc (47 :: r) = split [] acc r := by
  rw [split, if_pos (by rfl), if_neg (by simp), emit_nil]

theorem split_name (x : ByteArray) (hx : comp x = true) (acc : List ByteArray) (r : List UInt8) : split [] acc (x.data.toList ++ 47 :: r) = split [] (acc ++ [x]) r := by
  obtain ⟨⟨h1, h2⟩, h3, -⟩ := (comp_iff x).1 hx
  have hl := list_size x
  rw [split_run _ _ _ _ h3, List.nil_append, split, if_pos (by rfl), if_neg (by omega), emit, if_neg (fun h => by rw [h] at hl; simp at hl; omega), str_of]

theorem split_name_end (x : ByteArray) (hx : comp x = true) (acc : List ByteArray) : split [] acc x.data.toList = some (acc ++ [x]) := by
  obtain ⟨⟨h1, h2⟩, h3, -⟩ := (comp_iff x).1 hx
  have hl := list_size x
  have := split_run x.data.toList [] acc [] h3
  rw [List.append_nil] at this
  rw [this, List.nil_append, split, if_neg (by omega), emit, if_neg (fun h => by rw [h] at hl; simp at hl; omega), str_of]

theorem split_body : ∀ (r : List ByteArray) (x : ByteArray) (acc : List ByteArray) (d : Bool), (∀ y ∈ x :: r, comp y = true) →
    split [] acc (x.data.toList ++ behind r ++ (if d then [47] else [])) = some (acc ++ x :: r)
  | [], x, acc, d, h => by
    have hx := h x (by simp)
    cases d with
    | true => simp only [behind, List.append_nil, if_true]; rw [split_name x hx, split, if_neg (by simp), emit_nil]
    | false => simp only [behind, List.append_nil, Bool.false_eq_true, if_false]; exact split_name_end x hx acc
  | y :: r, x, acc, d, h => by
    have hx := h x (by simp)
    have ih := split_body r y (acc ++ [x]) d fun z hz => h z (by simp [List.mem_cons.1 hz])
    have e : x.data.toList ++ behind (y :: r) ++ (if d then [47] else []) = x.data.toList ++ 47 :: (y.data.toList ++ behind r ++ (if d then [47] else [])) := by simp [behind]
    rw [e, split_name x hx, ih]
    simp

theorem split_text (a : Bool) (l : List ByteArray) (d : Bool) (h : ∀ x ∈ l, comp x = true) : split [] [] (text a l d) = some l := by
  have h1 : split [] [] (body l ++ (if d && decide (0 < l.length) then [47] else [])) = some l := by
    cases l with
    | nil => simp [body, split, emit]
    | cons x r =>
      have := split_body r x [] d h
      simpa [body] using this
  unfold text
  cases a with
  | false => simpa using h1
  | true =>
    have e : (if true = true then [(47 : UInt8)] else []) ++ body l ++ (if d && decide (0 < l.length) then [47] else []) = 47 :: (body l ++ (if d && decide (0 < l.length) then [47] else [])) := by simp
    rw [e, split_slash]
    exact h1

theorem split_twice : ∀ (a cur : List UInt8) (acc : List ByteArray) (r : List UInt8), split cur acc (a ++ 47 :: 47 :: r) = split cur acc (a ++ 47 :: r)
  | [], cur, acc, r => by
    simp only [List.nil_append]
    have e : ∀ q, split cur acc (47 :: q) = if 32 < cur.length then none else split [] (emit cur acc) q := fun q => by
      rw [split, if_pos (by rfl)]
    rw [e, e, split_slash]
  | c :: a, cur, acc, r => by
    simp only [List.cons_append]
    rw [split, split, split_twice a, split_twice a]

/-! A path's text. -/
theorem behind_length : ∀ l : List ByteArray, (behind l).length = tot l
  | [] => rfl
  | x :: r => by simp only [behind, List.length_cons, List.length_append, list_size, behind_length r, tot_cons]; omega
theorem body_length (l : List ByteArray) : (body l).length = tot l - 1 := by
  cases l with
  | nil => rfl
  | cons x r => simp only [body, List.length_append, list_size, behind_length, tot_cons]; omega
theorem text_length (a : Bool) (l : List ByteArray) (d : Bool) : (text a l d).length = plen a l d := by
  unfold text plen
  simp only [List.length_append, body_length]
  cases a <;> cases (d && decide (0 < l.length)) <;> simp <;> omega
theorem behind_append : ∀ a b : List ByteArray, behind (a ++ b) = behind a ++ behind b
  | [], b => rfl
  | x :: a, b => by simp only [List.cons_append, behind, behind_append a b, List.append_assoc]
theorem body_snoc (l : List ByteArray) (x : ByteArray) : body (l ++ [x]) = body l ++ ((if 0 < l.length then [47] else []) ++ x.data.toList) := by
  cases l with
  | nil => simp [body, behind]
  | cons y r => simp [body, behind_append, behind]
theorem take_snoc (l : List ByteArray) (k : Nat) (h : k < l.length) : l.take (k + 1) = l.take k ++ [l[k]] := List.take_succ_eq_append_getElem h
theorem tot_take (l : List ByteArray) (k : Nat) : tot (l.take k) ≤ tot l := tot_sub (List.take_sublist k l)

theorem valid_some {a d : Bool} {l : List ByteArray} (h : valid a l d = true) (hl : l ≠ []) : (∀ x ∈ l, comp x = true) ∧ plen a l d ≤ 256 := by
  unfold valid at h
  rw [if_neg hl] at h
  simp only [Bool.and_eq_true, decide_eq_true_eq, List.all_eq_true] at h
  exact h
theorem valid_root {a d : Bool} (h : valid a [] d = true) : a = true ∧ d = true := by simpa [valid] using h
theorem valid_comp {a d : Bool} {l : List ByteArray} (h : valid a l d = true) : ∀ x ∈ l, comp x = true := by
  by_cases hl : l = []
  · subst hl; simp
  · exact (valid_some h hl).1
theorem valid_len {a d : Bool} {l : List ByteArray} (h : valid a l d = true) : plen a l d ≤ 256 := by
  by_cases hl : l = []
  · subst hl; unfold plen; simp [tot]; cases a <;> simp
  · exact (valid_some h hl).2
theorem valid_tot {a d : Bool} {l : List ByteArray} (h : valid a l d = true) : tot l ≤ 257 := by
  have := valid_len h; unfold plen at this; omega
theorem valid_count {a d : Bool} {l : List ByteArray} (h : valid a l d = true) : l.length ≤ 257 := Nat.le_trans (tot_len l) (valid_tot h)

theorem body_first (x : ByteArray) (r : List ByteArray) (hx : comp x = true) (t : List UInt8) : ∃ c, (body (x :: r) ++ t).head? = some c ∧ c.toNat ≠ 47 := by
  obtain ⟨⟨h1, -⟩, h3, -⟩ := (comp_iff x).1 hx
  have hl := list_size x
  cases hd : x.data.toList with
  | nil => rw [hd] at hl; simp at hl; omega
  | cons c s => exact ⟨c, by simp [body, hd], h3 c (by simp [hd])⟩
theorem behind_last : ∀ (l : List ByteArray) (h : l ≠ []), (∀ x ∈ l, comp x = true) → ∃ c, (behind l).getLast? = some c ∧ c.toNat ≠ 47
  | [x], _, hc => by
    obtain ⟨⟨h1, -⟩, h3, -⟩ := (comp_iff x).1 (hc x (by simp))
    have hl := list_size x
    have hne : x.data.toList ≠ [] := fun h => by rw [h] at hl; simp at hl; omega
    refine ⟨x.data.toList.getLast hne, ?_, h3 _ (List.getLast_mem hne)⟩
    simp only [behind, List.append_nil]
    rw [List.getLast?_cons, List.getLast?_eq_some_getLast hne]; rfl
  | x :: y :: r, _, hc => by
    obtain ⟨c, h1, h2⟩ := behind_last (y :: r) (by simp) fun z hz => hc z (by simp [List.mem_cons.1 hz])
    refine ⟨c, ?_, h2⟩
    rw [behind, List.getLast?_cons, List.getLast?_append, h1]; rfl
theorem body_last (l : List ByteArray) (h : l ≠ []) (hc : ∀ x ∈ l, comp x = true) : ∃ c, (body l).getLast? = some c ∧ c.toNat ≠ 47 := by
  cases l with
  | nil => exact absurd rfl h
  | cons x r =>
    cases r with
    | nil =>
      obtain ⟨c, h1, h2⟩ := behind_last [x] (by simp) hc
      refine ⟨c, ?_, h2⟩
      obtain ⟨⟨h1', -⟩, -⟩ := (comp_iff x).1 (hc x (by simp))
      have hl := list_size x
      have hne : x.data.toList ≠ [] := fun h => by rw [h] at hl; simp at hl; omega
      simp only [behind, List.append_nil] at h1
      rw [List.getLast?_cons, List.getLast?_eq_some_getLast hne] at h1
      simp only [body, behind, List.append_nil]
      rw [List.getLast?_eq_some_getLast hne]; exact h1
    | cons y r =>
      obtain ⟨c, h1, h2⟩ := behind_last (y :: r) (by simp) fun z hz => hc z (by simp [List.mem_cons.1 hz])
      refine ⟨c, ?_, h2⟩
      rw [body, List.getLast?_append, h1]; rfl

theorem body_no0 (l : List ByteArray) (hc : ∀ x ∈ l, comp x = true) : ∀ c ∈ body l, c.toNat ≠ 0 := by
  have hb : ∀ (l : List ByteArray), (∀ x ∈ l, comp x = true) → ∀ c ∈ behind l, c.toNat ≠ 0 := by
    intro l
    induction l with
    | nil => intro _ c hc; simp [behind] at hc
    | cons x r ih =>
      intro h c hc
      simp only [behind, List.mem_cons, List.mem_append] at hc
      rcases hc with rfl | hc | hc
      · decide
      · exact ((comp_iff x).1 (h x (by simp))).2.2 c hc
      · exact ih (fun y hy => h y (by simp [hy])) c hc
  cases l with
  | nil => intro c hc; simp [body] at hc
  | cons x r =>
    intro c h
    simp only [body, List.mem_append] at h
    rcases h with h | h
    · exact ((comp_iff x).1 (hc x (by simp))).2.2 c h
    · exact hb r (fun y hy => hc y (by simp [hy])) c h

/-- What was shown is read as it was. -/
theorem parse_text {a d : Bool} {l : List ByteArray} (h : valid a l d = true) :
    perr (str (text a l d)) = 0 ∧ pA (str (text a l d)) = a ∧ pD (str (text a l d)) = d ∧ pN (str (text a l d)) = l := by
  have hc := valid_comp h
  have hlen : (text a l d).length ≤ 256 := by rw [text_length]; exact valid_len h
  have hne : 1 ≤ (text a l d).length := by
    rw [text_length]; unfold plen
    cases l with
    | nil => obtain ⟨rfl, rfl⟩ := valid_root h; simp
    | cons x r =>
      have := ((comp_iff x).1 (hc x (by simp))).1.1
      rw [tot_cons]; omega
  have h0 : has (str (text a l d)) 0 = false := by
    simp only [has, str_list, List.any_eq_false, beq_iff_eq]
    intro c hcm
    unfold text at hcm
    simp only [List.mem_append] at hcm
    rcases hcm with (hcm | hcm) | hcm
    · split at hcm
      · simp at hcm; subst hcm; decide
      · simp at hcm
    · exact body_no0 l hc c hcm
    · split at hcm
      · simp at hcm; subst hcm; decide
      · simp at hcm
  have hs := split_text a l d hc
  have he : perr (str (text a l d)) = 0 := by
    unfold perr
    rw [str_size, str_list, if_neg (by omega), if_neg (by omega), h0, hs]; simp
  refine ⟨he, ?_, ?_, ?_⟩
  · unfold pA first
    rw [if_pos he, str_list]
    cases a with
    | true => simp [text]
    | false =>
      cases l with
      | nil => have := (valid_root h).1; cases this
      | cons x r =>
        obtain ⟨c, h1, h2⟩ := body_first x r (hc x (by simp)) (if d && decide (0 < (x :: r).length) then [47] else [])
        simp only [text, Bool.false_eq_true, if_false, List.nil_append]
        rw [h1]; simp [h2]
  · unfold pD PM.last
    rw [if_pos he, str_list]
    cases l with
    | nil =>
      obtain ⟨rfl, rfl⟩ := valid_root h
      simp [text, body]
    | cons x r =>
      cases d with
      | true => simp [text]
      | false =>
        obtain ⟨c, h1, h2⟩ := body_last (x :: r) (by simp) hc
        simp only [text, Bool.false_and, Bool.false_eq_true, if_false, List.append_nil]
        rw [List.getLast?_append, h1]; simp [h2]
  · unfold pN names
    rw [if_pos he, str_list, hs]; rfl

/-- What was read is a path, and its text is no longer. -/
theorem parse_valid {s : ByteArray} (h : perr s = 0) : valid (pA s) (pN s) (pD s) = true ∧ plen (pA s) (pN s) (pD s) ≤ s.size := by
  have hE := h
  unfold perr at h
  split at h
  · cases h
  split at h
  · cases h
  split at h
  · cases h
  split at h
  · cases h
  rename_i h0 h256 hz hs
  obtain ⟨l, hl⟩ : ∃ l, split [] [] s.data.toList = some l := by
    cases hx : split [] [] s.data.toList with
    | none => rw [hx] at hs; simp at hs
    | some l => exact ⟨l, rfl⟩
  have hN : pN s = l := by unfold pN names; rw [if_pos hE, hl]; rfl
  have hA : pA s = first s := by unfold pA; rw [if_pos hE]
  have hD : pD s = PM.last s := by unfold pD; rw [if_pos hE]
  rw [hN, hA, hD]
  have hsz := list_size s
  have hz' : ∀ c ∈ s.data.toList, c.toNat ≠ 0 := by
    simp only [has, Bool.not_eq_true, List.any_eq_false, beq_iff_eq] at hz
    exact hz
  have hcomp : ∀ x ∈ l, comp x = true := split_comp s.data.toList [] [] l (by simp) (by simpa using hz') (by simp) hl
  obtain ⟨c, r, hcr⟩ : ∃ c r, s.data.toList = c :: r := by
    cases hx : s.data.toList with
    | nil => rw [hx] at hsz; simp at hsz; omega
    | cons c r => exact ⟨c, r, rfl⟩
  have hfirst : first s = (c.toNat == 47) := by unfold first; rw [hcr]; rfl
  have hfresh : fresh s.data.toList = PM.last s := by
    unfold fresh PM.last
    rw [hcr]
    cases hx : (c :: r).getLast? with
    | none => simp at hx
    | some z => rfl
  have hbound : l ≠ [] → plen (first s) l (PM.last s) ≤ s.size := by
    intro hne
    have htp := tot_pos l hne
    have hlp : 0 < l.length := by cases l with
      | nil => exact absurd rfl hne
      | cons x r => simp
    unfold plen
    by_cases hc47 : c.toNat = 47
    · have h1 : split [] [] r = some l := by
        rw [hcr, split, if_pos hc47, if_neg (by simp), emit_nil] at hl; exact hl
      have h2 := split_tot r [] [] l (by simp) h1
      rw [List.nil_append, tot_nil, Nat.zero_add] at h2
      have hr : fresh r = true ∨ fresh r = PM.last s := by
        by_cases hr : r = []
        · subst hr; exact .inl rfl
        · right
          rw [← hfresh, hcr]
          exact (fresh_mid [] c r hr).symm
      rw [hfirst, show (c.toNat == 47) = true from by simpa using hc47]
      rw [hcr] at hsz
      simp only [List.length_cons] at hsz
      simp only [if_true]
      rcases hr with hr | hr
      · rw [hr] at h2; simp only [if_true] at h2
        split <;> omega
      · rw [hr] at h2
        cases hd : PM.last s with
        | true => rw [hd] at h2; simp only [if_true] at h2; split <;> omega
        | false => rw [hd] at h2; simp at h2 ⊢; omega
    · rw [hfirst, show (c.toNat == 47) = false from by simpa using hc47]
      have h2 := split_tot s.data.toList [] [] l (by simp) hl
      simp only [List.nil_append, tot_nil, Nat.zero_add, hfresh, hsz] at h2
      cases hd : PM.last s with
      | true => rw [hd] at h2; simp only [if_true] at h2; simp [hlp]; omega
      | false => rw [hd] at h2; simp at h2 ⊢; omega
  by_cases hne : l = []
  · subst hne
    have hall := split_empty _ hl
    have h1 : first s = true := by rw [hfirst]; simpa using hall c (by rw [hcr]; simp)
    have h2 : PM.last s = true := by
      rw [← hfresh]; unfold fresh
      rw [hcr]
      cases hx : (c :: r).getLast? with
      | none => simp at hx
      | some z =>
        have := hall z (by rw [hcr]; exact List.mem_of_getLast? hx)
        simpa using this
    rw [h1, h2]
    exact ⟨by simp [valid], by simp [plen, tot]; omega⟩
  · refine ⟨?_, hbound hne⟩
    unfold valid
    rw [if_neg hne]
    simp only [Bool.and_eq_true, decide_eq_true_eq, List.all_eq_true]
    exact ⟨hcomp, by have := hbound hne; omega⟩

/-- A slash more behind a slash makes no difference. -/
theorem parse_slash (a r : List UInt8) (h : (a ++ 47 :: r).length < 256) :
    perr (str (a ++ 47 :: 47 :: r)) = perr (str (a ++ 47 :: r)) ∧ pA (str (a ++ 47 :: 47 :: r)) = pA (str (a ++ 47 :: r)) ∧ pD (str (a ++ 47 :: 47 :: r)) = pD (str (a ++ 47 :: r)) ∧ pN (str (a ++ 47 :: 47 :: r)) = pN (str (a ++ 47 :: r)) := by
  have hs := split_twice a [] [] r
  have h0 : has (str (a ++ 47 :: 47 :: r)) 0 = has (str (a ++ 47 :: r)) 0 := by simp [has, str_list]
  have he : perr (str (a ++ 47 :: 47 :: r)) = perr (str (a ++ 47 :: r)) := by
    unfold perr
    rw [h0, str_list, str_list, hs, str_size, str_size]
    simp only [List.length_append, List.length_cons] at h ⊢
    rw [if_neg (by omega : ¬ a.length + (r.length + 1 + 1) = 0), if_neg (by omega : ¬ 256 < a.length + (r.length + 1 + 1)), if_neg (by omega : ¬ a.length + (r.length + 1) = 0), if_neg (by omega : ¬ 256 < a.length + (r.length + 1))]
  refine ⟨he, ?_, ?_, ?_⟩
  · unfold pA first; rw [he, str_list, str_list]; cases a <;> simp
  · unfold pD PM.last; rw [he, str_list, str_list]; simp [List.getLast?_append, List.getLast?_cons_cons]
  · unfold pN names; rw [he, str_list, str_list, hs]

/-! The normal form. -/
theorem step_sub (a : Bool) (out : List ByteArray) (x : ByteArray) : List.Sublist (step a out x) (out ++ [x]) := by
  unfold step
  split
  · exact List.sublist_append_left _ _
  split
  · exact (List.dropLast_sublist _).trans (List.sublist_append_left _ _)
  split
  · exact List.sublist_append_left _ _
  · exact List.Sublist.refl _
theorem foldl_sub (a : Bool) : ∀ (l acc : List ByteArray), List.Sublist (l.foldl (step a) acc) (acc ++ l)
  | [], acc => by simp
  | x :: l, acc => by
    have h1 := foldl_sub a l (step a acc x)
    have h2 : List.Sublist (step a acc x ++ l) (acc ++ [x] ++ l) := (step_sub a acc x).append (List.Sublist.refl l)
    simpa using h1.trans h2
theorem fold_sub (a : Bool) (l : List ByteArray) : List.Sublist (fold a l) l := foldl_sub a l []

/-- The shape of a normal form: double dots ahead of names that are none. -/
def Shape (a : Bool) (o : List ByteArray) : Prop := ∃ k p, o = List.replicate k dots ++ p ∧ (∀ x ∈ p, x ≠ dot ∧ x ≠ dots) ∧ (a = true → k = 0)
theorem Shape.nil (a : Bool) : Shape a [] := ⟨0, [], rfl, by simp, fun _ => rfl⟩
theorem Shape.no_dots {o : List ByteArray} (h : Shape true o) : dots ∉ o := by
  obtain ⟨k, p, rfl, hp, hk⟩ := h
  rw [hk rfl]
  intro hm
  simp at hm
  exact (hp dots hm).2 rfl
theorem step_shape {a : Bool} {o : List ByteArray} (h : Shape a o) (x : ByteArray) : Shape a (step a o x) := by
  unfold step
  split
  · exact h
  rename_i hdot
  obtain ⟨k, p, rfl, hp, hk⟩ := h
  split
  · rename_i hc
    obtain ⟨-, hne, hlast⟩ := hc
    rcases List.eq_nil_or_concat p with rfl | ⟨q, y, rfl⟩
    · exfalso
      simp only [List.append_nil] at hlast hne
      cases k with
      | zero => exact hne rfl
      | succ k => rw [List.getLast?_replicate] at hlast; simp at hlast
    · refine ⟨k, q, ?_, fun z hz => hp z (by simp [hz]), hk⟩
      rw [List.concat_eq_append, ← List.append_assoc, List.dropLast_concat]
  split
  · exact ⟨k, p, rfl, hp, hk⟩
  · rename_i h1 h2
    by_cases hx : x = dots
    · subst hx
      have hpn : p = [] := by
        rcases List.eq_nil_or_concat p with rfl | ⟨q, y, rfl⟩
        · rfl
        · exfalso
          apply h1
          refine ⟨rfl, by simp, ?_⟩
          have hy := (hp y (by simp)).2
          rw [List.concat_eq_append, ← List.append_assoc, List.getLast?_concat]
          simpa using hy
      subst hpn
      refine ⟨k + 1, [], by simp [List.replicate_succ'], by simp, fun ha => ?_⟩
      have hk0 := hk ha
      subst hk0
      exact absurd ⟨rfl, rfl, ha⟩ h2
    · refine ⟨k, p ++ [x], by simp, fun z hz => ?_, hk⟩
      rcases List.mem_append.1 hz with hz | hz
      · exact hp z hz
      · obtain rfl : z = x := by simpa using hz
        exact ⟨hdot, hx⟩
theorem foldl_shape (a : Bool) : ∀ (l acc : List ByteArray), Shape a acc → Shape a (l.foldl (step a) acc)
  | [], _, h => h
  | x :: l, _, h => foldl_shape a l _ (step_shape h x)
theorem fold_shape (a : Bool) (l : List ByteArray) : Shape a (fold a l) := foldl_shape a l [] (Shape.nil a)

theorem foldl_plain (a : Bool) : ∀ (p acc : List ByteArray), (∀ x ∈ p, x ≠ dot ∧ x ≠ dots) → p.foldl (step a) acc = acc ++ p
  | [], acc, _ => by simp
  | x :: p, acc, h => by
    obtain ⟨h1, h2⟩ := h x (by simp)
    rw [List.foldl_cons, foldl_plain a p _ fun y hy => h y (by simp [hy])]
    unfold step
    rw [if_neg h1, if_neg (fun h => h2 h.1), if_neg (fun h => h2 h.1)]
    simp
theorem foldl_dots : ∀ (k j : Nat), (List.replicate k dots).foldl (step false) (List.replicate j dots) = List.replicate (j + k) dots
  | 0, j => by simp
  | k + 1, j => by
    rw [List.replicate_succ, List.foldl_cons]
    have : step false (List.replicate j dots) dots = List.replicate (j + 1) dots := by
      unfold step
      rw [if_neg (fun h => dot_ne h.symm), if_neg, if_neg (fun h => by cases h.2.2), List.replicate_succ']
      rintro ⟨-, hne, hl⟩
      cases j with
      | zero => simp at hne
      | succ j => rw [List.getLast?_replicate] at hl; simp at hl
    rw [this, foldl_dots k (j + 1)]
    congr 1; omega
theorem fold_of_shape {a : Bool} {o : List ByteArray} (h : Shape a o) : fold a o = o := by
  obtain ⟨k, p, rfl, hp, hk⟩ := h
  unfold fold
  rw [List.foldl_append, foldl_plain a p _ hp]
  congr 1
  cases a with
  | true => rw [hk rfl]; rfl
  | false =>
    have := foldl_dots k 0
    simpa using this
theorem fold_dot : fold false [dot] = [] := by simp [fold, step]

theorem norm_valid {a d : Bool} {l : List ByteArray} (h : valid a l d = true) : valid a (normL a l) (normD a l d) = true := by
  have hsub := fold_sub a l
  have hc := valid_comp h
  unfold normL normD
  by_cases h0 : fold a l = []
  · cases a with
    | true => simp [h0, valid]
    | false =>
      have hl : l ≠ [] := fun e => by subst e; have := (valid_root h).1; cases this
      have hlen := valid_len h
      obtain ⟨x, r, rfl⟩ := List.exists_cons_of_ne_nil hl
      have h1 := ((comp_iff x).1 (hc x (by simp))).1.1
      simp only [h0, true_and, if_true, decide_true, Bool.and_false, Bool.or_false]
      unfold valid
      rw [if_neg (by simp)]
      simp only [List.all_cons, List.all_nil, Bool.and_true, Bool.and_eq_true, decide_eq_true_eq]
      refine ⟨comp_dot, ?_⟩
      unfold plen at hlen ⊢
      have e : tot [dot] = 2 := rfl
      have e2 := tot_cons x r
      rw [e]
      cases d <;> simp
  · rw [if_neg (fun e => h0 e.1)]
    simp only [h0, decide_false, Bool.false_and, Bool.or_false]
    have hl : l ≠ [] := fun e => by subst e; exact h0 rfl
    have hlen := valid_len h
    have ht := tot_sub hsub
    unfold valid
    rw [if_neg h0]
    simp only [Bool.and_eq_true, decide_eq_true_eq, List.all_eq_true]
    refine ⟨fun x hx => hc x (hsub.subset hx), ?_⟩
    have hp1 : 0 < l.length := List.length_pos_iff.2 hl
    have hp2 : 0 < (fold a l).length := List.length_pos_iff.2 h0
    unfold plen at hlen ⊢
    simp only [hp1, hp2, decide_true, Bool.and_true] at hlen ⊢
    omega
/-- The normal form of a normal form is it. -/
theorem norm_again (a d : Bool) (l : List ByteArray) : normL a (normL a l) = normL a l ∧ normD a (normL a l) (normD a l d) = normD a l d := by
  have hs := fold_of_shape (fold_shape a l)
  unfold normL normD
  by_cases h0 : fold a l = []
  · cases a with
    | true =>
      have : fold true ([] : List ByteArray) = [] := rfl
      simp [h0, this]
    | false => simp [h0, fold_dot]
  · simp [h0, hs]

/-- The program's own way to remove a name is the document's. -/
theorem step_prog {a : Bool} {o : List ByteArray} (h : Shape a o) (x : ByteArray) :
    step a o x = if x = dot then o else if x = dots then (if o ≠ [] ∧ o.getLast? ≠ some dots then o.dropLast else if a then o else o ++ [x]) else o ++ [x] := by
  unfold step
  by_cases h1 : x = dot
  · rw [if_pos h1, if_pos h1]
  rw [if_neg h1, if_neg h1]
  by_cases h2 : x = dots
  · subst h2
    simp only [true_and, if_true]
    by_cases h3 : o ≠ [] ∧ o.getLast? ≠ some dots
    · rw [if_pos h3, if_pos h3]
    · rw [if_neg h3, if_neg h3]
      cases a with
      | false => simp
      | true =>
        have ho : o = [] := by
          apply Classical.byContradiction
          intro hne
          have hl : o.getLast? = some dots := by
            apply Classical.byContradiction
            intro hl; exact h3 ⟨hne, hl⟩
          exact h.no_dots (List.mem_of_getLast? hl)
        simp [ho]
  · simp [h2]

end PM
end Go.Proofs.YtbloiilinofklaaGreat

/- Small words that the texts of all layers share: a fact hidden from the walk, results that are equations, what is known of the elements of slices. -/
namespace Go.Proofs.YtbloiilinofklaaGreat
open Go.ChangeShapes Go.WideShapes Go.ChangeAt Go.RowKit

theorem W_hid {p : Prop} (h : p) : Hid p := h
theorem ret_int {k : IntKind} {a b : Int} (h : a = b) : Ending.returned (.int k a) = .returned (.int k b) := by rw [h]
theorem ret_bool {a b : Bool} (h : a = b) : Ending.returned (.bool a) = .returned (.bool b) := by rw [h]
theorem ret_i64 {a b : Int} (h : a = b) : Ending.returned (.int .i64 a) = .returned (.int .i64 b) := by rw [h]
theorem ret_u64 {a b : Int} (h : a = b) : Ending.returned (.int .u64 a) = .returned (.int .u64 b) := by rw [h]
theorem info_byte : (Tryz.prog.info? 5).map (fun i => (i.zero, i.size, i.bytes)) = some (some (.int .u8 0), 1, 1) := by kernel_rfl

theorem own_ge {w : World} {base e size n : Nat} {v : Value} {xs : List Value} (hown : w.ownsRow base e size v n xs) (g : Nat) (hg : v.ownBlock = some g) : base ≤ g := by
  rcases hown.2 with ⟨rfl, _⟩ | ⟨g', cap, cur, rfl, hb, _⟩
  · cases hg
  · cases hg; exact hb
theorem own_base {w : World} {base base' e size : Nat} {v : Value} {n : Nat} {xs : List Value} (h : base' ≤ base) (hown : w.ownsRow base e size v n xs) : w.ownsRow base' e size v n xs := by
  rcases hown.2 with h0 | ⟨g, cap, cur, h1, h2, h3⟩
  · exact ⟨hown.1, .inl h0⟩
  · exact ⟨hown.1, .inr ⟨g, cap, cur, h1, Nat.le_trans h h2, h3⟩⟩

end Go.Proofs.YtbloiilinofklaaGreat

/- Blocks of memory known whole (Blk), what a call leaves that writes into two blocks at most (Two), rows that make lays, a slice of integers that came in; free of any program's numbers. -/
namespace Go.Proofs.YtbloiilinofklaaGreat
open Go.ChangeShapes Go.WideShapes Go.ChangeAt Go.RowKit
set_option linter.unusedVariables false
set_option linter.unusedSimpArgs false

theorem laidOut : laidOutB Tryz.prog = true := by kernel_rfl
theorem cell_lt {w : World} {p : Addr} {v : Value} (h : w.cell? p = some v) : p.block < w.heap.size := World.block_lt_of_cell? w p h
theorem bundrew {B : Nat} {w w' : World} (h : Below B w.drew w') : Below B w w' := ⟨h.os, h.tape, h.output, h.size, h.block⟩

/-- Block g is these cells. -/
def Blk (w : World) (g : Nat) (e : TypeId) (l : List Value) : Prop := w.heap[g]? = some (.cells l.toArray e (0, 0))

section
variable {w w' : World} {g : Nat} {e : TypeId} {l : List Value}
theorem Blk.cell (h : Blk w g e l) {j : Nat} {v : Value} (hj : l[j]? = some v) : w.cell? ⟨g, j, none⟩ = some v := by
  rw [cell_of_row w g j _ _ _ h]; simpa using hj
theorem Blk.fz (h : Blk w g e l) (i : Nat) : w.frozen? ⟨g, i, none⟩ = false := by unfold Blk at h; simp [World.frozen?, h]
theorem Blk.lt (h : Blk w g e l) : g < w.heap.size := by
  rcases Nat.lt_or_ge g w.heap.size with hlt | hge
  · exact hlt
  · unfold Blk at h; rw [Array.getElem?_eq_none hge] at h; cases h
theorem Blk.below {B : Nat} (h : Blk w g e l) (hb : Below B w w') (hg : g < B) : Blk w' g e l := (hb.block g hg).trans h
theorem Blk.keep (h : Blk w g e l) (hb : Below w.heap.size w w') : Blk w' g e l := h.below hb h.lt
theorem Blk.alloc (h : Blk w g e l) (o : Obj) : Blk (w.alloc o) g e l := (Below.heap_alloc w o g h.lt).trans h
theorem Blk.grown {row : Option Nat} (h : Blk w g e l) (hb : w.grownBy w' row) (hg : some g ≠ row) : Blk w' g e l := (hb.block g h.lt hg).trans h
theorem Blk.far (h : Blk w g e l) {p : Addr} (hp : g ≠ p.block) (u : Value) : Blk (w.setCell p u) g e l := (Below.heap_setCell w p u g hp).trans h
theorem Blk.set (h : Blk w g e l) (j : Nat) (u : Value) : Blk (w.setCell ⟨g, j, none⟩ u) g e (l.set j u) := by
  unfold Blk at h ⊢
  rw [heap_setCell_same w g j _ _ u h]
  simp
theorem Blk.own {base size n cap : Nat} (h : w.ownsRow base e size (.slice (some ⟨g, 0, none⟩) n n) n l) : Blk w g e l := by
  rcases h.2 with ⟨h', _⟩ | ⟨g', cap', cur, h', _, hg, _, _, hcs, htake⟩
  · simp at h'
  · simp only [Value.slice.injEq, Option.some.injEq, Addr.mk.injEq, and_true, true_and] at h'
    obtain ⟨rfl, rfl⟩ := h'
    rw [List.take_of_length_le (by simp; omega)] at htake
    unfold Blk
    rw [hg, ← htake]
end
theorem Blk.new (w : World) (e : TypeId) (l : List Value) {x : Nat} (hx : x = w.heap.size) : Blk (w.alloc (.cells l.toArray e)) x e l := by subst hx; exact heap_alloc_new w _

/-- All that was there is there, but for blocks g and b. -/
structure Two (g b : Nat) (w w' : World) : Prop where
  os : w'.os = w.os
  tape : w'.tape = w.tape
  output : w'.output = w.output
  size : w.heap.size ≤ w'.heap.size
  block : ∀ k, k < w.heap.size → k ≠ g → k ≠ b → w'.heap[k]? = w.heap[k]?

section
variable {w w' w2 : World} {g b : Nat}
theorem Two.of (h : Below w.heap.size w w') : Two g b w w' := ⟨h.os, h.tape, h.output, h.size, fun k hk _ _ => h.block k hk⟩
theorem Two.refl (g b : Nat) (w : World) : Two g b w w := Two.of (Below.refl _ _)
theorem Two.trans (h : Two g b w w') (k : Two g b w' w2) : Two g b w w2 :=
  ⟨k.os.trans h.os, k.tape.trans h.tape, k.output.trans h.output, Nat.le_trans h.size k.size, fun i hi h1 h2 => (k.block i (Nat.lt_of_lt_of_le hi h.size) h1 h2).trans (h.block i hi h1 h2)⟩
theorem Two.setCell (h : Two g b w w') {p : Addr} (hp : p.block = g ∨ p.block = b) (u : Value) : Two g b w (w'.setCell p u) :=
  h.trans ⟨rfl, rfl, rfl, by simp [World.setCell], fun k hk h1 h2 => Below.heap_setCell _ _ _ _ (by rcases hp with hp | hp <;> omega)⟩
theorem Two.drew (h : Two g b w w') (n : Nat) : Two g b w (w'.drewN n) := ⟨h.os, h.tape, h.output, h.size, h.block⟩
theorem Two.wide (h : Two b b w w') : Two g b w w' := ⟨h.os, h.tape, h.output, h.size, fun k hk _ h2 => h.block k hk h2 h2⟩
theorem Two.below {B : Nat} (h : Two g b w w') (hB : B ≤ w.heap.size) (hg : B ≤ g) (hb : B ≤ b) : Below B w w' := ⟨h.os, h.tape, h.output, h.size, fun k hk => h.block k (by omega) (by omega) (by omega)⟩
theorem Blk.two {x : Nat} {e : TypeId} {l : List Value} (h : Blk w x e l) (t : Two g b w w') (h1 : x ≠ g) (h2 : x ≠ b) : Blk w' x e l := (t.block x h.lt h1 h2).trans h
end
theorem Two.undrew {g b : Nat} {w w' : World} (h : Two g b w.drew w') : Two g b w w' := ⟨h.os, h.tape, h.output, h.size, h.block⟩
theorem made_list (z : Value) (n : Nat) : madeCells #[z] n = (List.replicate n z).toArray := by
  apply Array.ext_getElem?
  intro j
  by_cases h : j < n
  · simp [madeCells, h, Nat.mod_one]
  · rw [Array.getElem?_eq_none (by rw [size_madeCells]; omega), Array.getElem?_eq_none (by simp; omega)]

/-- What the walk is told of a slice of integers that came in. -/
def IsRow (k : IntKind) (w : World) (a : Option Addr) (len cap : Nat) (zs : List Int) : Prop :=
  (a = none ∧ len = 0 ∧ cap = 0 ∧ zs = []) ∨
  ∃ x, a = some x ∧ len ≤ cap ∧ cap ≤ maxLen ∧ zs.length = cap ∧ (∀ i, i < zs.length → w.cell? (x.add i) = some (.int k (zs.getD i 0))) ∧ ∀ n ∈ zs, (Lit.int k n).wf = true

/-- Its numbers, one by one. -/
theorem row_at {w : World} {a : Option Addr} {len cap : Nat} {zs : List Int} (h : IsRow .i64 w a len cap zs) :
    len ≤ maxLen ∧ ∀ j, j < len → ∃ blk off, a = some ⟨blk, off, none⟩ ∧ blk < w.heap.size ∧ w.cell? ⟨blk, off + j, none⟩ = some (.int .i64 (zs.getD j 0)) ∧ -9223372036854775808 ≤ zs.getD j 0 ∧ zs.getD j 0 ≤ 9223372036854775807 := by
  rcases h with ⟨rfl, rfl, rfl, rfl⟩ | ⟨x, rfl, hl, hm, hz, hc, hwf⟩
  · exact ⟨Nat.zero_le _, fun j hj => by omega⟩
  · refine ⟨Nat.le_trans hl hm, fun j hj => ?_⟩
    have h1 := hc j (by omega)
    obtain ⟨b, off, spot⟩ := x
    have h0 := hc 0 (by omega)
    have hs : spot = none := by simpa [Addr.add] using World.cell?_spot h0
    subst hs
    rw [Addr.add_lit] at h1
    have h2 : zs.getD j 0 ∈ zs := by
      rw [List.getD, List.getElem?_eq_getElem (by omega : j < zs.length)]
      exact List.getElem_mem _
    have h3 := bounds_i64 (hwf _ h2)
    exact ⟨b, off, rfl, cell_lt h1, h1, h3.1, h3.2⟩

end Go.Proofs.YtbloiilinofklaaGreat

/- The map of inodes in memory: a block that is a map of numbers to pointers; free of any other layer. -/
namespace Go.Proofs.YtbloiilinofklaaGreat
open Go.ChangeShapes Go.WideShapes Go.ChangeAt Go.RowKit Go.Maps
open Go.WideElems (Fit rd rg pl rd_val rd_key rg_of)
set_option linter.unusedVariables false
set_option linter.unusedSimpArgs false
namespace IS

/-- A pointer to a block, or none. -/
def ptr : Option Nat → Value
  | none => .pointer none
  | some g => .pointer (some ⟨g, 0, none⟩)
/-- How a pointer reads. -/
def PR : Value → Option (DataW Unit × List MemPlace)
  | .pointer none => some (.nil, [])
  | .pointer (some ⟨g, 0, none⟩) => some (.lit (.int .i64 (g : Int)), [])
  | _ => none
def pd : Option Nat → DataW Unit
  | none => .nil
  | some g => .lit (.int .i64 (g : Int))
theorem PR_ptr (x : Option Nat) : PR (ptr x) = some (pd x, []) := by cases x <;> rfl
theorem PR_inv {v : Value} {x : Option Nat} {ps : List MemPlace} (h : PR v = some (pd x, ps)) : v = ptr x := by
  unfold PR at h
  split at h
  · cases x with
    | none => rfl
    | some g => simp [pd] at h
  · rename_i g
    cases x with
    | none => simp [pd] at h
    | some g' =>
      simp only [pd, Option.some.injEq, Prod.mk.injEq, DataW.lit.injEq, Lit.int.injEq, true_and] at h
      obtain ⟨h, -⟩ := h
      have : g = g' := by omega
      subst this; rfl
  · cases h

theorem und_map : Tryz.prog.underlying 82 = some (.map 3 90) := by kernel_rfl
theorem und_int : Tryz.prog.underlying 3 = some (.int .i64) := by kernel_rfl
theorem keyed_int : Keyed Tryz.prog 3 := int_keyed und_int
def key (f : Int) : Lit := .int .i64 f
/-- A number that an int can be. -/
def I64 (f : Int) : Prop := -9223372036854775808 ≤ f ∧ f ≤ 9223372036854775807
theorem i64_nat {f : Nat} (h : f < 65536) : I64 (f : Int) := ⟨by omega, by omega⟩
theorem wf_i64 {f : Int} (h : I64 f) : (Lit.int .i64 f).wf = true := by
  unfold I64 at h
  simp [Lit.wf, IntKind.min, IntKind.max, IntKind.signed, IntKind.bits]; omega
theorem wf_bounds {x : Int} (h : (Lit.int .i64 x).wf = true) : I64 x := by
  simp [Lit.wf, IntKind.min, IntKind.max, IntKind.signed, IntKind.bits] at h
  exact ⟨by omega, by omega⟩
theorem key_of (f : Int) (h : I64 f) : keyOf Tryz.prog 3 (.int .i64 f) = some (key f) := keyOf_int_mk und_int (wf_i64 h)
theorem key_ne {f g : Int} (h : f ≠ g) : key f ≠ key g := by
  intro e
  simp only [key, Lit.int.injEq, true_and] at e
  exact h e
theorem isKey (f : Int) (h : I64 f) : WideAt.IsKeyLit (key f) := keyed_int.key (key_of f h)
theorem zero_ptr (w : World) : (zeroValue 90).run Tryz.prog w = .ok (ptr none) w := by kernel_rfl

theorem nodup_sub : ∀ (l m : List Nat), l.Nodup → (∀ x ∈ l, x ∈ m) → l.length ≤ m.length
  | [], _, _, _ => Nat.zero_le _
  | a :: l, m, hn, h => by
    have hn' := List.nodup_cons.1 hn
    have h1 := nodup_sub l (m.erase a) hn'.2 (fun x hx => by
      have hm := h x (List.mem_cons_of_mem _ hx)
      exact (List.mem_erase_of_ne (fun e => hn'.1 (by rw [← e]; exact hx))).2 hm)
    have ha := h a List.mem_cons_self
    rw [List.length_erase_of_mem ha] at h1
    have : 0 < m.length := List.length_pos_of_mem ha
    simp only [List.length_cons]
    omega
theorem nodup_le (N : Nat) (l : List Nat) (h : l.Nodup) (hl : ∀ x ∈ l, x < N) : l.length ≤ N := by
  have := nodup_sub l (List.range N) h (fun x hx => List.mem_range.2 (hl x hx))
  simpa using this

/-- Every number, once. -/
def Nums (M : Int → Option Nat) (ss : List Nat) : Prop := ss.Nodup ∧ ∀ f : Nat, f ∈ ss ↔ M f ≠ none
theorem Nums.len_eq {M : Int → Option Nat} {a b : List Nat} (ha : Nums M a) (hb : Nums M b) : a.length = b.length :=
  Nat.le_antisymm (nodup_sub a b ha.1 fun x hx => (hb.2 x).2 ((ha.2 x).1 hx)) (nodup_sub b a hb.1 fun x hx => (ha.2 x).2 ((hb.2 x).1 hx))

/-- Block b is a map of these numbers to these blocks. -/
structure MB (w : World) (b : Nat) (M : Int → Option Nat) : Prop where
  ex : ∃ D : DataW Unit, w.ownsMap Tryz.prog 3 PR b (Maps.size D) D ∧ (∀ f, I64 f → Maps.has D (key f) = (M f).isSome) ∧ (∀ f g, I64 f → M f = some g → ∀ z, D.atKey (key f) z = pd (some g))
  bound : ∀ f, M f ≠ none → 0 ≤ f ∧ f < 65536

section
variable {w w' : World} {b : Nat} {M : Int → Option Nat}
theorem Nums.lt {ss : List Nat} (h : Nums M ss) (hm : MB w b M) : ∀ f ∈ ss, f < 65536 := fun f hf => by have := hm.bound f ((h.2 f).1 hf); omega
theorem Nums.len {ss : List Nat} (h : Nums M ss) (hm : MB w b M) : ss.length ≤ 65536 := nodup_le 65536 ss h.1 (h.lt hm)

theorem own_tight {n : Nat} {D : DataW Unit} (h : w.ownsMap Tryz.prog 3 PR b n D) : w.ownsMap Tryz.prog 3 PR b (Maps.size D) D := by
  obtain ⟨es, clock, hb, F, hs, rfl⟩ := h
  exact ⟨es, clock, hb, F, by simp [Maps.size, length_sorted], rfl⟩

/-- How many there are: as many as a list that has each once. -/
theorem own_nums {n : Nat} {D : DataW Unit} (h : w.ownsMap Tryz.prog 3 PR b n D) (hf : ∀ f, I64 f → Maps.has D (key f) = (M f).isSome) (hb : ∀ f, M f ≠ none → 0 ≤ f ∧ f < 65536) : ∃ ss, Nums M ss ∧ ss.length = Maps.size D := by
  obtain ⟨es0, rfl, hne, -⟩ := h.entries keyed_int
  obtain ⟨es, clock, hbk, F, hs, hD⟩ := h
  simp only [DataW.map.injEq] at hD
  have hk : ∀ p ∈ es0, ∃ f : Nat, f < 65536 ∧ p.1 = key f ∧ M f ≠ none := by
    intro p hp
    have hp0 := hp
    rw [hD] at hp
    obtain ⟨v, hv⟩ := fit_keys F p (mem_sorted.1 hp)
    obtain ⟨x, rfl, hx, hwf⟩ := Maps.keyOf_int_inv und_int hv
    have hI := wf_bounds hwf
    have hh := hf x hI
    have h1 : Maps.has (DataW.map es0) (key x) = true := by
      rw [Maps.has_eq]
      exact List.any_eq_true.2 ⟨p, hp0, by rw [hx]; exact WideAt.sameKey_self (isKey x hI)⟩
    rw [h1] at hh
    have hM : M x ≠ none := fun e => by rw [e] at hh; cases hh
    obtain ⟨h2, h3⟩ := hb x hM
    refine ⟨x.toNat, by omega, ?_, ?_⟩
    · rw [hx]; simp only [key, Lit.int.injEq, true_and]; omega
    · rw [Int.toNat_of_nonneg h2]; exact hM
  refine ⟨es0.map fun p => match p.1 with | .int _ x => x.toNat | _ => 0, ⟨?_, fun f => ?_⟩, by simp [Maps.size]⟩
  · unfold List.Nodup
    rw [List.pairwise_map]
    refine hne.imp_of_mem ?_
    intro p q hp hq hpq
    obtain ⟨f, -, e1, -⟩ := hk p hp
    obtain ⟨g, -, e2, -⟩ := hk q hq
    rw [e1, e2] at hpq
    rw [e1, e2]
    intro hfg
    apply hpq
    simp only [key, Int.toNat_natCast] at hfg
    rw [hfg]
  · rw [List.mem_map]
    constructor
    · rintro ⟨p, hp, rfl⟩
      obtain ⟨f, hf1, e1, hM⟩ := hk p hp
      rw [e1]
      simpa [key] using hM
    · intro hM
      have hbd := hb f hM
      have h1 := hf f (i64_nat (by omega))
      have h2 : Maps.has (DataW.map es0) (key f) = true := by
        rw [h1]
        cases e : M f with
        | none => exact absurd e hM
        | some _ => rfl
      rw [Maps.has_eq] at h2
      obtain ⟨p, hp, hs⟩ := List.any_eq_true.1 h2
      obtain ⟨g, -, e1, -⟩ := hk p hp
      refine ⟨p, hp, ?_⟩
      rw [e1] at hs ⊢
      simp only [key, Lit.sameKey] at hs
      simp only [key, Int.toNat_natCast]
      simp at hs
      omega

theorem MB.congr (h : MB w b M) {M' : Int → Option Nat} (hM : ∀ f, M f = M' f) : MB w b M' := by
  obtain rfl : M = M' := funext hM
  exact h
theorem MB.lt (h : MB w b M) : b < w.heap.size := by obtain ⟨D, ho, _⟩ := h.ex; exact ho.lt
theorem MB.grown (h : MB w b M) {row : Option Nat} (hg : w.grownBy w' row) (hne : some b ≠ row) : MB w' b M := by
  obtain ⟨⟨D, ho, h1, h2⟩, hb⟩ := h
  exact ⟨⟨D, ho.kept hg hne, h1, h2⟩, hb⟩
theorem MB.heap (h : MB w b M) (e : w'.heap[b]? = w.heap[b]?) : MB w' b M := by
  obtain ⟨⟨D, ⟨es, clock, hb, F, hs, hD⟩, h1, h2⟩, hbd⟩ := h
  exact ⟨⟨D, ⟨es, clock, e.trans hb, F, hs, hD⟩, h1, h2⟩, hbd⟩
theorem MB.keep (h : MB w b M) (hb : Below w.heap.size w w') : MB w' b M := h.heap (hb.block b h.lt)
theorem MB.far (h : MB w b M) {p : Addr} (hp : b ≠ p.block) (u : Value) : MB (w.setCell p u) b M := h.heap (Below.heap_setCell w p u b hp)
theorem MB.alloc (h : MB w b M) (o : Obj) : MB (w.alloc o) b M := h.heap (Below.heap_alloc w o b h.lt)
theorem MB.drew (h : MB w b M) (t : Nat) : MB (w.drewN t) b M := h.heap rfl
theorem MB.drew1 (h : MB w b M) : MB w.drew b M := h.heap rfl

/-- A look-up. -/
theorem MB.look (h : MB w b M) (f : Int) (hf : I64 f) :
    (Instr.lookup 82 (.map (some b)) (.int .i64 f) false).run Tryz.prog w = .ok (ptr (M f)) w := by
  obtain ⟨⟨D, ho, h1, h2⟩, hb⟩ := h
  obtain ⟨v, ps, hrun, hv⟩ := ho.lookup keyed_int und_map (zero_ptr w) (PR_ptr none) (key_of f hf)
  have e : v = ptr (M f) := by
    apply PR_inv (ps := ps)
    rw [hv]
    cases hm : M f with
    | none => have := h1 f hf; rw [hm] at this; rw [Maps.atKey_of_not_has (by simpa using this)]
    | some g => rw [h2 f g hf hm]
  rw [hrun, e]
/-- How many entries. -/
theorem MB.count (h : MB w b M) {ss : List Nat} (hs : Nums M ss) (ty : TypeId) : (Builtin.len_ #[82] ty #[.map (some b)]).run Tryz.prog w = .ok (.int .i64 (ss.length : Int)) w := by
  obtain ⟨⟨D, ho, h1, h2⟩, hb⟩ := h
  obtain ⟨ss', h3, h4⟩ := own_nums ho h1 hb
  rw [ho.len und_map ty, ← h4, h3.len_eq hs]

def upd (M : Int → Option Nat) (f : Int) (x : Option Nat) : Int → Option Nat := fun g => if g = f then x else M g

/-- A store. -/
theorem MB.put (h : MB w b M) (f : Int) (g : Nat) (hf : 0 ≤ f ∧ f < 65536) :
    ∃ w', (Instr.mapUpdate 82 (.map (some b)) (.int .i64 f) (.pointer (some ⟨g, 0, none⟩))).run Tryz.prog w = .ok () w' ∧ MB w' b (upd M f (some g)) ∧ w.grownBy w' (some b) ∧ w'.heap.size = w.heap.size := by
  obtain ⟨⟨D, ho, h1, h2⟩, hb⟩ := h
  have hf2 : I64 f := ⟨by omega, by omega⟩
  obtain ⟨ss, hN, hL⟩ := own_nums ho h1 hb
  have hsz : Maps.size D ≤ 65536 := by
    rw [← hL]
    exact nodup_le 65536 ss hN.1 fun x hx => by have := hb x ((hN.2 x).1 hx); omega
  obtain ⟨w', hrun, ho', ht⟩ := ho.store keyed_int und_map (by unfold maxLen; omega) (key_of f hf2) (PR_ptr (some g))
  refine ⟨w', hrun, ⟨⟨_, own_tight ho', fun k hk => ?_, fun k vs hk hv z => ?_⟩, fun k hk => ?_⟩, ht.grown, ?_⟩
  · unfold upd
    by_cases e : k = f
    · subst e; rw [if_pos rfl, Maps.has_put_same ho.isMap (isKey k hk)]; rfl
    · rw [if_neg e, Maps.has_put_other (key_ne e), h1 k hk]
  · unfold upd at hv
    by_cases e : k = f
    · subst e; rw [if_pos rfl] at hv; cases hv; exact Maps.atKey_put_same ho.isMap (isKey k hk) _ _
    · rw [if_neg e] at hv; rw [Maps.atKey_put_other (key_ne e)]; exact h2 k vs hk hv z
  · unfold upd at hk
    by_cases e : k = f
    · omega
    · rw [if_neg e] at hk; exact hb k hk
  · obtain ⟨es, c, es', c', hbb, rfl⟩ := ht
    simp [ChangeMaps.setBlock]

/-- A key is struck. -/
theorem MB.del (h : MB w b M) (f : Int) (hf : I64 f) (ty : TypeId) :
    ∃ w', (Builtin.delete_ #[82, 3] ty #[.map (some b), .int .i64 f]).run Tryz.prog w = .ok (.tuple #[]) w' ∧ MB w' b (upd M f none) ∧ w.grownBy w' (some b) ∧ w'.heap.size = w.heap.size := by
  obtain ⟨⟨D, ho, h1, h2⟩, hb⟩ := h
  obtain ⟨w', hrun, ho', ht⟩ := ho.drop keyed_int und_map (key_of f hf) ty
  refine ⟨w', hrun, ⟨⟨_, own_tight ho', fun g hg => ?_, fun g vs hg hv z => ?_⟩, fun g hg => ?_⟩, ht.grown, ?_⟩
  · unfold upd
    by_cases e : g = f
    · subst e; rw [if_pos rfl, Maps.has_del_same]; rfl
    · rw [if_neg e, Maps.has_del_other (key_ne e), h1 g hg]
  · unfold upd at hv
    by_cases e : g = f
    · rw [if_pos e] at hv; cases hv
    · rw [if_neg e] at hv; rw [Maps.atKey_del_other (key_ne e)]; exact h2 g vs hg hv z
  · unfold upd at hg
    by_cases e : g = f
    · rw [if_pos e] at hg; exact absurd rfl hg
    · rw [if_neg e] at hg; exact hb g hg
  · obtain ⟨es, c, es', c', hbb, rfl⟩ := ht
    simp [ChangeMaps.setBlock]

theorem MB.new (w : World) : MB (w.alloc (.map #[] 0)) w.heap.size (fun _ => none) :=
  ⟨⟨.map [], own_tight (World.ownsMap_made w _ _ PR), fun _ _ => rfl, fun _ _ _ h => by cases h⟩, fun _ h => absurd rfl h⟩
end
end IS
end Go.Proofs.YtbloiilinofklaaGreat

/- A directory's names in memory: a block that is a map of names to inodes; free of any other layer. -/
namespace Go.Proofs.YtbloiilinofklaaGreat
open Go.ChangeShapes Go.WideShapes Go.ChangeAt Go.RowKit Go.Maps
open Go.WideElems (Fit rd rg pl rd_val rd_key rg_of)
set_option linter.unusedVariables false
set_option linter.unusedSimpArgs false
namespace NS

/-- What a name refers to: an inode, the block of the directory that it is. -/
def nv (x : Int × Option Nat) : Value := .agg #[.int .i64 x.1, IS.ptr x.2]
def nd (x : Int × Option Nat) : DataW Unit := .agg [.lit (.int .i64 x.1), IS.pd x.2]
def PR : Value → Option (DataW Unit × List MemPlace)
  | .agg cs => match cs.toList with
    | [.int .i64 n, p] => (IS.PR p).map fun z => (.agg [.lit (.int .i64 n), z.1], [])
    | _ => none
  | _ => none
theorem PR_nv (x : Int × Option Nat) : PR (nv x) = some (nd x, []) := by simp [PR, nv, nd, IS.PR_ptr]
theorem PR_inv {v : Value} {x : Int × Option Nat} {ps : List MemPlace} (h : PR v = some (nd x, ps)) : v = nv x := by
  unfold PR at h
  split at h
  · rename_i cs
    split at h
    · rename_i n p e
      obtain ⟨cs⟩ := cs
      simp only at e
      subst e
      cases hp : IS.PR p with
      | none => rw [hp] at h; cases h
      | some z =>
        rw [hp] at h
        simp only [Option.map_some, nd, Option.some.injEq, Prod.mk.injEq, DataW.agg.injEq, List.cons.injEq, DataW.lit.injEq, Lit.int.injEq, true_and, and_true] at h
        obtain ⟨⟨h1, h2⟩, -⟩ := h
        obtain ⟨z1, z2⟩ := z
        simp only at h2
        subst h2
        have := IS.PR_inv hp
        subst h1 this
        rfl
    · cases h
  · cases h

theorem und_map : Tryz.prog.underlying 124 = some (.map 9 104) := by kernel_rfl
theorem und_str : Tryz.prog.underlying 9 = some .string := by kernel_rfl
theorem keyed_str : Keyed Tryz.prog 9 := string_keyed und_str
def key (k : ByteArray) : Lit := .string k.data.toList
/-- A name that a directory may have. -/
def Sm (k : ByteArray) : Prop := k.size ≤ maxLen
theorem key_of (k : ByteArray) (h : Sm k) : keyOf Tryz.prog 9 (.string k) = some (key k) := WideMaps.keyOf_string_mk und_str h
theorem key_inj {f g : ByteArray} (h : key f = key g) : f = g := by
  simp only [key, Lit.string.injEq] at h
  have := Array.toList_inj.1 h
  exact ByteArray.ext this
theorem key_ne {f g : ByteArray} (h : f ≠ g) : key f ≠ key g := fun e => h (key_inj e)
theorem isKey (f : ByteArray) (h : Sm f) : WideAt.IsKeyLit (key f) := keyed_str.key (key_of f h)
theorem zero_node (w : World) : (zeroValue 104).run Tryz.prog w = .ok (nv (0, none)) w := by kernel_rfl

/-- Every name, once. -/
def Nums (M : ByteArray → Option (Int × Option Nat)) (ss : List ByteArray) : Prop := ss.Nodup ∧ ∀ f, f ∈ ss ↔ M f ≠ none
theorem nodup_sub {α : Type} [DecidableEq α] : ∀ (l m : List α), l.Nodup → (∀ x ∈ l, x ∈ m) → l.length ≤ m.length
  | [], _, _, _ => Nat.zero_le _
  | a :: l, m, hn, h => by
    have hn' := List.nodup_cons.1 hn
    have h1 := nodup_sub l (m.erase a) hn'.2 (fun x hx => by
      have hm := h x (List.mem_cons_of_mem _ hx)
      exact (List.mem_erase_of_ne (fun e => hn'.1 (by rw [← e]; exact hx))).2 hm)
    have ha := h a List.mem_cons_self
    rw [List.length_erase_of_mem ha] at h1
    have : 0 < m.length := List.length_pos_of_mem ha
    simp only [List.length_cons]
    omega
theorem Nums.len_eq {M : ByteArray → Option (Int × Option Nat)} {a b : List ByteArray} (ha : Nums M a) (hb : Nums M b) : a.length = b.length :=
  Nat.le_antisymm (nodup_sub a b ha.1 fun x hx => (hb.2 x).2 ((ha.2 x).1 hx)) (nodup_sub b a hb.1 fun x hx => (ha.2 x).2 ((hb.2 x).1 hx))

/-- Block b is a map of these names. -/
structure MB (w : World) (b : Nat) (M : ByteArray → Option (Int × Option Nat)) : Prop where
  ex : ∃ D : DataW Unit, w.ownsMap Tryz.prog 9 PR b (Maps.size D) D ∧ (∀ f, Sm f → Maps.has D (key f) = (M f).isSome) ∧ (∀ f x, Sm f → M f = some x → ∀ z, D.atKey (key f) z = nd x)
  bound : ∀ f, M f ≠ none → Sm f

section
variable {w w' : World} {b : Nat} {M : ByteArray → Option (Int × Option Nat)}

theorem own_nums {n : Nat} {D : DataW Unit} (h : w.ownsMap Tryz.prog 9 PR b n D) (hf : ∀ f, Sm f → Maps.has D (key f) = (M f).isSome) (hb : ∀ f, M f ≠ none → Sm f) : ∃ ss, Nums M ss ∧ ss.length = Maps.size D := by
  obtain ⟨es0, rfl, hne, -⟩ := h.entries keyed_str
  obtain ⟨es, clock, hbk, F, hs, hD⟩ := h
  simp only [DataW.map.injEq] at hD
  have hk : ∀ p ∈ es0, ∃ f : ByteArray, p.1 = key f ∧ M f ≠ none := by
    intro p hp
    have hp0 := hp
    rw [hD] at hp
    obtain ⟨v, hv⟩ := fit_keys F p (mem_sorted.1 hp)
    obtain ⟨x, rfl, hx, hsz⟩ := WideMaps.string_of_keyOf und_str hv
    have hI : Sm x := hsz
    have hh := hf x hI
    have h1 : Maps.has (DataW.map es0) (key x) = true := by
      rw [Maps.has_eq]
      exact List.any_eq_true.2 ⟨p, hp0, by rw [hx]; exact WideAt.sameKey_self (isKey x hI)⟩
    rw [h1] at hh
    have hM : M x ≠ none := fun e => by rw [e] at hh; cases hh
    exact ⟨x, hx, hM⟩
  refine ⟨es0.map fun p => match p.1 with | .string l => ⟨l.toArray⟩ | _ => ByteArray.empty, ⟨?_, fun f => ?_⟩, by simp [Maps.size]⟩
  · unfold List.Nodup
    rw [List.pairwise_map]
    refine hne.imp_of_mem ?_
    intro p q hp hq hpq
    obtain ⟨f, e1, -⟩ := hk p hp
    obtain ⟨g, e2, -⟩ := hk q hq
    rw [e1, e2] at hpq
    rw [e1, e2]
    intro hfg
    apply hpq
    simp only [key] at hfg
    rw [show f = g from hfg]
  · rw [List.mem_map]
    constructor
    · rintro ⟨p, hp, rfl⟩
      obtain ⟨f, e1, hM⟩ := hk p hp
      rw [e1]
      exact hM
    · intro hM
      have hbd := hb f hM
      have h1 := hf f hbd
      have h2 : Maps.has (DataW.map es0) (key f) = true := by
        rw [h1]
        cases e : M f with
        | none => exact absurd e hM
        | some _ => rfl
      rw [Maps.has_eq] at h2
      obtain ⟨p, hp, hs⟩ := List.any_eq_true.1 h2
      obtain ⟨g, e1, -⟩ := hk p hp
      refine ⟨p, hp, ?_⟩
      rw [e1] at hs ⊢
      have : g = f := by
        simp only [key, Lit.sameKey] at hs
        have hs' : g.data.toList = f.data.toList := by simpa using hs
        exact ByteArray.ext (Array.toList_inj.1 hs')
      exact this

theorem MB.nums (h : MB w b M) : ∃ ss, Nums M ss := by
  obtain ⟨⟨D, ho, h1, h2⟩, hb⟩ := h
  obtain ⟨ss, h3, -⟩ := own_nums ho h1 hb
  exact ⟨ss, h3⟩
theorem own_tight {n : Nat} {D : DataW Unit} (h : w.ownsMap Tryz.prog 9 PR b n D) : w.ownsMap Tryz.prog 9 PR b (Maps.size D) D := by
  obtain ⟨es, clock, hb, F, hs, rfl⟩ := h
  exact ⟨es, clock, hb, F, by simp [Maps.size, length_sorted], rfl⟩
theorem MB.congr (h : MB w b M) {M' : ByteArray → Option (Int × Option Nat)} (hM : ∀ f, M f = M' f) : MB w b M' := by
  obtain rfl : M = M' := funext hM
  exact h
theorem MB.lt (h : MB w b M) : b < w.heap.size := by obtain ⟨D, ho, _⟩ := h.ex; exact ho.lt
theorem MB.obj (h : MB w b M) : ∃ es c, w.heap[b]? = some (.map es c) := by
  obtain ⟨D, ⟨es, clock, hb, _⟩, _⟩ := h.ex
  exact ⟨es, clock, hb⟩
theorem MB.grown (h : MB w b M) {row : Option Nat} (hg : w.grownBy w' row) (hne : some b ≠ row) : MB w' b M := by
  obtain ⟨⟨D, ho, h1, h2⟩, hb⟩ := h
  exact ⟨⟨D, ho.kept hg hne, h1, h2⟩, hb⟩
theorem MB.heap (h : MB w b M) (e : w'.heap[b]? = w.heap[b]?) : MB w' b M := by
  obtain ⟨⟨D, ⟨es, clock, hb, F, hs, hD⟩, h1, h2⟩, hbd⟩ := h
  exact ⟨⟨D, ⟨es, clock, e.trans hb, F, hs, hD⟩, h1, h2⟩, hbd⟩
theorem MB.keep (h : MB w b M) (hb : Below w.heap.size w w') : MB w' b M := h.heap (hb.block b h.lt)
theorem MB.far (h : MB w b M) {p : Addr} (hp : b ≠ p.block) (u : Value) : MB (w.setCell p u) b M := h.heap (Below.heap_setCell w p u b hp)
theorem MB.alloc (h : MB w b M) (o : Obj) : MB (w.alloc o) b M := h.heap (Below.heap_alloc w o b h.lt)
theorem MB.drew (h : MB w b M) (t : Nat) : MB (w.drewN t) b M := h.heap rfl
theorem MB.drew1 (h : MB w b M) : MB w.drew b M := h.heap rfl

/-- A look-up that also tells whether. -/
theorem MB.look (h : MB w b M) (f : ByteArray) (hf : Sm f) :
    (Instr.lookup 124 (.map (some b)) (.string f) true).run Tryz.prog w = .ok (.tuple #[nv ((M f).getD (0, none)), .bool (M f).isSome]) w := by
  obtain ⟨⟨D, ho, h1, h2⟩, hb⟩ := h
  obtain ⟨v, ps, hrun, hv⟩ := ho.look_ok keyed_str und_map (zero_node w) (PR_nv (0, none)) (key_of f hf)
  have e : v = nv ((M f).getD (0, none)) := by
    apply PR_inv (ps := ps)
    rw [hv]
    cases hm : M f with
    | none => have := h1 f hf; rw [hm] at this; rw [Maps.atKey_of_not_has (by simpa using this)]; rfl
    | some x => rw [h2 f x hf hm]; rfl
  rw [hrun, e, h1 f hf]
/-- How many entries. -/
theorem MB.count (h : MB w b M) {ss : List ByteArray} (hs : Nums M ss) (ty : TypeId) : (Builtin.len_ #[124] ty #[.map (some b)]).run Tryz.prog w = .ok (.int .i64 (ss.length : Int)) w := by
  obtain ⟨⟨D, ho, h1, h2⟩, hb⟩ := h
  obtain ⟨ss', h3, h4⟩ := own_nums ho h1 hb
  rw [ho.len und_map ty, ← h4, h3.len_eq hs]

def upd (M : ByteArray → Option (Int × Option Nat)) (f : ByteArray) (x : Option (Int × Option Nat)) : ByteArray → Option (Int × Option Nat) := fun g => if g = f then x else M g

/-- A store. -/
theorem MB.put (h : MB w b M) (f : ByteArray) (x : Int × Option Nat) (hf : Sm f) (hfew : ∀ ss, Nums M ss → ss.length < 65536) :
    ∃ w', (Instr.mapUpdate 124 (.map (some b)) (.string f) (nv x)).run Tryz.prog w = .ok () w' ∧ MB w' b (upd M f (some x)) ∧ w.grownBy w' (some b) ∧ w'.heap.size = w.heap.size := by
  obtain ⟨⟨D, ho, h1, h2⟩, hb⟩ := h
  obtain ⟨ss, hN, hL⟩ := own_nums ho h1 hb
  have hsz : Maps.size D < 65536 := by
    rw [← hL]
    exact hfew ss hN
  obtain ⟨w', hrun, ho', ht⟩ := ho.store keyed_str und_map (by unfold maxLen; omega) (key_of f hf) (PR_nv x)
  refine ⟨w', hrun, ⟨⟨_, own_tight ho', fun k hk => ?_, fun k vs hk hv z => ?_⟩, fun k hk => ?_⟩, ht.grown, ?_⟩
  · unfold upd
    by_cases e : k = f
    · subst e; rw [if_pos rfl, Maps.has_put_same ho.isMap (isKey k hk)]; rfl
    · rw [if_neg e, Maps.has_put_other (key_ne e), h1 k hk]
  · unfold upd at hv
    by_cases e : k = f
    · subst e; rw [if_pos rfl] at hv; cases hv; exact Maps.atKey_put_same ho.isMap (isKey k hk) _ _
    · rw [if_neg e] at hv; rw [Maps.atKey_put_other (key_ne e)]; exact h2 k vs hk hv z
  · unfold upd at hk
    by_cases e : k = f
    · rw [e]; exact hf
    · rw [if_neg e] at hk; exact hb k hk
  · obtain ⟨es, c, es', c', hbb, rfl⟩ := ht
    simp [ChangeMaps.setBlock]

/-- A name is struck. -/
theorem MB.del (h : MB w b M) (f : ByteArray) (hf : Sm f) (ty : TypeId) :
    ∃ w', (Builtin.delete_ #[124, 9] ty #[.map (some b), .string f]).run Tryz.prog w = .ok (.tuple #[]) w' ∧ MB w' b (upd M f none) ∧ w.grownBy w' (some b) ∧ w'.heap.size = w.heap.size := by
  obtain ⟨⟨D, ho, h1, h2⟩, hb⟩ := h
  obtain ⟨w', hrun, ho', ht⟩ := ho.drop keyed_str und_map (key_of f hf) ty
  refine ⟨w', hrun, ⟨⟨_, own_tight ho', fun g hg => ?_, fun g vs hg hv z => ?_⟩, fun g hg => ?_⟩, ht.grown, ?_⟩
  · unfold upd
    by_cases e : g = f
    · subst e; rw [if_pos rfl, Maps.has_del_same]; rfl
    · rw [if_neg e, Maps.has_del_other (key_ne e), h1 g hg]
  · unfold upd at hv
    by_cases e : g = f
    · rw [if_pos e] at hv; cases hv
    · rw [if_neg e] at hv; rw [Maps.atKey_del_other (key_ne e)]; exact h2 g vs hg hv z
  · unfold upd at hg
    by_cases e : g = f
    · rw [if_pos e] at hg; exact absurd rfl hg
    · rw [if_neg e] at hg; exact hb g hg
  · obtain ⟨es, c, es', c', hbb, rfl⟩ := ht
    simp [ChangeMaps.setBlock]

theorem MB.new (w : World) : MB (w.alloc (.map #[] 0)) w.heap.size (fun _ => none) :=
  ⟨⟨.map [], own_tight (World.ownsMap_made w _ _ PR), fun _ _ => rfl, fun _ _ _ h => by cases h⟩, fun _ h => absurd rfl h⟩
end
end NS
end Go.Proofs.YtbloiilinofklaaGreat

/- Directories as lists of names, where names lead; plain, free of any memory. -/
namespace Go.Proofs.YtbloiilinofklaaGreat
set_option linter.unusedVariables false
set_option linter.unusedSimpArgs false
namespace NT

/-- A directory: its parent, its names, each with an inode. -/
structure Dr where
  up : Int
  l : List (ByteArray × Int)
abbrev Ds := Int → Option Dr
def upd (D : Ds) (n : Int) (x : Option Dr) : Ds := fun m => if m = n then x else D m
theorem upd_at (D : Ds) (n : Int) (x : Option Dr) : upd D n x n = x := if_pos rfl
theorem upd_ne {D : Ds} {n m : Int} {x : Option Dr} (h : m ≠ n) : upd D n x m = D m := if_neg h
def look (k : ByteArray) : List (ByteArray × Int) → Option Int
  | [] => none
  | x :: l => if x.1 = k then some x.2 else look k l
def blt (a b : ByteArray) : Bool := Op.bytesLess a.toList b.toList
def ins (k : ByteArray) (n : Int) : List (ByteArray × Int) → List (ByteArray × Int)
  | [] => [(k, n)]
  | x :: l => if blt x.1 k = true then x :: ins k n l else (k, n) :: x :: l
def del (k : ByteArray) (l : List (ByteArray × Int)) : List (ByteArray × Int) := l.filter fun x => decide (x.1 ≠ k)
def put (k : ByteArray) (n : Int) (l : List (ByteArray × Int)) : List (ByteArray × Int) := ins k n (del k l)

theorem look_ins (k : ByteArray) (n : Int) (j : ByteArray) : ∀ l, look k l = none → look j (ins k n l) = if j = k then some n else look j l
  | [], _ => by
    by_cases h : j = k
    · subst h; simp [ins, look]
    · simp [ins, look, h, Ne.symm h]
  | x :: l, h => by
    have hx : x.1 ≠ k := fun e => by simp [look, e] at h
    have hl : look k l = none := by simpa [look, hx] using h
    unfold ins
    split
    · rename_i hb
      unfold look
      rw [look_ins k n j l hl]
      by_cases e : x.1 = j
      · have : j ≠ k := fun e' => hx (e.trans e')
        simp [e, this]
      · simp [e]
    · by_cases e : j = k
      · subst e; simp [look]
      · simp [look, e, Ne.symm e]
theorem look_del (k j : ByteArray) : ∀ l, look j (del k l) = if j = k then none else look j l
  | [] => by simp [del, look]
  | x :: l => by
    have ih := look_del k j l
    unfold del at ih ⊢
    by_cases hx : x.1 = k
    · rw [List.filter_cons_of_neg (by simp [hx]), ih]
      by_cases e : j = k
      · simp [e]
      · have : x.1 ≠ j := fun e' => e (e'.symm.trans hx)
        simp [look, e, this]
    · rw [List.filter_cons_of_pos (by simp [hx])]
      unfold look
      rw [ih]
      by_cases e : j = k
      · subst e; simp [hx]
      · simp [e]
theorem look_put (k : ByteArray) (n : Int) (j : ByteArray) (l : List (ByteArray × Int)) : look j (put k n l) = if j = k then some n else look j l := by
  unfold put
  rw [look_ins k n j _ (by rw [look_del, if_pos rfl]), look_del]
  by_cases e : j = k
  · simp [e]
  · simp [e]
theorem look_mem {k : ByteArray} {n : Int} : ∀ {l}, look k l = some n → (k, n) ∈ l
  | [], h => by cases h
  | x :: l, h => by
    unfold look at h
    split at h
    · rename_i e
      cases h
      subst e
      exact List.mem_cons_self
    · exact List.mem_cons_of_mem _ (look_mem h)
theorem look_some {k : ByteArray} {n : Int} : ∀ {l}, (k, n) ∈ l → look k l ≠ none
  | [], h => by cases h
  | x :: l, h => by
    unfold look
    split
    · simp
    · rename_i e
      rcases List.mem_cons.1 h with rfl | h
      · exact absurd rfl e
      · exact look_some h

/-- Where one name leads. -/
def step (D : Ds) (n : Int) (x : ByteArray) : Except Int Int := match D n with
  | none => .error 13
  | some d => if x = PM.dot then .ok n else if x = PM.dots then .ok d.up else match look x d.l with
    | none => .error 11
    | some m => .ok m
/-- Where names lead. -/
def goes (D : Ds) : Int → List ByteArray → Except Int Int
  | n, [] => .ok n
  | n, x :: xs => match step D n x with
    | .error e => .error e
    | .ok m => goes D m xs
theorem goes_snoc (D : Ds) : ∀ (xs : List ByteArray) (n : Int) (x : ByteArray), goes D n (xs ++ [x]) = (match goes D n xs with
  | .error e => .error e
  | .ok m => step D m x)
  | [], n, x => by
    simp only [List.nil_append, goes]
    cases step D n x <;> rfl
  | y :: ys, n, x => by
    simp only [List.cons_append, goes]
    cases step D n y with
    | error e => rfl
    | ok m => exact goes_snoc D ys m x
/-- Where a path leads. -/
def find (D : Ds) (l : List ByteArray) (dir : Bool) : Except Int Int := match goes D 1 l with
  | .error e => .error e
  | .ok n => if dir = true ∧ D n = none then .error 13 else .ok n
/-- A path's place: the directory in which its last name is looked for. -/
def place (D : Ds) (l : List ByteArray) (nameless : Int) : Except Int Int := if l = [] then .error nameless else match goes D 1 l.dropLast with
  | .error e => .error e
  | .ok n => if D n = none then .error 13 else .ok n
/-- What a name of a directory refers to. -/
def at_ (D : Ds) (n : Int) (k : ByteArray) : Option Int := match D n with
  | none => none
  | some d => look k d.l
def er {α : Type} : Except Int α → Int
  | .error e => e
  | .ok _ => 0
/-- All errors are none of 0. -/
theorem step_er {D : Ds} {n : Int} {x : ByteArray} {e : Int} (h : step D n x = .error e) : e ≠ 0 := by
  unfold step at h
  split at h
  · cases h; decide
  · split at h
    · cases h
    · split at h
      · cases h
      · split at h <;> cases h
        decide
theorem goes_er {D : Ds} {e : Int} : ∀ {l : List ByteArray} {n : Int}, goes D n l = .error e → e ≠ 0
  | [], n, h => by cases h
  | x :: xs, n, h => by
    unfold goes at h
    split at h
    · rename_i e' he
      cases h
      exact step_er he
    · exact goes_er h
end NT
end Go.Proofs.YtbloiilinofklaaGreat

/- Rows that a call owns, for elements of any size: cut, set, carried along; an append to one; free of any program's numbers. -/
namespace Go.Proofs.YtbloiilinofklaaGreat
open Go.ChangeShapes Go.WideShapes Go.ChangeAt Go.RowKit
set_option linter.unusedVariables false
set_option linter.unusedSimpArgs false
namespace Own

section
variable {w w' : World} {base e size n : Nat} {v : Value} {xs : List Value}
theorem ge (hown : w.ownsRow base e size v n xs) (g : Nat) (hg : v.ownBlock = some g) : base ≤ g := by
  rcases hown.2 with ⟨rfl, _⟩ | ⟨g', cap, cur, rfl, hb, _⟩
  · cases hg
  · cases hg; exact hb
theorem low {base' : Nat} (h : base' ≤ base) (hown : w.ownsRow base e size v n xs) : w.ownsRow base' e size v n xs := by
  rcases hown.2 with h0 | ⟨g, cap, cur, h1, h2, h3⟩
  · exact ⟨hown.1, .inl h0⟩
  · exact ⟨hown.1, .inr ⟨g, cap, cur, h1, Nat.le_trans h h2, h3⟩⟩
theorem form (h : w.ownsRow base e size v n xs) : ∃ ao cap, v = .slice ao n cap := by
  rcases h.2 with ⟨rfl, rfl⟩ | ⟨g, cap, cur, rfl, _⟩
  · exact ⟨_, _, rfl⟩
  · exact ⟨_, _, rfl⟩
/-- A store below the row's blocks leaves the row. -/
theorem set (h : w.ownsRow base e size v n xs) {p : Addr} (hp : p.block < base) (u : Value) : (w.setCell p u).ownsRow base e size v n xs := by
  rcases h.2 with h0 | ⟨g, cap, cur, h1, h2, h3, h4⟩
  · exact ⟨h.1, .inl h0⟩
  · exact ⟨h.1, .inr ⟨g, cap, cur, h1, h2, (Below.heap_setCell w p u g (by omega)).trans h3, h4⟩⟩
/-- What leaves all that was there leaves the row. -/
theorem below (h : w.ownsRow base e size v n xs) (hb : Below w.heap.size w w') : w'.ownsRow base e size v n xs := by
  rcases h.2 with h0 | ⟨g, cap, cur, h1, h2, h3, h4⟩
  · exact ⟨h.1, .inl h0⟩
  · have hlt : g < w.heap.size := by
      rcases Nat.lt_or_ge g w.heap.size with hlt | hge
      · exact hlt
      · rw [Array.getElem?_eq_none hge] at h3; cases h3
    exact ⟨h.1, .inr ⟨g, cap, cur, h1, h2, (hb.block g hlt).trans h3, h4⟩⟩
/-- What is owned, cut at its end. -/
theorem cut {ao : Option Addr} {cap : Nat} (h : w.ownsRow base e size (.slice ao n cap) n xs) {k : Nat} (hk : k ≤ n) : w.ownsRow base e size (.slice ao k cap) k (xs.take (k * size)) := by
  have hks : k * size ≤ n * size := Nat.mul_le_mul_right _ hk
  rcases h.2 with ⟨h', h''⟩ | ⟨g, cap', cur, h', hb, hg, hnc, hcm, hcs, htake⟩
  · simp only [Value.slice.injEq] at h'
    obtain ⟨rfl, rfl, rfl⟩ := h'
    obtain rfl : k = 0 := by omega
    rw [Nat.zero_mul, List.take_zero]
    exact World.ownsRow_nil _ _ _ _
  · simp only [Value.slice.injEq, true_and] at h'
    obtain ⟨rfl, rfl⟩ := h'
    refine ⟨by rw [List.length_take, h.1]; omega, .inr ⟨g, cap, cur, rfl, hb, hg, by omega, hcm, hcs, ?_⟩⟩
    rw [← htake, List.take_take, Nat.min_eq_left hks]
end

/-- 'append' to an owned row, as one step of a region that draws its order. -/
theorem step_append {P : Program} {ops : Array Oper} {o : Oper} {a : Act} {w : World} {K : Act → World → Prop} {Q : Exit → Act → World → Prop} {E : Prop}
    (hg : o.guard = none) (s x : Operand) (t : TypeId) (hop : o.op = Op.call { callee := Callee.builtin Builtin.append, args := #[s, x], argTypes := #[t, t] })
    (base : Nat) (e : TypeId) (i : TypeInfo) (z : Value) (size bytes : Nat) (ht : P.underlying t = some (.slice e)) (hi : P.info? e = some i) (hz : i.zero = some z)
    (hsize : i.size = size) (hby : i.bytes = bytes) (hzs : z.cells.size = size) (hsz : 0 < size)
    (v : Value) (n : Nat) (xs : List Value) (hs : a.eval s = v) (hown : w.ownsRow base e size v n xs)
    (ad : Addr) (m c : Nat) (news : List Value) (hx : a.eval x = .slice (some ad) m c) (hl : news.length = m * size) (hnews : ∀ j u, news[j]? = some u → w.cell? (ad.add j) = some u) (h1 : ∀ u ∈ news, u.oneCell' = true)
    (h63 : n + m ≤ maxLen) (hbytes : ((n + m) + (n + m) / 4 + 192) * bytes ≤ 281474976710656) (hbase : base ≤ w.heap.size)
    (hK : ∀ v' w', w'.ownsRow base e size v' (n + m) (xs ++ news) → w.grownBy w' v.ownBlock → K (a.put o.dst v') w') :
    if Region.wanted o (yielded ops a.tmps) = true then Oper.wp P o a w K Q else E := by
  have hw : Region.wanted o (yielded ops a.tmps) = true := by simp [Region.wanted, hg]
  rw [if_pos hw]
  obtain ⟨v', w', hrun, r1, r2, -⟩ := run_append_own_wide (P := P) w base t o.type e i z size bytes ht hi hz hsize hby hzs hsz v n xs hown ad m c news hl hnews h1 h63 hbytes hbase
  unfold Oper.wp
  simp [execOp, hop, resolve, invoke, builtin, hs, hx, hrun, Result.andThen]
  exact hK v' w' r1 r2
theorem undrew {w w' : World} {row : Option Nat} (h : w.drew.grownBy w' row) : w.grownBy w' row := ⟨h.os, h.tape, h.output, h.size, h.block⟩
theorem bundrew {B : Nat} {w w' : World} (h : Below B w.drew w') : Below B w w' := ⟨h.os, h.tape, h.output, h.size, h.block⟩
/-- A cell of another block than the row that was written. -/
theorem cellg {w w' : World} {row : Option Nat} {p : Addr} {v : Value} (hg : w.grownBy w' row) (hc : w.cell? p = some v) (hp : some p.block ≠ row) : w'.cell? p = some v := by
  rw [World.cell?_of_block (w := w) (hg.block p.block (World.block_lt_of_cell? w _ hc) hp)]
  exact hc
/-- Two cells that were made last. -/
theorem cells_two (w : World) (a b : Value) (t : TypeId) (s : Nat × Nat) : ∀ j u, [a, b][j]? = some u → (w.alloc (.cells #[a, b] t s)).cell? ((⟨w.heap.size, 0, none⟩ : Addr).add j) = some u := by
  intro j u hu
  have hr := heap_alloc_new w (.cells #[a, b] t s)
  rw [Addr.add_lit, cell_of_row _ _ _ _ _ _ hr]
  match j, hu with
  | 0, hu => simpa using hu
  | 1, hu => simpa using hu
end Own
end Go.Proofs.YtbloiilinofklaaGreat

/- Extents as lists of a number and bytes: when a list is valid, which byte stands where, pieces of a list, a list of pieces made valid, and what holds of them; free of any program. -/
namespace Go.Proofs.YtbloiilinofklaaGreat
set_option linter.unusedVariables false
set_option linter.unusedSimpArgs false
namespace EM

/-- Behind the last byte. -/
def fin (x : Int × ByteArray) : Int := x.1 + x.2.size

/-- A valid list whose first extent begins at b or behind it. -/
def ok : Int → List (Int × ByteArray) → Bool
  | _, [] => true
  | b, x :: r => decide (0 < x.2.size) && decide (b ≤ x.1) && decide (fin x ≤ 1048576) && ok (fin x + 1) r
/-- Where the next extent may begin. -/
def nxt : Int → List (Int × ByteArray) → Int
  | b, [] => b
  | _, x :: r => nxt (fin x + 1) r
/-- Pieces in order that may touch. -/
def wk : Int → List (Int × ByteArray) → Prop
  | _, [] => True
  | b, x :: r => 0 < x.2.size ∧ b ≤ x.1 ∧ fin x ≤ 1048576 ∧ wk (fin x) r

/-- Which byte stands at a place. -/
def get (x : Int × ByteArray) (i : Int) : Option UInt8 := if x.1 ≤ i then x.2.data.toList[(i - x.1).toNat]? else none
def cont : List (Int × ByteArray) → Int → Option UInt8
  | [], _ => none
  | x :: r, i => (get x i).or (cont r i)

/-- What of an extent lies from lo on, ahead of hi. -/
def piece (lo hi : Int) (x : Int × ByteArray) : Option (Int × ByteArray) :=
  if max x.1 lo < min (fin x) hi then some (max x.1 lo, x.2.extract (max x.1 lo - x.1).toNat (min (fin x) hi - x.1).toNat) else none
def part (lo hi : Int) (l : List (Int × ByteArray)) : List (Int × ByteArray) := l.filterMap (piece lo hi)

/-- A piece more. -/
def put (out : List (Int × ByteArray)) (x : Int × ByteArray) : List (Int × ByteArray) :=
  match out.getLast? with
  | some y => if fin y = x.1 then out.dropLast ++ [(y.1, y.2 ++ x.2)] else out ++ [x]
  | none => [x]
def merge (l : List (Int × ByteArray)) : List (Int × ByteArray) := l.foldl put []

/-- What is made by a write. -/
def wr (l : List (Int × ByteArray)) (f : Int) (d : ByteArray) : List (Int × ByteArray) :=
  merge (if d.size = 0 then l else part 0 f l ++ [(f, d)] ++ part (f + d.size) 1048576 l)
/-- What is read. -/
def rd (l : List (Int × ByteArray)) (f : Int) (m : Nat) : List UInt8 := (List.range m).map fun (i : Nat) => (cont l (f + (i : Int))).getD 0
/-- How many bytes there are. -/
def cnt (l : List (Int × ByteArray)) : Nat := (l.map fun x => x.2.size).sum
/-- All bytes. -/
def cat (l : List (Int × ByteArray)) : List UInt8 := l.flatMap fun x => x.2.data.toList

/-! Bytes. -/
theorem list_size (s : ByteArray) : s.data.toList.length = s.size := Array.length_toList
theorem ba_inj {s t : ByteArray} (h : s.data.toList = t.data.toList) : s = t := by
  cases s; cases t
  congr 1
  exact Array.toList_inj.1 h
theorem cut_list (s : ByteArray) (a b : Nat) : (s.extract a b).data.toList = (s.data.toList.take b).drop a := by
  rw [ByteArray.data_extract, Array.toList_extract, List.extract_eq_take_drop, List.drop_take]
theorem cut_size (s : ByteArray) (a b : Nat) (h : b ≤ s.size) : (s.extract a b).size = b - a := by
  rw [← list_size, cut_list, List.length_drop, List.length_take, list_size]; omega
theorem app_list (s t : ByteArray) : (s ++ t).data.toList = s.data.toList ++ t.data.toList := by rw [ByteArray.data_append, Array.toList_append]
theorem app_size (s t : ByteArray) : (s ++ t).size = s.size + t.size := by rw [← list_size, app_list, List.length_append, list_size, list_size]

/-! One extent. -/
theorem get_some {x : Int × ByteArray} {i : Int} (h1 : x.1 ≤ i) (h2 : i < fin x) : ∃ c, get x i = some c := by
  unfold get fin at *
  rw [if_pos h1, List.getElem?_eq_getElem (by rw [list_size]; omega)]
  exact ⟨_, rfl⟩
theorem get_none {x : Int × ByteArray} {i : Int} (h : i < x.1 ∨ fin x ≤ i) : get x i = none := by
  unfold get fin at *
  split
  · rw [List.getElem?_eq_none (by rw [list_size]; omega)]
  · rfl
theorem get_piece (lo hi : Int) (x : Int × ByteArray) (i : Int) : ((piece lo hi x).bind fun y => get y i) = if lo ≤ i ∧ i < hi then get x i else none := by
  unfold piece
  by_cases h : max x.1 lo < min (fin x) hi
  · rw [if_pos h]
    show get _ i = _
    have hf : fin x = x.1 + x.2.size := rfl
    by_cases hi1 : max x.1 lo ≤ i ∧ i < min (fin x) hi
    · rw [if_pos (by omega)]
      unfold get
      rw [if_pos hi1.1, if_pos (by omega)]
      simp only
      rw [cut_list, List.getElem?_drop, List.getElem?_take, if_pos (by omega)]
      congr 1
      omega
    · rw [get_none]
      · split
        · rw [get_none (by omega)]
        · rfl
      · simp only [fin]
        rw [cut_size _ _ _ (by omega)]
        omega
  · rw [if_neg h]
    show none = _
    have hf : fin x = x.1 + x.2.size := rfl
    split
    · rw [get_none (by omega)]
    · rfl
theorem piece_fin {lo hi : Int} {x y : Int × ByteArray} (h : piece lo hi x = some y) : y.1 = max x.1 lo ∧ fin y = min (fin x) hi ∧ y.1 < fin y := by
  unfold piece at h
  have hf : fin x = x.1 + x.2.size := rfl
  split at h
  · obtain rfl := Option.some.inj h
    have : fin (max x.1 lo, x.2.extract (max x.1 lo - x.1).toNat (min (fin x) hi - x.1).toNat) = min (fin x) hi := by
      simp only [fin]
      rw [cut_size _ _ _ (by omega)]
      omega
    exact ⟨rfl, this, by rw [this]; assumption⟩
  · cases h
theorem fin_pos (x : Int × ByteArray) : x.1 < fin x ↔ 0 < x.2.size := by unfold fin; omega

/-! Lists. -/
theorem cont_append (a b : List (Int × ByteArray)) (i : Int) : cont (a ++ b) i = (cont a i).or (cont b i) := by
  induction a with
  | nil => rfl
  | cons x r ih => simp only [List.cons_append, cont, ih, Option.or_assoc]
theorem cont_one (x : Int × ByteArray) (i : Int) : cont [x] i = get x i := by simp [cont]
theorem cont_part (lo hi : Int) (l : List (Int × ByteArray)) (i : Int) : cont (part lo hi l) i = if lo ≤ i ∧ i < hi then cont l i else none := by
  induction l with
  | nil => simp [part, cont]
  | cons x r ih =>
    have hp := get_piece lo hi x i
    unfold part at ih ⊢
    cases h : piece lo hi x with
    | none =>
      rw [h] at hp
      rw [List.filterMap_cons_none h, ih]
      simp only [cont]
      split
      · rename_i hc
        rw [if_pos hc] at hp
        rw [← hp]; rfl
      · rfl
    | some y =>
      rw [h] at hp
      rw [List.filterMap_cons_some h]
      simp only [cont, ih]
      rw [show get y i = _ from hp]
      split <;> simp
theorem ok_append (b : Int) (l m : List (Int × ByteArray)) : ok b (l ++ m) = (ok b l && ok (nxt b l) m) := by
  induction l generalizing b with
  | nil => simp [ok, nxt]
  | cons x r ih => simp only [List.cons_append, ok, nxt, ih, Bool.and_assoc]
theorem nxt_append (b : Int) (l m : List (Int × ByteArray)) : nxt b (l ++ m) = nxt (nxt b l) m := by
  induction l generalizing b with
  | nil => rfl
  | cons x r ih => simp only [List.cons_append, nxt, ih]
theorem nxt_snoc (b : Int) (l : List (Int × ByteArray)) (x : Int × ByteArray) : nxt b (l ++ [x]) = fin x + 1 := by rw [nxt_append]; rfl
theorem ok_cons {b : Int} {x : Int × ByteArray} {r : List (Int × ByteArray)} : ok b (x :: r) = true ↔ 0 < x.2.size ∧ b ≤ x.1 ∧ fin x ≤ 1048576 ∧ ok (fin x + 1) r = true := by
  simp only [ok, Bool.and_eq_true, decide_eq_true_eq, and_assoc]
theorem ok_le {b c : Int} {l : List (Int × ByteArray)} (h : ok b l = true) (hc : c ≤ b) : ok c l = true := by
  cases l with
  | nil => rfl
  | cons x r =>
    rw [ok_cons] at h ⊢
    exact ⟨h.1, by omega, h.2.2⟩
theorem ok_wk {b : Int} {l : List (Int × ByteArray)} (h : ok b l = true) : wk b l := by
  induction l generalizing b with
  | nil => trivial
  | cons x r ih =>
    rw [ok_cons] at h
    exact ⟨h.1, h.2.1, h.2.2.1, ih (ok_le h.2.2.2 (by omega))⟩
theorem wk_le {b c : Int} {l : List (Int × ByteArray)} (h : wk b l) (hc : c ≤ b) : wk c l := by
  cases l with
  | nil => trivial
  | cons x r => exact ⟨h.1, by have := h.2.1; omega, h.2.2⟩
theorem wk_append {b c : Int} {l m : List (Int × ByteArray)} (h : wk b l) (hb : b ≤ c) (hc : ∀ x ∈ l, fin x ≤ c) (hm : wk c m) : wk b (l ++ m) := by
  induction l generalizing b with
  | nil => exact wk_le hm hb
  | cons x r ih => exact ⟨h.1, h.2.1, h.2.2.1, ih h.2.2.2 (hc x (by simp)) fun y hy => hc y (by simp [hy])⟩
theorem wk_part {b : Int} {l : List (Int × ByteArray)} (h : ok b l = true) (lo hi : Int) : wk (max b lo) (part lo hi l) ∧ ∀ x ∈ part lo hi l, fin x ≤ hi := by
  unfold part
  induction l generalizing b with
  | nil => exact ⟨trivial, fun x hx => by simp at hx⟩
  | cons x r ih =>
    rw [ok_cons] at h
    obtain ⟨i1, i2⟩ := ih h.2.2.2
    cases hp : piece lo hi x with
    | none =>
      rw [List.filterMap_cons_none hp]
      refine ⟨wk_le i1 ?_, i2⟩
      have := (fin_pos x).2 h.1
      omega
    | some y =>
      rw [List.filterMap_cons_some hp]
      obtain ⟨h1, h2, h3⟩ := piece_fin hp
      refine ⟨⟨(fin_pos y).1 h3, by omega, by omega, wk_le i1 (by omega)⟩, fun z hz => ?_⟩
      rcases List.mem_cons.1 hz with rfl | hz
      · omega
      · exact i2 z hz
theorem ok_part {b : Int} {l : List (Int × ByteArray)} (h : ok b l = true) (lo hi : Int) (hlo : lo ≤ b) : ok b (part lo hi l) = true := by
  unfold part
  induction l generalizing b with
  | nil => rfl
  | cons x r ih =>
    rw [ok_cons] at h
    have := (fin_pos x).2 h.1
    have i1 := ih h.2.2.2 (by omega)
    cases hp : piece lo hi x with
    | none => rw [List.filterMap_cons_none hp]; exact ok_le i1 (by omega)
    | some y =>
      rw [List.filterMap_cons_some hp, ok_cons]
      obtain ⟨h1, h2, h3⟩ := piece_fin hp
      exact ⟨(fin_pos y).1 h3, by omega, by omega, ok_le i1 (by omega)⟩

/-! Where nothing stands. -/
theorem cont_below {b : Int} {l : List (Int × ByteArray)} (h : wk b l) {i : Int} (hi : i < b) : cont l i = none := by
  induction l generalizing b with
  | nil => rfl
  | cons x r ih =>
    have := (fin_pos x).2 h.1
    have h2 := h.2.1
    simp only [cont]
    rw [get_none (by omega), ih h.2.2.2 (by omega)]; rfl
theorem cont_above {b : Int} {l : List (Int × ByteArray)} (h : wk b l) {i : Int} (hi : 1048576 ≤ i) : cont l i = none := by
  induction l generalizing b with
  | nil => rfl
  | cons x r ih =>
    have h2 := h.2.2.1
    simp only [cont]
    rw [get_none (by omega), ih h.2.2.2]; rfl

/-! A list is its bytes. -/
theorem ok_unique {b c : Int} {l m : List (Int × ByteArray)} (hl : ok b l = true) (hm : ok c m = true) (h : ∀ i, cont l i = cont m i) : l = m := by
  induction l generalizing b c m with
  | nil =>
    cases m with
    | nil => rfl
    | cons y s =>
      rw [ok_cons] at hm
      obtain ⟨c, hc⟩ := get_some (x := y) (Int.le_refl _) ((fin_pos y).2 hm.1)
      have := h y.1
      simp only [cont, hc] at this
      simp at this
  | cons x r ih =>
    cases m with
    | nil =>
      rw [ok_cons] at hl
      obtain ⟨c, hc⟩ := get_some (x := x) (Int.le_refl _) ((fin_pos x).2 hl.1)
      have := h x.1
      simp only [cont, hc] at this
      simp at this
    | cons y s =>
      rw [ok_cons] at hl hm
      have px := (fin_pos x).2 hl.1
      have py := (fin_pos y).2 hm.1
      have kx : ∀ i, i < fin x + 1 → cont r i = none := fun i hi => cont_below (ok_wk hl.2.2.2) hi
      have ky : ∀ i, i < fin y + 1 → cont s i = none := fun i hi => cont_below (ok_wk hm.2.2.2) hi
      have h' : ∀ i, (get x i).or (cont r i) = (get y i).or (cont s i) := h
      have e1 : x.1 = y.1 := by
        rcases Int.lt_trichotomy x.1 y.1 with hlt | he | hlt
        · have := h' x.1
          obtain ⟨c, hc⟩ := get_some (x := x) (Int.le_refl _) px
          rw [hc, get_none (x := y) (by omega), ky _ (by omega)] at this
          simp at this
        · exact he
        · have := h' y.1
          obtain ⟨c, hc⟩ := get_some (x := y) (Int.le_refl _) py
          rw [hc, get_none (x := x) (by omega), kx _ (by omega)] at this
          simp at this
      have e2 : fin x = fin y := by
        rcases Int.lt_trichotomy (fin x) (fin y) with hlt | he | hlt
        · have := h' (fin x)
          obtain ⟨c, hc⟩ := get_some (x := y) (i := fin x) (by omega) hlt
          rw [hc, get_none (x := x) (by omega), kx _ (by omega)] at this
          simp at this
        · exact he
        · have := h' (fin y)
          obtain ⟨c, hc⟩ := get_some (x := x) (i := fin y) (by omega) hlt
          rw [hc, get_none (x := y) (by omega), ky _ (by omega)] at this
          simp at this
      have e3 : x.2 = y.2 := by
        apply ba_inj
        have hs : x.2.size = y.2.size := by unfold fin at e2; omega
        apply List.ext_getElem?
        intro k
        by_cases hk : k < x.2.size
        · have hg := h' (x.1 + k)
          rw [kx _ (by unfold fin; omega), ky _ (by unfold fin; omega)] at hg
          simp only [Option.or_none] at hg
          unfold get at hg
          rw [if_pos (by omega), if_pos (by omega), ← e1, show (x.1 + (k : Int) - x.1).toNat = k by omega] at hg
          exact hg
        · rw [List.getElem?_eq_none (by rw [list_size]; omega), List.getElem?_eq_none (by rw [list_size]; omega)]
      have e : x = y := Prod.ext e1 e3
      subst e
      congr 1
      refine ih hl.2.2.2 hm.2.2.2 fun i => ?_
      by_cases hi : i < fin x + 1
      · rw [kx i hi, ky i hi]
      · have := h' i
        rw [get_none (x := x) (by omega)] at this
        simpa using this

/-! Pieces made one list. -/
theorem put_nil (x : Int × ByteArray) : put [] x = [x] := rfl
theorem put_snoc (o : List (Int × ByteArray)) (y x : Int × ByteArray) : put (o ++ [y]) x = if fin y = x.1 then o ++ [(y.1, y.2 ++ x.2)] else o ++ [y] ++ [x] := by
  unfold put
  rw [List.getLast?_concat, List.dropLast_concat]
theorem fin_join {y x : Int × ByteArray} (h : fin y = x.1) : fin (y.1, y.2 ++ x.2) = fin x := by
  unfold fin at *
  simp only
  rw [app_size]; omega
theorem get_join {y x : Int × ByteArray} (h : fin y = x.1) (i : Int) : get (y.1, y.2 ++ x.2) i = (get y i).or (get x i) := by
  by_cases h1 : i < y.1
  · rw [get_none (x := (y.1, y.2 ++ x.2)) (.inl h1), get_none (x := y) (.inl h1), get_none (x := x) (.inl (by unfold fin at h; omega))]; rfl
  · by_cases h2 : i < fin y
    · obtain ⟨c, hc⟩ := get_some (x := y) (by omega) h2
      rw [hc]
      unfold get at hc ⊢
      simp only
      rw [if_pos (by omega)] at hc ⊢
      rw [app_list, List.getElem?_append_left (by rw [list_size]; unfold fin at h2; omega), hc]; rfl
    · rw [get_none (x := y) (.inr (by omega))]
      unfold get
      unfold fin at h h2
      simp only
      rw [if_pos (by omega), if_pos (by omega), app_list, List.getElem?_append_right (by rw [list_size]; omega), list_size]
      simp only [Option.none_or]
      congr 1
      omega
theorem cont_put (o : List (Int × ByteArray)) (x : Int × ByteArray) (i : Int) : cont (put o x) i = (cont o i).or (get x i) := by
  rcases List.eq_nil_or_concat o with rfl | ⟨q, y, rfl⟩
  · simp [put_nil, cont]
  · rw [List.concat_eq_append, put_snoc]
    split
    · rename_i h
      rw [cont_append, cont_append, cont_one, cont_one, get_join h, Option.or_assoc]
    · rw [cont_append, cont_one]
theorem cont_fold (o l : List (Int × ByteArray)) (i : Int) : cont (l.foldl put o) i = (cont o i).or (cont l i) := by
  induction l generalizing o with
  | nil => simp [cont]
  | cons x r ih => rw [List.foldl_cons, ih, cont_put, Option.or_assoc]; rfl
theorem cont_merge (l : List (Int × ByteArray)) (i : Int) : cont (merge l) i = cont l i := by unfold merge; rw [cont_fold]; rfl
theorem ok_put {b c : Int} {o : List (Int × ByteArray)} {x : Int × ByteArray} (ho : ok b o = true) (hn : nxt b o ≤ c + 1) (hb : b ≤ c) (h0 : 0 < x.2.size) (h1 : c ≤ x.1) (h2 : fin x ≤ 1048576) : ok b (put o x) = true ∧ nxt b (put o x) ≤ fin x + 1 := by
  rcases List.eq_nil_or_concat o with rfl | ⟨q, y, rfl⟩
  · rw [put_nil]
    exact ⟨ok_cons.2 ⟨h0, by omega, h2, rfl⟩, Int.le_refl _⟩
  · rw [List.concat_eq_append] at *
    rw [nxt_snoc] at hn
    rw [ok_append, Bool.and_eq_true, ok_cons] at ho
    rw [put_snoc]
    split
    · rename_i h
      rw [nxt_snoc, ok_append, Bool.and_eq_true, ok_cons, fin_join h]
      refine ⟨⟨ho.1, ?_, ho.2.2.1, h2, rfl⟩, Int.le_refl _⟩
      simp only
      rw [app_size]; omega
    · rw [nxt_snoc, ok_append, ok_append, nxt_snoc, Bool.and_eq_true, Bool.and_eq_true, ok_cons, ok_cons]
      exact ⟨⟨⟨ho.1, ho.2⟩, h0, by omega, h2, rfl⟩, Int.le_refl _⟩
theorem ok_fold {b c : Int} {o l : List (Int × ByteArray)} (ho : ok b o = true) (hn : nxt b o ≤ c + 1) (hb : b ≤ c) (hl : wk c l) : ok b (l.foldl put o) = true := by
  induction l generalizing o c with
  | nil => exact ho
  | cons x r ih =>
    obtain ⟨h0, h1, h2, h3⟩ := hl
    obtain ⟨p1, p2⟩ := ok_put ho hn hb h0 h1 h2
    have := (fin_pos x).2 h0
    exact ih p1 p2 (by omega) h3
theorem ok_merge {b : Int} {l : List (Int × ByteArray)} (hl : wk b l) : ok b (merge l) = true := ok_fold rfl (by show b ≤ b + 1; omega) (Int.le_refl _) hl
theorem merge_id {b : Int} {l : List (Int × ByteArray)} (hl : ok b l = true) : merge l = l := ok_unique (ok_merge (ok_wk hl)) hl (cont_merge l)

/-! A write. -/
theorem wk_write {l : List (Int × ByteArray)} {f : Int} {d : ByteArray} (hl : ok 0 l = true) (hf : 0 ≤ f) (hd : f + d.size ≤ 1048576) (h0 : 0 < d.size) : wk 0 (part 0 f l ++ [(f, d)] ++ part (f + d.size) 1048576 l) := by
  obtain ⟨p1, p2⟩ := wk_part hl 0 f
  obtain ⟨q1, q2⟩ := wk_part hl (f + d.size) 1048576
  have hone : wk f [(f, d)] := ⟨h0, Int.le_refl _, hd, trivial⟩
  refine wk_append (c := f + d.size) (wk_append (c := f) (wk_le p1 (by omega)) hf p2 hone) (by omega) (fun x hx => ?_) (wk_le q1 (by omega))
  rcases List.mem_append.1 hx with hx | hx
  · have := p2 x hx; omega
  · rw [List.mem_singleton.1 hx]; exact Int.le_refl _
theorem wr_nil {l : List (Int × ByteArray)} {f : Int} {d : ByteArray} (hl : ok 0 l = true) (h : d.size = 0) : wr l f d = l := by
  unfold wr
  rw [if_pos h, merge_id hl]
theorem wr_ok {l : List (Int × ByteArray)} {f : Int} {d : ByteArray} (hl : ok 0 l = true) (hf : 0 ≤ f) (hd : f + d.size ≤ 1048576) : ok 0 (wr l f d) = true := by
  unfold wr
  split
  · exact ok_merge (ok_wk hl)
  · exact ok_merge (wk_write hl hf hd (by omega))
theorem get_one (f : Int) (d : ByteArray) (i : Int) : get (f, d) i = if f ≤ i ∧ i < f + d.size then d.data.toList[(i - f).toNat]? else none := by
  by_cases h : f ≤ i ∧ i < f + d.size
  · rw [if_pos h]; unfold get; rw [if_pos h.1]
  · rw [if_neg h, get_none]; unfold fin; simp only; omega
theorem wr_cont {l : List (Int × ByteArray)} {f : Int} {d : ByteArray} (hl : ok 0 l = true) (hf : 0 ≤ f) (hd : f + d.size ≤ 1048576) (i : Int) :
    cont (wr l f d) i = if f ≤ i ∧ i < f + d.size then d.data.toList[(i - f).toNat]? else cont l i := by
  unfold wr
  split
  · rw [cont_merge, if_neg (by omega)]
  · rw [cont_merge, cont_append, cont_append, cont_one, cont_part, cont_part, get_one]
    by_cases h : f ≤ i ∧ i < f + d.size
    · have e1 : ¬ (0 ≤ i ∧ i < f) := by omega
      have e2 : ¬ (f + (d.size : Int) ≤ i ∧ i < 1048576) := by omega
      rw [if_pos h, if_pos h, if_neg e1, if_neg e2]; simp
    · rw [if_neg h, if_neg h]
      by_cases h0 : i < 0
      · rw [if_neg (by omega), if_neg (by omega), cont_below (ok_wk hl) h0]; rfl
      · by_cases h1 : i < f
        · rw [if_pos (by omega), if_neg (by omega)]; simp
        · by_cases h2 : i < 1048576
          · rw [if_neg (by omega), if_pos (by omega)]; simp
          · rw [if_neg (by omega), if_neg (by omega), cont_above (ok_wk hl) (by omega)]; rfl
/-- Bytes written in two pieces, the first piece first. -/
theorem wr_two {l : List (Int × ByteArray)} {f : Int} {d : ByteArray} {k : Nat} (hl : ok 0 l = true) (hf : 0 ≤ f) (hd : f + d.size ≤ 1048576) (hk : k ≤ d.size) :
    wr (wr l f (d.extract 0 k)) (f + k) (d.extract k d.size) = wr l f d ∧ wr (wr l (f + k) (d.extract k d.size)) f (d.extract 0 k) = wr l f d := by
  have s1 := cut_size d 0 k hk
  have s2 := cut_size d k d.size (Nat.le_refl _)
  have o1 := wr_ok (f := f) (d := d.extract 0 k) hl hf (by omega)
  have o2 := wr_ok (f := f + k) (d := d.extract k d.size) hl (by omega) (by omega)
  have g1 : ∀ i : Int, f ≤ i → (d.extract 0 k).data.toList[(i - f).toNat]? = if i - f < k then d.data.toList[(i - f).toNat]? else none := fun i hi => by
    rw [cut_list, List.getElem?_drop, List.getElem?_take, Nat.zero_add]
    have := hk
    by_cases h : (i - f).toNat < k
    · rw [if_pos h]
      by_cases h2 : i - f < k
      · rw [if_pos h2]
      · omega
    · rw [if_neg h, if_neg (by omega)]
  have g2 : ∀ i : Int, f + k ≤ i → (d.extract k d.size).data.toList[(i - (f + k)).toNat]? = d.data.toList[(i - f).toNat]? := fun i hi => by
    have e : k + (i - (f + k)).toNat = (i - f).toNat := by omega
    rw [cut_list, List.getElem?_drop, e, List.take_of_length_le (by rw [list_size]; exact Nat.le_refl _)]
  constructor
  · refine ok_unique (wr_ok o1 (by omega) (by omega)) (wr_ok hl hf hd) fun i => ?_
    rw [wr_cont o1 (by omega) (by omega), wr_cont hl hf (by omega), wr_cont hl hf hd, s1, s2]
    by_cases h : f ≤ i ∧ i < f + d.size
    · by_cases h2 : f + k ≤ i
      · rw [if_pos h, if_pos (by omega), g2 i h2]
      · have e1 : ¬ (f + (k : Int) ≤ i ∧ i < f + (k : Int) + ((d.size - k : Nat) : Int)) := by omega
        have e2 : f ≤ i ∧ i < f + ((k - 0 : Nat) : Int) := by omega
        rw [if_pos h, if_neg e1, if_pos e2, g1 i h.1, if_pos (by omega)]
    · have e1 : ¬ (f + (k : Int) ≤ i ∧ i < f + (k : Int) + ((d.size - k : Nat) : Int)) := by omega
      have e2 : ¬ (f ≤ i ∧ i < f + ((k - 0 : Nat) : Int)) := by omega
      rw [if_neg h, if_neg e1, if_neg e2]
  · refine ok_unique (wr_ok o2 (by omega) (by omega)) (wr_ok hl hf hd) fun i => ?_
    rw [wr_cont o2 (by omega) (by omega), wr_cont hl (by omega) (by omega), wr_cont hl hf hd, s1, s2]
    by_cases h : f ≤ i ∧ i < f + d.size
    · by_cases h2 : f + k ≤ i
      · have e2 : ¬ (f ≤ i ∧ i < f + ((k - 0 : Nat) : Int)) := by omega
        have e1 : f + (k : Int) ≤ i ∧ i < f + (k : Int) + ((d.size - k : Nat) : Int) := by omega
        rw [if_pos h, if_neg e2, if_pos e1, g2 i h2]
      · have e2 : f ≤ i ∧ i < f + ((k - 0 : Nat) : Int) := by omega
        rw [if_pos h, if_pos e2, g1 i h.1, if_pos (by omega)]
    · have e1 : ¬ (f + (k : Int) ≤ i ∧ i < f + (k : Int) + ((d.size - k : Nat) : Int)) := by omega
      have e2 : ¬ (f ≤ i ∧ i < f + ((k - 0 : Nat) : Int)) := by omega
      rw [if_neg h, if_neg e1, if_neg e2]

/-! A read. -/
theorem rd_length (l : List (Int × ByteArray)) (f : Int) (m : Nat) : (rd l f m).length = m := by simp [rd]
theorem rd_get (l : List (Int × ByteArray)) (f : Int) (m : Nat) (k : Nat) (h : k < m) : (rd l f m)[k]? = some ((cont l (f + k)).getD 0) := by simp [rd, h]
theorem rd_ext {l m : List (Int × ByteArray)} {f : Int} {n : Nat} (h : ∀ i : Int, f ≤ i → i < f + n → cont l i = cont m i) : rd l f n = rd m f n := by
  unfold rd
  refine List.map_congr_left fun k hk => ?_
  have := List.mem_range.1 hk
  rw [h _ (by omega) (by omega)]
theorem rd_two (l : List (Int × ByteArray)) (f : Int) (n m : Nat) : rd l f (n + m) = rd l f n ++ rd l (f + n) m := by
  unfold rd
  rw [List.range_add, List.map_append, List.map_map]
  congr 1
  refine List.map_congr_left fun k hk => ?_
  simp only [Function.comp_apply]
  congr 2
  omega
theorem rd_wr {l : List (Int × ByteArray)} {f : Int} {d : ByteArray} (hl : ok 0 l = true) (hf : 0 ≤ f) (hd : f + d.size ≤ 1048576) : rd (wr l f d) f d.size = d.data.toList := by
  apply List.ext_getElem?
  intro k
  by_cases hk : k < d.size
  · rw [rd_get _ _ _ _ hk, wr_cont hl hf hd, if_pos (by omega), show (f + (k : Int) - f).toNat = k by omega, List.getElem?_eq_getElem (by rw [list_size]; exact hk)]; rfl
  · rw [List.getElem?_eq_none (by rw [rd_length]; omega), List.getElem?_eq_none (by rw [list_size]; omega)]
theorem rd_wr_other {l : List (Int × ByteArray)} {f : Int} {d : ByteArray} (hl : ok 0 l = true) (hf : 0 ≤ f) (hd : f + d.size ≤ 1048576) (g : Int) (m : Nat) (h : g + m ≤ f ∨ f + d.size ≤ g) : rd (wr l f d) g m = rd l g m :=
  rd_ext fun i h1 h2 => by rw [wr_cont hl hf hd, if_neg (by omega)]
theorem rd_cut (l : List (Int × ByteArray)) (f : Int) (m : Nat) : rd (part 0 f l) f m = List.replicate m 0 := by
  unfold rd
  rw [List.eq_replicate_iff]
  refine ⟨by simp, fun c hc => ?_⟩
  obtain ⟨k, _, rfl⟩ := List.mem_map.1 hc
  rw [cont_part, if_neg (by omega)]; rfl
/-- A piece more is laid. -/
theorem rd_lay {p : List (Int × ByteArray)} {x : Int × ByteArray} {f : Int} {m : Nat} (h1 : f ≤ x.1) (h2 : fin x ≤ f + m) (hp : ∀ i, x.1 ≤ i → cont p i = none) :
    rd (p ++ [x]) f m = (rd p f m).take (x.1 - f).toNat ++ x.2.data.toList ++ (rd p f m).drop ((x.1 - f).toNat + x.2.size) := by
  have hf : fin x = x.1 + x.2.size := rfl
  apply List.ext_getElem?
  intro k
  have hlen : ((rd p f m).take (x.1 - f).toNat ++ x.2.data.toList).length = (x.1 - f).toNat + x.2.size := by
    rw [List.length_append, List.length_take, rd_length, list_size]; omega
  by_cases hk : k < m
  · rw [rd_get _ _ _ _ hk, cont_append, cont_one]
    by_cases k1 : (k : Int) < x.1 - f
    · rw [get_none (.inl (by omega)), List.append_assoc, List.getElem?_append_left (by rw [List.length_take, rd_length]; omega), List.getElem?_take, if_pos (by omega), rd_get _ _ _ _ hk]; simp
    · by_cases k2 : (k : Int) < x.1 - f + x.2.size
      · rw [hp _ (by omega), List.getElem?_append_left (by rw [hlen]; omega), List.getElem?_append_right (by rw [List.length_take, rd_length]; omega), List.length_take, rd_length]
        unfold get
        rw [if_pos (by omega), List.getElem?_eq_getElem (by rw [list_size]; omega), List.getElem?_eq_getElem (by rw [list_size]; omega)]
        simp only [Option.none_or, Option.getD_some, Option.some.injEq]
        congr 1
        omega
      · rw [get_none (.inr (by omega)), List.getElem?_append_right (by rw [hlen]; omega), hlen, List.getElem?_drop, rd_get _ _ _ _ (by omega), show (x.1 - f).toNat + x.2.size + (k - ((x.1 - f).toNat + x.2.size)) = k by omega]; simp
  · rw [List.getElem?_eq_none (by rw [rd_length]; omega), List.getElem?_eq_none]
    rw [List.length_append, hlen, List.length_drop, rd_length]; omega
theorem rd_nil (f : Int) (m : Nat) : rd [] f m = List.replicate m 0 := by
  unfold rd
  rw [List.eq_replicate_iff]
  refine ⟨by simp, fun c hc => ?_⟩
  obtain ⟨k, _, rfl⟩ := List.mem_map.1 hc
  rfl
theorem rd_part (l : List (Int × ByteArray)) (f : Int) (m : Nat) : rd (part f (f + m) l) f m = rd l f m :=
  rd_ext fun i h1 h2 => by rw [cont_part, if_pos ⟨h1, h2⟩]

/-! Totals. -/
theorem cnt_nil : cnt [] = 0 := rfl
theorem cnt_append (a b : List (Int × ByteArray)) : cnt (a ++ b) = cnt a + cnt b := by simp [cnt]
theorem cnt_one (x : Int × ByteArray) : cnt [x] = x.2.size := by simp [cnt]
theorem cnt_cons (x : Int × ByteArray) (r : List (Int × ByteArray)) : cnt (x :: r) = x.2.size + cnt r := by simp [cnt]
theorem cnt_take (l : List (Int × ByteArray)) (k : Nat) : cnt (l.take k) ≤ cnt l := by
  have := cnt_append (l.take k) (l.drop k)
  rw [List.take_append_drop] at this; omega
theorem cat_append (a b : List (Int × ByteArray)) : cat (a ++ b) = cat a ++ cat b := by simp [cat]
theorem cat_one (x : Int × ByteArray) : cat [x] = x.2.data.toList := by simp [cat]
theorem cat_length (l : List (Int × ByteArray)) : (cat l).length = cnt l := by
  induction l with
  | nil => rfl
  | cons x r ih =>
    have : cat (x :: r) = cat [x] ++ cat r := by rw [← cat_append]; rfl
    rw [this, List.length_append, ih, cat_one, list_size, cnt_cons]
theorem wk_cnt {b : Int} {l : List (Int × ByteArray)} (h : wk b l) (hb : b ≤ 1048576) : (cnt l : Int) ≤ 1048576 - b ∧ l.length ≤ cnt l := by
  induction l generalizing b with
  | nil => exact ⟨by rw [cnt_nil]; omega, Nat.le_refl _⟩
  | cons x r ih =>
    obtain ⟨h0, h1, h2, h3⟩ := h
    have := ih h3 h2
    have hf : fin x = x.1 + x.2.size := rfl
    rw [cnt_cons, List.length_cons]
    omega
theorem take_snoc {α : Type} (l : List α) (k : Nat) (h : k < l.length) : l.take (k + 1) = l.take k ++ [l[k]] := by
  rw [List.take_succ_eq_append_getElem h]
theorem wk_at {b : Int} {l : List (Int × ByteArray)} (h : wk b l) (k : Nat) (hk : k < l.length) : 0 < l[k].2.size ∧ b ≤ l[k].1 ∧ fin l[k] ≤ 1048576 ∧ ∀ i, l[k].1 ≤ i → cont (l.take k) i = none := by
  induction l generalizing b k with
  | nil => simp at hk
  | cons x r ih =>
    obtain ⟨h0, h1, h2, h3⟩ := h
    have := (fin_pos x).2 h0
    cases k with
    | zero => exact ⟨h0, h1, h2, fun i _ => rfl⟩
    | succ k =>
      obtain ⟨i0, i1, i2, i3⟩ := ih h3 k (by simpa using hk)
      refine ⟨i0, ?_, i2, fun i hi => ?_⟩
      · show b ≤ (r[k]'(by simpa using hk)).1
        omega
      · show (get x i).or (cont (r.take k) i) = none
        have hi' : (r[k]'(by simpa using hk)).1 ≤ i := hi
        rw [i3 i hi', get_none (.inr (by omega))]; rfl
theorem put_ne (o : List (Int × ByteArray)) (x : Int × ByteArray) : put o x ≠ [] := by
  rcases List.eq_nil_or_concat o with rfl | ⟨q, y, rfl⟩
  · simp [put_nil]
  · rw [List.concat_eq_append, put_snoc]; split <;> simp
theorem put_length (o : List (Int × ByteArray)) (x : Int × ByteArray) : (put o x).length ≤ o.length + 1 := by
  rcases List.eq_nil_or_concat o with rfl | ⟨q, y, rfl⟩
  · simp [put_nil]
  · rw [List.concat_eq_append, put_snoc]; split <;> simp
theorem fold_length (l o : List (Int × ByteArray)) : (l.foldl put o).length ≤ o.length + l.length := by
  induction l generalizing o with
  | nil => simp
  | cons x r ih => have := ih (put o x); have := put_length o x; simp only [List.foldl_cons, List.length_cons]; omega
theorem merge_length (l : List (Int × ByteArray)) : (merge l).length ≤ l.length := by have := fold_length l []; simpa [merge] using this
theorem merge_take (l : List (Int × ByteArray)) (k : Nat) (h : k < l.length) : merge (l.take (k + 1)) = put (merge (l.take k)) l[k] := by
  unfold merge; rw [take_snoc l k h, List.foldl_append]; rfl
theorem part_take (lo hi : Int) (l : List (Int × ByteArray)) (k : Nat) (h : k < l.length) : part lo hi (l.take (k + 1)) = part lo hi (l.take k) ++ (piece lo hi l[k]).toList := by
  unfold part
  rw [take_snoc l k h, List.filterMap_append]
  cases h : piece lo hi l[k] <;> simp [h]
theorem wk_take {b : Int} {l : List (Int × ByteArray)} (h : wk b l) (k : Nat) : wk b (l.take k) := by
  induction l generalizing b k with
  | nil => rw [List.take_nil]; trivial
  | cons x r ih =>
    cases k with
    | zero => trivial
    | succ k => exact ⟨h.1, h.2.1, h.2.2.1, ih h.2.2.2 k⟩
theorem wk_pos {b : Int} {l : List (Int × ByteArray)} (h : wk b l) : ∀ x ∈ l, 0 < x.2.size := by
  induction l generalizing b with
  | nil => intro x hx; simp at hx
  | cons y r ih =>
    intro x hx
    rcases List.mem_cons.1 hx with rfl | hx
    · exact h.1
    · exact ih h.2.2.2 x hx
theorem cat_put (o : List (Int × ByteArray)) (x : Int × ByteArray) : cat (put o x) = cat o ++ x.2.data.toList := by
  rcases List.eq_nil_or_concat o with rfl | ⟨q, y, rfl⟩
  · rw [put_nil, cat_one]; rfl
  · rw [List.concat_eq_append, put_snoc]
    split
    · rw [cat_append, cat_append, cat_one, cat_one, app_list, List.append_assoc]
    · rw [cat_append, cat_one]
theorem cat_fold (l o : List (Int × ByteArray)) : cat (l.foldl put o) = cat o ++ cat l := by
  induction l generalizing o with
  | nil => simp [cat]
  | cons x r ih =>
    have : cat (x :: r) = cat [x] ++ cat r := by rw [← cat_append]; rfl
    rw [List.foldl_cons, ih, cat_put, this, cat_one, List.append_assoc]
theorem cat_merge (l : List (Int × ByteArray)) : cat (merge l) = cat l := by unfold merge; rw [cat_fold]; rfl
theorem merge_last {l o : List (Int × ByteArray)} {y : Int × ByteArray} (h : wk 0 l) (hm : merge l = o ++ [y]) : 0 ≤ y.1 ∧ fin y ≤ 1048576 ∧ cat l = cat o ++ y.2.data.toList := by
  have hok := ok_merge h
  rw [hm, ok_append, Bool.and_eq_true, ok_cons] at hok
  have hn : 0 ≤ nxt 0 o := by
    clear hm h
    have := hok.1
    have key : ∀ (o : List (Int × ByteArray)) (b : Int), 0 ≤ b → ok b o = true → 0 ≤ nxt b o := by
      intro o
      induction o with
      | nil => intro b hb _; exact hb
      | cons x r ih =>
        intro b hb hok
        rw [ok_cons] at hok
        have := (fin_pos x).2 hok.1
        exact ih _ (by omega) hok.2.2.2
    exact key o 0 (Int.le_refl _) this
  refine ⟨by omega, hok.2.2.2.1, ?_⟩
  rw [← cat_merge, hm, cat_append, cat_one]
theorem cat_at (l : List (Int × ByteArray)) (k : Nat) (hk : k < l.length) : cat l = cat (l.take k) ++ (l[k].2.data.toList ++ cat (l.drop (k + 1))) := by
  have e : l = l.take k ++ l[k] :: l.drop (k + 1) := by rw [← List.drop_eq_getElem_cons hk, List.take_append_drop]
  have e2 : cat (l[k] :: l.drop (k + 1)) = cat [l[k]] ++ cat (l.drop (k + 1)) := by rw [← cat_append]; rfl
  rw [← cat_one, ← e2, ← cat_append, ← e]
theorem text_one {l : List (Int × ByteArray)} {k : Nat} (hk : k < l.length) {t : ByteArray} (ht : t.data.toList = cat l) : t.extract (cnt (l.take k)) (cnt (l.take k) + l[k].2.size) = l[k].2 := by
  apply ba_inj
  rw [cut_list, ht, cat_at l k hk, ← List.append_assoc, List.take_left' (by rw [List.length_append, cat_length, list_size]), List.drop_left' (cat_length _)]
theorem text_two {l : List (Int × ByteArray)} {k : Nat} (hk : k < l.length) {t y : ByteArray} (ht : t.data.toList = cat l) {p : List UInt8} (hp : cat (l.take k) = p ++ y.data.toList) : t.extract (cnt (l.take k) - y.size) (cnt (l.take k) + l[k].2.size) = y ++ l[k].2 := by
  apply ba_inj
  have hlen : p.length = cnt (l.take k) - y.size := by
    have := congrArg List.length hp
    rw [cat_length, List.length_append, list_size] at this
    omega
  rw [cut_list, ht, cat_at l k hk, ← List.append_assoc, List.take_left' (by rw [List.length_append, cat_length, list_size]), hp, List.append_assoc, List.drop_left' hlen, app_list]
theorem text_size {l : List (Int × ByteArray)} {t : ByteArray} (ht : t.data.toList = cat l) : t.size = cnt l := by rw [← list_size, ht, cat_length]
theorem ok_at {b : Int} {l : List (Int × ByteArray)} (h : ok b l = true) (k : Nat) (hk : k < l.length) : ok b (l.take k) = true ∧ 0 < l[k].2.size ∧ nxt b (l.take k) ≤ l[k].1 ∧ fin l[k] ≤ 1048576 := by
  have e : l = l.take k ++ l[k] :: l.drop (k + 1) := by rw [← List.drop_eq_getElem_cons hk, List.take_append_drop]
  rw [e, ok_append, Bool.and_eq_true, ok_cons] at h
  exact ⟨h.1, h.2.1, h.2.2.1, h.2.2.2.1⟩
theorem ok_no {b : Int} {l : List (Int × ByteArray)} (k : Nat) (hk : k < l.length) (h : l[k].2.size = 0 ∨ l[k].1 < nxt b (l.take k) ∨ 1048576 < fin l[k]) : ok b l = false := by
  rw [← Bool.not_eq_true]
  intro hok
  obtain ⟨-, h1, h2, h3⟩ := ok_at hok k hk
  omega
theorem ok_next {b : Int} {l : List (Int × ByteArray)} (k : Nat) (hk : k < l.length) (h : ok b (l.take k) = true) (h1 : 0 < l[k].2.size) (h2 : nxt b (l.take k) ≤ l[k].1) (h3 : fin l[k] ≤ 1048576) : ok b (l.take (k + 1)) = true ∧ nxt b (l.take (k + 1)) = fin l[k] + 1 := by
  rw [take_snoc l k hk, nxt_snoc, ok_append, Bool.and_eq_true, ok_cons]
  exact ⟨⟨h, h1, h2, h3, rfl⟩, rfl⟩
theorem nxt_le {b : Int} {l : List (Int × ByteArray)} (h : ok b l = true) (hb : b ≤ 1048577) : b ≤ nxt b l ∧ nxt b l ≤ 1048577 := by
  induction l generalizing b with
  | nil => exact ⟨Int.le_refl _, hb⟩
  | cons x r ih =>
    rw [ok_cons] at h
    have := ih h.2.2.2 (by omega)
    have := (fin_pos x).2 h.1
    show b ≤ nxt (fin x + 1) r ∧ nxt (fin x + 1) r ≤ 1048577
    omega
theorem part_length (lo hi : Int) (l : List (Int × ByteArray)) : (part lo hi l).length ≤ l.length := List.length_filterMap_le _ _

end EM
end Go.Proofs.YtbloiilinofklaaGreat

/- Extents in memory: a slice value that reads as a list of extents; a struct's two cells; contracts of end, fits, valid, endsBy, count. -/
namespace Go.Proofs.YtbloiilinofklaaGreat
open Go.ChangeShapes Go.WideShapes Go.ChangeAt Go.RowKit
set_option linter.unusedVariables false
set_option linter.unusedSimpArgs false


/-- A list of extents, as cells. -/
def ecl (l : List (Int × ByteArray)) : List Value := l.flatMap fun x => [Value.int .i64 x.1, Value.string x.2]
theorem ecl_cons (x : Int × ByteArray) (r : List (Int × ByteArray)) : ecl (x :: r) = .int .i64 x.1 :: .string x.2 :: ecl r := by simp [ecl]
theorem ecl_length (l : List (Int × ByteArray)) : (ecl l).length = l.length * 2 := by
  induction l with
  | nil => rfl
  | cons x r ih => rw [ecl_cons]; simp only [List.length_cons, ih]; omega
theorem ecl_append (a b : List (Int × ByteArray)) : ecl (a ++ b) = ecl a ++ ecl b := by simp [ecl]
theorem ecl_one (l : List (Int × ByteArray)) : ∀ u ∈ ecl l, u.oneCell' = true := by
  intro u hu
  obtain ⟨x, _, hx⟩ := List.mem_flatMap.1 hu
  simp only [List.mem_cons, List.not_mem_nil, or_false] at hx
  rcases hx with rfl | rfl <;> rfl
theorem ecl_take (l : List (Int × ByteArray)) (k : Nat) : (ecl l).take (k * 2) = ecl (l.take k) := by
  induction l generalizing k with
  | nil => simp [ecl]
  | cons x r ih =>
    cases k with
    | zero => simp [ecl]
    | succ k => rw [Nat.succ_mul, ecl_cons, List.take_succ_cons, List.take_succ_cons, List.take_succ_cons, ecl_cons, ih]
theorem ecl_get (l : List (Int × ByteArray)) (j : Nat) (h : j < l.length) : (ecl l)[j * 2]? = some (.int .i64 l[j].1) ∧ (ecl l)[j * 2 + 1]? = some (.string l[j].2) := by
  induction l generalizing j with
  | nil => simp at h
  | cons x r ih =>
    cases j with
    | zero => rw [ecl_cons]; exact ⟨rfl, rfl⟩
    | succ j =>
      have := ih j (by simpa using h)
      rw [Nat.succ_mul, ecl_cons]
      exact this

/-- A slice value of length n reads as the extents l in world w. -/
def XS (w : World) (ao : Option Addr) (n cap : Nat) (l : List (Int × ByteArray)) : Prop :=
  l.length = n ∧ n ≤ cap ∧ cap ≤ maxLen ∧ (ao = none → cap = 0) ∧ ∀ a, ao = some a → ∀ j u, (ecl l)[j]? = some u → w.cell? (a.add j) = some u
section
variable {w w' : World} {ao : Option Addr} {n cap : Nat} {l : List (Int × ByteArray)}
theorem XS.below (h : XS w ao n cap l) {B : Nat} (hb : Below B w w') (hB : w.heap.size ≤ B) : XS w' ao n cap l := by
  refine ⟨h.1, h.2.1, h.2.2.1, h.2.2.2.1, fun a ha j u hu => ?_⟩
  have hc := h.2.2.2.2 a ha j u hu
  rw [hb.cell (Nat.lt_of_lt_of_le (World.block_lt_of_cell? w _ hc) hB)]
  exact hc
theorem XS.nil (w : World) : XS w none 0 0 [] := ⟨rfl, Nat.le_refl _, Nat.zero_le _, fun _ => rfl, fun _ h => by cases h⟩
theorem XS.alloc (h : XS w ao n cap l) (o : Obj) : XS (w.alloc o) ao n cap l := h.below (Below.alloc (Below.refl _ _) (Nat.le_refl _) o) (Nat.le_refl _)
/-- What is owned reads so. -/
theorem XS_own {base e : Nat} (h : w.ownsRow base e 2 (.slice ao n cap) n (ecl l)) : XS w ao n cap l := by
  have hl : l.length = n := by have := h.1; rw [ecl_length] at this; omega
  rcases h.2 with ⟨h', h''⟩ | ⟨g', cap', cur, h', hb, hg, hnc, hcm, _⟩
  · simp only [Value.slice.injEq] at h'
    obtain ⟨rfl, rfl, rfl⟩ := h'
    obtain rfl := List.eq_nil_of_length_eq_zero hl
    exact XS.nil w
  · simp only [Value.slice.injEq, true_and] at h'
    obtain ⟨rfl, rfl⟩ := h'
    refine ⟨hl, hnc, hcm, (fun h => by cases h), fun a ha j u hu => ?_⟩
    obtain rfl := Option.some.inj ha
    exact h.cells (g := g') rfl j u hu
theorem XS.at_ (h : XS w ao n cap l) (hn : 0 < n) : ∃ blk off, ao = some ⟨blk, off, none⟩ ∧ ∀ j, (hj : j < n) → w.cell? ⟨blk, off + j * 2, none⟩ = some (.int .i64 (l[j]'(by rw [h.1]; exact hj)).1) ∧ w.cell? ⟨blk, off + j * 2 + 1, none⟩ = some (.string (l[j]'(by rw [h.1]; exact hj)).2) := by
  obtain ⟨hl, h1, h2, h3, h4⟩ := h
  cases ao with
  | none => have := h3 rfl; omega
  | some a =>
    have hcell : ∀ j, (hj : j < n) → w.cell? (a.add (j * 2)) = some (.int .i64 (l[j]'(by rw [hl]; exact hj)).1) ∧ w.cell? (a.add (j * 2 + 1)) = some (.string (l[j]'(by rw [hl]; exact hj)).2) := fun j hj => by
      obtain ⟨e1, e2⟩ := ecl_get l j (by rw [hl]; exact hj)
      exact ⟨h4 a rfl _ _ e1, h4 a rfl _ _ e2⟩
    obtain ⟨b, off, spot⟩ := a
    have h0 := (hcell 0 hn).1
    have hs : spot = none := by simpa [Addr.add] using World.cell?_spot h0
    subst hs
    exact ⟨b, off, rfl, fun j hj => by have := hcell j hj; rwa [Addr.add_lit, Addr.add_lit, ← Nat.add_assoc] at this⟩
end

/-- A struct's two cells, in a block of their own. -/
def XB (w : World) (g : Nat) (x : Int × ByteArray) : Prop := w.heap[g]? = some (.cells #[.int .i64 x.1, .string x.2] 190 (0, 0))
section
variable {w w' : World} {g : Nat} {x : Int × ByteArray}
theorem XB.c0 (h : XB w g x) : w.cell? ⟨g, 0, none⟩ = some (.int .i64 x.1) := by rw [cell_of_row w g 0 _ _ _ h]; rfl
theorem XB.c1 (h : XB w g x) : w.cell? ⟨g, 1, none⟩ = some (.string x.2) := by rw [cell_of_row w g 1 _ _ _ h]; rfl
theorem XB.lt (h : XB w g x) : g < w.heap.size := by
  rcases Nat.lt_or_ge g w.heap.size with hlt | hge
  · exact hlt
  · unfold XB at h; rw [Array.getElem?_eq_none hge] at h; cases h
theorem XB.below {B : Nat} (h : XB w g x) (hb : Below B w w') (hg : g < B) : XB w' g x := (hb.block g hg).trans h
theorem XB.alloc (h : XB w g x) (o : Obj) : XB (w.alloc o) g x := (Below.heap_alloc w o g h.lt).trans h
theorem XB.grown {row : Option Nat} (h : XB w g x) (hb : w.grownBy w' row) (hg : some g ≠ row) : XB w' g x := (hb.block g h.lt hg).trans h
theorem XB.new {y : Nat} (w : World) (a : Int) (d : ByteArray) (hx : y = w.heap.size) : XB (w.alloc (.cells #[.int .i64 a, .string d] 190)) y (a, d) := by subst hx; exact heap_alloc_new w _
end

/-- A number between these is one that int64 holds. -/
def I64 (a : Int) : Prop := -9223372036854775808 ≤ a ∧ a ≤ 9223372036854775807

set_option maxRecDepth 100000 in
set_option maxHeartbeats 400000 in
theorem end_any (a : Int) (d : ByteArray) (w : World) (h1 : -9223372036854775808 ≤ a) (h2 : a + d.size ≤ 9223372036854775807) :
    Calls Tryz.prog 140 #[.agg #[.int .i64 a, .string d]] w fun e w' => e = .returned (.int .i64 (a + d.size)) ∧ Below w.heap.size w w' := by
  have bb : Below w.heap.size w (w.alloc (.cells #[.int .i64 a, .string d] 190)) := (Below.refl _ _).alloc (Nat.le_refl _) _
  go_enter Tryz.func140, Tryz.ntmps140
  go_wp2_with fail
  go_ret
  exact ⟨rfl, bb⟩

set_option maxRecDepth 100000 in
set_option maxHeartbeats 400000 in
theorem fits_any (a : Int) (d : ByteArray) (w : World) (h1 : I64 a) (h2 : d.size ≤ maxLen) :
    Calls Tryz.prog 139 #[.int .i64 a, .string d] w fun e w' => e = .returned (.bool (decide (a + d.size ≤ 1048576))) ∧ w = w' := by
  obtain ⟨h3, h4⟩ := h1
  unfold maxLen at h2
  go_enter Tryz.func139, Tryz.ntmps139
  go_wp2_with fail
  go_ret
  exact ⟨ret_bool (decide_eq_decide.2 (by omega)), rfl⟩

theorem xempty {s : ByteArray} (h : s.size = 0) : s.toList = [] ∧ s.toList.isEmpty = true := by
  have : s.data.toList = [] := List.eq_nil_of_length_eq_zero (by rw [EM.list_size]; exact h)
  rw [ByteArray.toList_eq, this]; exact ⟨rfl, rfl⟩
theorem xfull {s : ByteArray} (h : s.size ≠ 0) : (s.toList = []) = False ∧ s.toList.isEmpty = false := by
  have hl := EM.list_size s
  rw [ByteArray.toList_eq]
  cases he : s.data.toList with
  | nil => rw [he] at hl; exact absurd hl.symm h
  | cons c r => exact ⟨by simp, rfl⟩

/-- What is asked of extents: numbers that int64 holds, bytes that memory holds. -/
def XFit (l : List (Int × ByteArray)) : Prop := ∀ x ∈ l, I64 x.1 ∧ x.2.size ≤ maxLen

set_option maxRecDepth 100000 in
set_option maxHeartbeats 1000000 in
theorem xvalid_any (ao : Option Addr) (n cap : Nat) (l : List (Int × ByteArray)) (w : World) (h : XS w ao n cap l) (hf : XFit l) :
    Calls Tryz.prog 128 #[.slice ao n cap] w fun e w' => e = .returned (.bool (EM.ok 0 l)) ∧ Below w.heap.size w w' := by
  have hn : n ≤ 9223372036854775807 := by have := h.2.1; have := h.2.2.1; unfold maxLen at *; omega
  have L := W_hid h.1
  have hfit := W_hid hf
  have hno := W_hid (fun k hk h => @EM.ok_no 0 l k hk h)
  have hgo := W_hid (fun k hk h => @EM.ok_next 0 l k hk h)
  have hle := W_hid (fun k (h : EM.ok 0 (l.take k) = true) => EM.nxt_le h (by decide))
  have H := W_hid h
  clear h hf
  go_enter Tryz.func128, Tryz.ntmps128
  go_wp2_with fail
  go_loopw [3, 8] (fun f i wr => ∃ (k : Nat) (b : Int), k ≤ n ∧ i = .int .i64 k ∧ f = .int .i64 b ∧ Hid (EM.ok 0 (l.take k) = true ∧ EM.nxt 0 (l.take k) = b) ∧ Below w.heap.size w wr) (fun _ i _ => n - (intOf i).toNat)
  case atStart => exact ⟨0, 0, Nat.zero_le _, rfl, rfl, W_hid ⟨rfl, rfl⟩, Below.refl _ _⟩
  case round =>
    obtain ⟨k, b, hk, rfl, rfl, hok, bel⟩ := hrel
    obtain ⟨hb0, hb1⟩ : 0 ≤ b ∧ b ≤ 1048577 := by have := hle.out k hok.out.1; rw [hok.out.2] at this; exact this
    by_cases hlt : k < n
    · obtain ⟨b1, o1, rfl, g1⟩ := (H.out.below bel (Nat.le_refl _)).at_ (by omega)
      have k1 : k < l.length := by rw [L.out]; exact hlt
      obtain ⟨e1, e2⟩ := g1 k hlt
      have hft := hfit.out l[k] (List.getElem_mem k1)
      have hno := W_hid (hno.out k k1)
      have hgo := W_hid (hgo.out k k1)
      obtain ⟨⟨a, d⟩, hx⟩ : ∃ x, l[k] = x := ⟨_, rfl⟩
      simp only [hx] at e1 e2 hft hno hgo
      obtain ⟨⟨ha1, ha2⟩, hd⟩ := hft
      clear hx g1 k1
      by_cases h0 : d.size = 0
      · obtain ⟨s1, s2⟩ := xempty h0
        have hh : Hid (EM.ok 0 l = false) := hno.out (.inl h0)
        clear hno hgo h0
        go_wp2_with fail
        go_ret
        exact ⟨ret_bool hh.out.symm, bel.alloc bel.size _⟩
      obtain ⟨s1, s2⟩ := xfull h0
      by_cases h1 : a < b
      · have hh : Hid (EM.ok 0 l = false) := hno.out (.inr (.inl (by rw [hok.out.2]; exact h1)))
        clear hno hgo h0
        go_wp2_with fail
        go_ret
        exact ⟨ret_bool hh.out.symm, bel.alloc bel.size _⟩
      by_cases h2 : a + d.size ≤ 1048576
      · have hc : Hid (∀ w, Calls Tryz.prog 139 #[.int .i64 a, .string d] w fun e w' => e = .returned (.bool true) ∧ w = w') := by
          intro w
          have := fits_any a d w ⟨ha1, ha2⟩ hd
          rwa [decide_eq_true h2] at this
        have hend := W_hid (fun w => end_any a d w ha1 (by omega))
        have hnx := W_hid (hgo.out hok.out.1 (by omega) (by rw [hok.out.2]; show b ≤ a; omega) h2)
        clear hno hgo h0
        go_wp2_with fail
        refine (hc.out _).mono ?_
        rintro e w' ⟨rfl, rfl⟩
        go_wp2_with fail
        refine (hend.out _).mono ?_
        rintro e w2 ⟨rfl, bel2⟩
        have bel3 := bel.alloc bel.size (.cells #[.int .i64 a, .string d] 190)
        go_wp2_with fail
        go_roundw
        case rel => exact ⟨k + 1, a + d.size + 1, by omega, by go_num, rfl, hnx, bel3.trans (bel2.mono bel3.size)⟩
        case measure => simp [intOf]; omega
      · have hc : Hid (∀ w, Calls Tryz.prog 139 #[.int .i64 a, .string d] w fun e w' => e = .returned (.bool false) ∧ w = w') := by
          intro w
          have := fits_any a d w ⟨ha1, ha2⟩ hd
          rwa [decide_eq_false h2] at this
        have hh : Hid (EM.ok 0 l = false) := hno.out (.inr (.inr (by show (1048576 : Int) < a + d.size; omega)))
        clear hno hgo h0
        go_wp2_with fail
        refine (hc.out _).mono ?_
        rintro e w' ⟨rfl, rfl⟩
        go_wp2_with fail
        go_ret
        exact ⟨ret_bool hh.out.symm, bel.alloc bel.size _⟩
    · obtain rfl : k = n := by omega
      have hh : Hid (EM.ok 0 l = true) := by
        have := hok.out.1
        rwa [List.take_of_length_le (by rw [L.out]; exact Nat.le_refl _)] at this
      clear hok hno hgo
      go_wp2_with fail
      go_ret
      exact ⟨ret_bool hh.out.symm, bel⟩

set_option maxRecDepth 100000 in
set_option maxHeartbeats 1000000 in
theorem count_any (ao : Option Addr) (n cap : Nat) (l : List (Int × ByteArray)) (w : World) (h : XS w ao n cap l) (hc : EM.cnt l ≤ 4611686018427387904) :
    Calls Tryz.prog 129 #[.slice ao n cap] w fun e w' => e = .returned (.int .i64 (EM.cnt l)) ∧ Below w.heap.size w w' := by
  have hn : n ≤ 9223372036854775807 := by have := h.2.1; have := h.2.2.1; unfold maxLen at *; omega
  have L := W_hid h.1
  have H := W_hid h
  have hle := W_hid (fun k => Nat.le_trans (EM.cnt_take l k) hc)
  clear h hc
  go_enter Tryz.func129, Tryz.ntmps129
  go_wp2_with fail
  go_loopw [3, 8] (fun f i wr => ∃ (k b : Nat), k ≤ n ∧ i = .int .i64 k ∧ f = .int .i64 b ∧ Hid (EM.cnt (l.take k) = b) ∧ Below w.heap.size w wr) (fun _ i _ => n - (intOf i).toNat)
  case atStart => exact ⟨0, 0, Nat.zero_le _, rfl, rfl, W_hid rfl, Below.refl _ _⟩
  case round =>
    obtain ⟨k, b, hk, rfl, rfl, hok, bel⟩ := hrel
    by_cases hlt : k < n
    · obtain ⟨b1, o1, rfl, g1⟩ := (H.out.below bel (Nat.le_refl _)).at_ (by omega)
      have k1 : k < l.length := by rw [L.out]; exact hlt
      obtain ⟨e1, e2⟩ := g1 k hlt
      have hnext : Hid (EM.cnt (l.take (k + 1)) = b + l[k].2.size) := by
        show _ = _
        rw [EM.take_snoc l k k1, EM.cnt_append, EM.cnt_one, hok.out]
      have hbb : b + l[k].2.size ≤ 4611686018427387904 := by rw [← hnext.out]; exact hle.out _
      obtain ⟨⟨a, d⟩, hx⟩ : ∃ x, l[k] = x := ⟨_, rfl⟩
      simp only [hx] at e1 e2 hnext hbb
      clear hx g1 k1 hok
      have bel3 := bel.alloc bel.size (.cells #[.int .i64 a, .string d] 190)
      go_wp2_with fail
      go_roundw
      case rel => exact ⟨k + 1, b + d.size, by omega, by go_num, by go_num, hnext, bel3⟩
      case measure => simp [intOf]; omega
    · obtain rfl : k = n := by omega
      have hh : Hid (EM.cnt l = b) := by
        have := hok.out
        rwa [List.take_of_length_le (by rw [L.out]; exact Nat.le_refl _)] at this
      clear hok
      go_wp2_with fail
      go_ret
      exact ⟨ret_int (by rw [hh.out]), bel⟩

/-- Where a valid list ends: 0, if it is empty. -/
def ends : List (Int × ByteArray) → Int
  | [] => 0
  | x :: r => EM.nxt 0 (x :: r) - 1

end Go.Proofs.YtbloiilinofklaaGreat

/- Contract of part, the program's: the pieces of a valid list from a place on, ahead of another. -/
namespace Go.Proofs.YtbloiilinofklaaGreat
open Go.ChangeShapes Go.WideShapes Go.ChangeAt Go.RowKit
set_option linter.unusedVariables false
set_option linter.unusedSimpArgs false

theorem info_ext : (Tryz.prog.info? 190).map (fun i => (i.zero, i.size, i.bytes)) = some (some (.agg #[.int .i64 0, .string ByteArray.empty]), 2, 24) := by kernel_rfl

/-- A valid list in numbers. -/
theorem ok_nums {l : List (Int × ByteArray)} (h : EM.ok 0 l = true) : l.length ≤ 1048576 ∧ EM.cnt l ≤ 1048576 := by
  have := EM.wk_cnt (EM.ok_wk h) (by decide)
  omega
theorem ok_each {l : List (Int × ByteArray)} (h : EM.ok 0 l = true) (k : Nat) (hk : k < l.length) : 0 < l[k].2.size ∧ 0 ≤ l[k].1 ∧ l[k].1 + l[k].2.size ≤ 1048576 := by
  have := EM.wk_at (EM.ok_wk h) k hk
  exact ⟨this.1, this.2.1, this.2.2.1⟩

set_option maxRecDepth 100000 in
set_option maxHeartbeats 400000 in
/-- end, at a struct that lies in a block: that block is as it was. -/
theorem end_held (a : Int) (d : ByteArray) (g : Nat) (w : World) (h1 : -9223372036854775808 ≤ a) (h2 : a + d.size ≤ 9223372036854775807) (c0 : w.cell? ⟨g, 0, none⟩ = some (.int .i64 a)) (c1 : w.cell? ⟨g, 1, none⟩ = some (.string d)) :
    Calls Tryz.prog 140 #[.agg #[.int .i64 a, .string d]] w fun e w' => e = .returned (.int .i64 (a + d.size)) ∧ Below w.heap.size w w' ∧ w'.cell? ⟨g, 0, none⟩ = some (.int .i64 a) ∧ w'.cell? ⟨g, 1, none⟩ = some (.string d) := by
  have hlt := World.block_lt_of_cell? w _ c0
  refine (end_any a d w h1 h2).mono ?_
  rintro e w' ⟨rfl, bel⟩
  exact ⟨rfl, bel, by rw [bel.cell (World.block_lt_of_cell? w _ c0)]; exact c0, by rw [bel.cell (World.block_lt_of_cell? w _ c1)]; exact c1⟩

end Go.Proofs.YtbloiilinofklaaGreat

/- Bytes in memory: what it says that a slice value reads as a list of bytes, and that a list of bytes is a number's, least byte first. -/
namespace Go.Proofs.YtbloiilinofklaaGreat
open Go.ChangeShapes Go.WideShapes Go.ChangeAt Go.RowKit
set_option linter.unusedVariables false

/-- The cells of a list of bytes. -/
def cel (l : List UInt8) : List Value := l.map fun b => Value.int .u8 b.toNat

theorem cel_length (l : List UInt8) : (cel l).length = l.length := by simp [cel]
theorem cel_append (a b : List UInt8) : cel (a ++ b) = cel a ++ cel b := by simp [cel]
theorem cel_one (l : List UInt8) : ∀ u ∈ cel l, u.oneCell' = true := by
  intro u hu
  obtain ⟨_, _, rfl⟩ := List.mem_map.1 hu
  rfl
theorem cel_get (l : List UInt8) (j : Nat) : (cel l)[j]? = (l[j]?).map fun b => Value.int .u8 b.toNat := by simp [cel]
theorem cel_inj {a b : List UInt8} (h : cel a = cel b) : a = b := by
  induction a generalizing b with
  | nil => cases b with
    | nil => rfl
    | cons y b => simp [cel] at h
  | cons x a ih => cases b with
    | nil => simp [cel] at h
    | cons y b =>
      simp only [cel, List.map_cons, List.cons.injEq] at h
      have h1 : x = y := by
        have := h.1
        simp only [Value.int.injEq, true_and] at this
        exact UInt8.toNat_inj.1 (by omega)
      rw [h1, ih h.2]

/-- A slice value of length n and capacity cap at address ao reads as the bytes l in world w. -/
def BS (w : World) (ao : Option Addr) (n cap : Nat) (l : List UInt8) : Prop :=
  l.length = n ∧ n ≤ cap ∧ cap ≤ maxLen ∧ (ao = none → cap = 0) ∧ ∀ a, ao = some a → ∀ j u, (cel l)[j]? = some u → w.cell? (a.add j) = some u

theorem BS.below {w w' : World} {ao : Option Addr} {n cap : Nat} {l : List UInt8} (h : BS w ao n cap l) {B : Nat} (hb : Below B w w') (hB : w.heap.size ≤ B) : BS w' ao n cap l := by
  refine ⟨h.1, h.2.1, h.2.2.1, h.2.2.2.1, fun a ha j u hu => ?_⟩
  have hc := h.2.2.2.2 a ha j u hu
  rw [hb.cell (Nat.lt_of_lt_of_le (World.block_lt_of_cell? w _ hc) hB)]
  exact hc

theorem BS.nil (w : World) : BS w none 0 0 [] := ⟨rfl, Nat.le_refl _, Nat.zero_le _, fun _ => rfl, fun _ h => by cases h⟩

/-- What is owned reads so. -/
theorem BS_own {w : World} {base e : Nat} {g n cap : Nat} {l : List UInt8} (h : w.ownsRow base e 1 (.slice (some ⟨g, 0, none⟩) n cap) n (cel l)) : BS w (some ⟨g, 0, none⟩) n cap l := by
  have hl : l.length = n := by have := h.1; rw [cel_length] at this; omega
  rcases h.2 with ⟨h', _⟩ | ⟨g', cap', cur, h', hb, hg, hnc, hcm, _⟩
  · simp at h'
  · simp only [Value.slice.injEq, Option.some.injEq, Addr.mk.injEq, and_true, true_and] at h'
    obtain ⟨rfl, rfl⟩ := h'
    refine ⟨hl, hnc, hcm, (fun h => by cases h), fun a ha j u hu => ?_⟩
    obtain rfl := Option.some.inj ha
    exact h.cells (g := g) rfl j u hu

/-- A cut of what reads so. -/
theorem BS.cut {w : World} {ao : Option Addr} {n cap : Nat} {l : List UInt8} (h : BS w ao n cap l) {lo hi : Nat} (h1 : lo ≤ hi) (h2 : hi ≤ n) :
    BS w (if cap = lo then ao else ao.map (·.add (lo * 1))) (hi - lo) (cap - lo) ((l.take hi).drop lo) := by
  obtain ⟨hl, hnc, hcm, hnone, hc⟩ := h
  refine ⟨by simp; omega, by omega, by omega, fun hn => ?_, fun a ha j u hu => ?_⟩
  · split at hn
    · have := hnone hn; omega
    · cases ao with
      | none => have := hnone rfl; omega
      | some x => simp at hn
  · have hj : j < hi - lo := by
      have := (List.getElem?_eq_some_iff.1 hu).1
      rw [cel_length] at this; simp at this; omega
    rw [if_neg (by omega)] at ha
    obtain ⟨x, rfl, rfl⟩ := Option.map_eq_some_iff.1 ha
    show w.cell? ((x.add (lo * 1)).add j) = some u
    rw [Addr.add_add, Nat.mul_one]
    refine hc x rfl (lo + j) u ?_
    rw [cel_get] at hu ⊢
    rw [← hu, List.getElem?_drop, List.getElem?_take, if_pos (by omega)]

/-- The law of a cut 'x[lo:hi]' for the walk, the address left open. -/
theorem wpList_cut {P : Program} {w : World} {ops : Array Oper} {rest : List Oper} {o : Oper} {a : Act} {Q : Exit → Act → World → Prop} (hg : o.guard = none) (x lo hi : Operand) (t e : TypeId) (hop : o.op = Op.slice t x (some lo) (some hi) none)
    (ht : P.underlying t = some (.slice (P.elem t))) (hs : (sizeOf (P.elem t)).run P w = .ok 1 w)
    (ao : Option Addr) (n cap : Nat) (l : List UInt8) (hx : a.eval x = .slice ao n cap) (hb : BS w ao n cap l) (kl kh : IntKind) (L H : Nat) (hl : a.eval lo = .int kl L) (hh : a.eval hi = .int kh H) (h1 : L ≤ H) (h2 : H ≤ n)
    (hK : ∀ ao', BS w ao' (H - L) (cap - L) ((l.take H).drop L) → wpList P ops Q rest (a.put o.dst (.slice ao' (H - L) (cap - L))) w) :
    wpList P ops Q (o :: rest) a w := by
  refine wpList_plain hg fun K hK' => ?_
  have hcap := hb.2.1
  have hrun := run_slice_lh (P := P) w t ao n cap ht kl kh (L : Int) (H : Int) (by omega) (by omega) (by omega)
  rw [hs] at hrun
  simp only [Result.andThen, sliced, Int.toNat_natCast] at hrun
  have hrun2 : (Instr.sliceAt t (.slice ao n cap) (some (.int kl (L : Int))) (some (.int kh (H : Int))) none).run P w = .ok (.slice (if cap = L then ao else ao.map (·.add (L * 1))) (H - L) (cap - L)) w := by
    rw [run_sliceAt_slice (P := P) w t _ _ _ _ ht]; exact hrun
  unfold Oper.wp
  simp only [execOp, hop, hx, hl, hh, Option.map_some, Option.map_none, hrun2, Sem.run_bind, Sem.run_pure, Result.andThen, Oper.upon]
  exact hK' _ _ (hK _ (by simpa using hb.cut h1 h2))

/-- Of a slice's bytes to a string. -/
def strOf (l : List UInt8) : ByteArray := ⟨l.toArray⟩
theorem strOf_size (l : List UInt8) : (strOf l).size = l.length := by simp [strOf, ByteArray.size]
theorem strOf_list (l : List UInt8) : (strOf l).data.toList = l := by simp [strOf]
theorem strOf_of (s : ByteArray) : strOf s.data.toList = s := by simp [strOf]
theorem strCells_cel (s : ByteArray) : Lib.strCells s = cel s.data.toList := rfl

theorem strOfNums_cel (l : List UInt8) : strOfNums (l.map fun b => ((b.toNat : Nat) : Int)) = strOf l := by
  simp only [strOfNums, strOf, List.map_map]
  congr 2
  refine (List.map_congr_left fun b _ => ?_).trans (List.map_id l)
  simp

theorem run_conv {P : Program} {w : World} {ao : Option Addr} {n cap : Nat} {l : List UInt8} (src e : TypeId) (hs : P.underlying src = some (.slice e)) (he : P.underlying e = some (.int .u8)) (dst : TypeId) (hd : P.underlying dst = some .string) (h : BS w ao n cap l) :
    (convert src dst (.slice ao n cap)).run P w = .ok (.string (strOf l)) w := by
  obtain ⟨hl, hnc, hcm, hnone, hc⟩ := h
  cases ao with
  | none =>
    have h0 := hnone rfl
    have : l = [] := List.eq_nil_of_length_eq_zero (by omega)
    subst this
    rw [run_convert_bytes_nil w src e hs he n cap dst hd]
    rfl
  | some x =>
    have hl2 : (loadCells x n).run P w = .ok (cel l).toArray w := by
      have := run_loadCells_list (P := P) w x (cel l) (fun j v hj => hc x rfl j v hj)
      rw [cel_length, hl] at this
      exact this
    have hl3 : (loadCells x n).run P w = .ok ((l.map fun b => ((b.toNat : Nat) : Int)).map (Value.int .u8)).toArray w := by
      rw [hl2]; simp [cel, Function.comp_def]
    rw [run_convert_bytes_string w src dst e _ n cap hs he hd, run_bytesToString w x n cap _ hl3, foldl_push_bytes, ← strOfNums_cel]
    simp [strOfNums, ByteArray.empty, ByteArray.emptyWithCapacity]
    rfl

/-! Numbers of bytes, the least first. -/
def le : Nat → Nat → List UInt8
  | 0, _ => []
  | m + 1, k => UInt8.ofNat (k % 256) :: le m (k / 256)
def num : List UInt8 → Nat
  | [] => 0
  | b :: r => b.toNat + 256 * num r

theorem le_length : ∀ m k, (le m k).length = m
  | 0, _ => rfl
  | m + 1, k => by simp [le, le_length m]
theorem num_le : ∀ m k, num (le m k) = k % 256 ^ m
  | 0, k => by simp [le, num, Nat.mod_one]
  | m + 1, k => by
    simp only [le, num, num_le m]
    rw [Nat.pow_succ, Nat.mul_comm (256 ^ m) 256, Nat.mod_mul]
    simp
theorem num_lt : ∀ l : List UInt8, num l < 256 ^ l.length
  | [] => by simp [num]
  | b :: r => by
    have := num_lt r
    have hb := b.toNat_lt
    simp only [num, List.length_cons, Nat.pow_succ]
    omega
theorem le_snoc : ∀ m k, le (m + 1) k = le m k ++ [UInt8.ofNat (k / 256 ^ m % 256)]
  | 0, k => by simp [le]
  | m + 1, k => by
    have ih := le_snoc m (k / 256)
    rw [le, ih, Nat.div_div_eq_div_mul, ← Nat.pow_succ']
    rfl
theorem le_take : ∀ i m k, i ≤ m → (le m k).take i = le i k
  | 0, _, _, _ => by simp [le]
  | i + 1, 0, _, h => by omega
  | i + 1, m + 1, k, h => by simp only [le, List.take_succ_cons]; rw [le_take i m _ (by omega)]
theorem num_append : ∀ a b : List UInt8, num (a ++ b) = num a + 256 ^ a.length * num b
  | [], b => by simp [num]
  | x :: a, b => by
    simp only [List.cons_append, num, num_append a b, List.length_cons, Nat.pow_succ]
    rw [Nat.mul_add, Nat.mul_comm (256 ^ a.length) 256, Nat.mul_assoc]
    omega
theorem num_zeros : ∀ n, num (List.replicate n 0) = 0
  | 0 => rfl
  | n + 1 => by simp [List.replicate_succ, num, num_zeros n]
theorem num_le_eq (m k : Nat) (h : k < 256 ^ m) : num (le m k) = k := by rw [num_le, Nat.mod_eq_of_lt h]

end Go.Proofs.YtbloiilinofklaaGreat

/- Bytes copied from strings into a row of bytes; contract of packed, the program's: all bytes of the pieces. -/
namespace Go.Proofs.YtbloiilinofklaaGreat
open Go.ChangeShapes Go.WideShapes Go.ChangeAt Go.RowKit
set_option linter.unusedVariables false
set_option linter.unusedSimpArgs false

theorem cel_take (l : List UInt8) (k : Nat) : (cel l).take k = cel (l.take k) := by simp [cel, List.map_take]
theorem cel_drop (l : List UInt8) (k : Nat) : (cel l).drop k = cel (l.drop k) := by simp [cel, List.map_drop]

/-- 'copy' of a string's bytes into a row of bytes, as one step of a region that draws its order. -/
theorem step_copy_bs {P : Program} {ops : Array Oper} {o : Oper} {a : Act} {w : World} {K : Act → World → Prop} {Q : Exit → Act → World → Prop} {E : Prop} (hg : o.guard = none) (d x : Operand) (dT sT : TypeId)
    (hop : o.op = Op.call { callee := Callee.builtin Builtin.copy, args := #[d, x], argTypes := #[dT, sT] }) (elem : TypeId) (hu : P.underlying dT = some (.slice elem)) (hs : (P.info? elem).map (·.size) = some 1)
    (g off n c : Nat) (s : ByteArray) (bs : List UInt8) (t : TypeId) (hd : a.eval d = .slice (some ⟨g, off, none⟩) n c) (hx : a.eval x = .string s) (hrow : w.heap[g]? = some (.cells (cel bs).toArray t (0, 0))) (hle : s.size ≤ n) (hfit : off + s.size ≤ bs.length)
    (hK : ∀ w', w'.heap[g]? = some (.cells (cel (bs.take off ++ (s.data.toList ++ bs.drop (off + s.size)))).toArray t (0, 0)) → w.grownBy w' (some g) → K (a.put o.dst (goInt s.size)) w') :
    if Region.wanted o (yielded ops a.tmps) = true then Oper.wp P o a w K Q else E := by
  have hw : Region.wanted o (yielded ops a.tmps) = true := by simp [Region.wanted, hg]
  rw [if_pos hw]
  have hrun := Lib.run_copy_row_string (P := P) w dT sT o.type elem g off n c s (cel bs).toArray t hu hs hrow hle (by simpa [cel_length] using hfit)
  have hcs : ((cel bs).toArray.toList.take off ++ Lib.byteCells s.data.toList ++ (cel bs).toArray.toList.drop (off + s.size)) = cel (bs.take off ++ (s.data.toList ++ bs.drop (off + s.size))) := by
    rw [List.toList_toArray, cel_take, cel_drop, cel_append, cel_append, List.append_assoc]; rfl
  rw [hcs] at hrun
  unfold Oper.wp
  simp [execOp, hop, resolve, invoke, builtin, hd, hx, hrun, Result.andThen]
  exact hK _ (setRow_heap w g _ _ _ _ hrow) ⟨rfl, rfl, rfl, by simp [World.setRow], fun k _ hk => setRow_other w g k _ (fun e => hk (by rw [e]))⟩

/-- A row of bytes, whole. -/
def BR (w : World) (g : Nat) (bs : List UInt8) : Prop := w.heap[g]? = some (.cells (cel bs).toArray 5 (0, 0))
section
variable {w w' : World} {g : Nat} {bs : List UInt8}
theorem BR.lt (h : BR w g bs) : g < w.heap.size := by
  rcases Nat.lt_or_ge g w.heap.size with hlt | hge
  · exact hlt
  · unfold BR at h; rw [Array.getElem?_eq_none hge] at h; cases h
theorem BR.below {B : Nat} (h : BR w g bs) (hb : Below B w w') (hg : g < B) : BR w' g bs := (hb.block g hg).trans h
theorem BR.alloc (h : BR w g bs) (o : Obj) : BR (w.alloc o) g bs := (Below.heap_alloc w o g h.lt).trans h
theorem BR.reads (h : BR w g bs) (hm : bs.length ≤ maxLen) : BS w (some ⟨g, 0, none⟩) bs.length bs.length bs := by
  refine ⟨rfl, Nat.le_refl _, hm, (fun h => by cases h), fun a ha j u hu => ?_⟩
  obtain rfl := Option.some.inj ha
  rw [Addr.add_lit, cell_of_row w g _ _ _ _ h]
  simpa using hu
theorem BR.made (N : Nat) {base : Nat} {w : World} (h : w.ownsRow base 5 1 (.slice (some ⟨g, 0, none⟩) N N) N (madeCells (Value.int .u8 0).cells (N * 1)).toList) : BR w g (List.replicate N 0) := by
  rcases h.2 with ⟨h', _⟩ | ⟨g', cap', cur, h', hb, hg, hnc, hcm, hcs, htake⟩
  · simp at h'
  · simp only [Value.slice.injEq, Option.some.injEq, Addr.mk.injEq, and_true, true_and] at h'
    obtain ⟨rfl, rfl⟩ := h'
    unfold BR
    rw [hg]
    congr 2
    rw [Nat.mul_one] at htake hcs
    rw [List.take_of_length_le (by rw [Array.length_toList]; omega)] at htake
    apply Array.toList_inj.1
    rw [htake]
    refine (toList_madeCells_one _ _).trans ?_
    simp [cel]
end

theorem byte_one : (Tryz.prog.info? 5).map (·.size) = some 1 := by kernel_rfl

theorem lay_next {p : List UInt8} {s : List UInt8} {N b : Nat} (hp : p.length = b) (hb : b + s.length ≤ N) : (p ++ List.replicate (N - b) 0).take b ++ (s ++ (p ++ List.replicate (N - b) (0 : UInt8)).drop (b + s.length)) = (p ++ s) ++ List.replicate (N - (b + s.length)) 0 := by
  rw [List.take_left' hp, List.drop_append, List.drop_eq_nil_of_le (by omega), List.nil_append, List.drop_replicate, List.append_assoc]
  congr 3
  omega

end Go.Proofs.YtbloiilinofklaaGreat

/- Contract of joined, the program's: the valid list of the pieces of all lists. -/
namespace Go.Proofs.YtbloiilinofklaaGreat
open Go.ChangeShapes Go.WideShapes Go.ChangeAt Go.RowKit
set_option linter.unusedVariables false
set_option linter.unusedSimpArgs false

/-- 'append' to an owned row of what reads as extents, nil or not. -/
theorem wpList_append_ext {w : World} {ops : Array Oper} {rest : List Oper} {o : Oper} {a : Act} {Q : Exit → Act → World → Prop} (hgd : o.guard = none) (s x : Operand)
    (ho : o.op = .call { callee := .builtin .append, args := #[s, x], argTypes := #[92, 92] })
    (base : Nat) (v : Value) (n : Nat) (xs : List Value) (hs : a.eval s = v) (hown : w.ownsRow base 190 2 v n xs) (ao : Option Addr) (m c : Nat) (l : List (Int × ByteArray)) (hx : a.eval x = .slice ao m c) (hr : XS w ao m c l)
    (hnm : n + m ≤ 4000000) (hbase : base ≤ w.heap.size)
    (h : ∀ v' w', w'.ownsRow base 190 2 v' (n + m) (xs ++ ecl l) → w.grownBy w' v.ownBlock → wpList Tryz.prog ops Q rest (a.put o.dst v') w') : wpList Tryz.prog ops Q (o :: rest) a w := by
  obtain ⟨i0, hi, hz0, hz1, hz2⟩ := info_parts info_ext
  cases ao with
  | none =>
    have hc : c = 0 := hr.2.2.2.1 rfl
    have hm : m = 0 := by have := hr.2.1; omega
    subst hc; subst hm
    obtain rfl := List.eq_nil_of_length_eq_zero hr.1
    refine wpList_append_own_none hgd s x 92 ho base 190 i0 2 Tryz.underlying92 hi v n xs hs hown hx (h v w ?_ (World.grownBy.refl w _))
    simpa [ecl] using hown
  | some ad =>
    refine wpList_append_own_wide w hgd s x 92 ho base 190 i0 (.agg #[.int .i64 0, .string ByteArray.empty]) 2 24 Tryz.underlying92 hi hz0 hz1 hz2 rfl (by decide) v n xs hs hown ad m c (ecl l) hx (by rw [ecl_length, hr.1]) (hr.2.2.2.2 ad rfl) (ecl_one l) (by unfold maxLen; omega) (by omega) hbase ?_
    intro v' w' h1 h2 _
    exact h v' w' h1 h2

/-- A slice value that reads as slice values, each of which reads as extents. -/
def LS (w : World) (ao : Option Addr) (n cap : Nat) (ls : List (Value × List (Int × ByteArray))) : Prop :=
  ls.length = n ∧ n ≤ cap ∧ cap ≤ maxLen ∧ (ao = none → cap = 0) ∧ (∀ a, ao = some a → ∀ j u, ls[j]? = some u → w.cell? (a.add j) = some u.1) ∧ ∀ p ∈ ls, ∃ ao n c, p.1 = .slice ao n c ∧ XS w ao n c p.2
section
variable {w w' : World} {ao : Option Addr} {n cap : Nat} {ls : List (Value × List (Int × ByteArray))}
theorem LS.below (h : LS w ao n cap ls) {B : Nat} (hb : Below B w w') (hB : w.heap.size ≤ B) : LS w' ao n cap ls := by
  refine ⟨h.1, h.2.1, h.2.2.1, h.2.2.2.1, fun a ha j u hu => ?_, fun p hp => ?_⟩
  · have hc := h.2.2.2.2.1 a ha j u hu
    rw [hb.cell (Nat.lt_of_lt_of_le (World.block_lt_of_cell? w _ hc) hB)]
    exact hc
  · obtain ⟨a, n, c, h1, h2⟩ := h.2.2.2.2.2 p hp
    exact ⟨a, n, c, h1, h2.below hb hB⟩
theorem LS.at_ (h : LS w ao n cap ls) (hn : 0 < n) : ∃ blk off, ao = some ⟨blk, off, none⟩ ∧ ∀ j, (hj : j < n) → w.cell? ⟨blk, off + j, none⟩ = some (ls[j]'(by rw [h.1]; exact hj)).1 := by
  obtain ⟨hl, h1, h2, h3, h4, h5⟩ := h
  cases ao with
  | none => have := h3 rfl; omega
  | some a =>
    have hcell : ∀ j, (hj : j < n) → w.cell? (a.add j) = some (ls[j]'(by rw [hl]; exact hj)).1 := fun j hj => h4 a rfl j _ (List.getElem?_eq_getElem (by rw [hl]; exact hj))
    obtain ⟨b, off, spot⟩ := a
    have h0 := hcell 0 hn
    have hs : spot = none := by simpa [Addr.add] using World.cell?_spot h0
    subst hs
    exact ⟨b, off, rfl, fun j hj => by have := hcell j hj; rwa [Addr.add_lit] at this⟩
end
/-- All pieces. -/
def alls (ls : List (Value × List (Int × ByteArray))) : List (Int × ByteArray) := ls.flatMap (·.2)
theorem alls_append (a b : List (Value × List (Int × ByteArray))) : alls (a ++ b) = alls a ++ alls b := by simp [alls]
theorem alls_one (x : Value × List (Int × ByteArray)) : alls [x] = x.2 := by simp [alls]
theorem alls_take (ls : List (Value × List (Int × ByteArray))) (k : Nat) : (alls (ls.take k)).length ≤ (alls ls).length := by
  have := alls_append (ls.take k) (ls.drop k)
  rw [List.take_append_drop] at this
  rw [this, List.length_append]; omega

end Go.Proofs.YtbloiilinofklaaGreat

/- Contracts of Stored, Cut and Write, the program's, for all lists. -/
namespace Go.Proofs.YtbloiilinofklaaGreat
open Go.ChangeShapes Go.WideShapes Go.ChangeAt Go.RowKit
set_option linter.unusedVariables false
set_option linter.unusedSimpArgs false

/-- What Stored answers. -/
def stV (l : List (Int × ByteArray)) : Int := if EM.ok 0 l = true then (EM.cnt l : Int) else 0
def stE (l : List (Int × ByteArray)) : Int := if EM.ok 0 l = true then 0 else 2

set_option maxRecDepth 100000 in
set_option maxHeartbeats 1000000 in
theorem Stored_any (ao : Option Addr) (n cap : Nat) (l : List (Int × ByteArray)) (w : World) (h : XS w ao n cap l) (hf : XFit l) :
    Calls Tryz.prog 108 #[.slice ao n cap] w fun e w' => e = .returned (.tuple #[.int .i64 (stV l), .int .i64 (stE l)]) ∧ Below w.heap.size w w' := by
  have hval := xvalid_any ao n cap l w h hf
  have H := W_hid h
  cases hv : EM.ok 0 l with
  | false =>
    have e1 : Hid (stV l = 0 ∧ stE l = 2) := by unfold stV stE; rw [hv]; exact ⟨rfl, rfl⟩
    rw [hv] at hval
    have hval := W_hid hval
    clear hv h
    go_enter Tryz.func108, Tryz.ntmps108
    go_wp2_with fail
    refine hval.out.mono ?_
    rintro e w1 ⟨rfl, bel1⟩
    go_wp2_with fail
    go_ret2
    exact ⟨by rw [e1.out.1, e1.out.2]; rfl, bel1⟩
  | true =>
    have e1 : Hid (stV l = EM.cnt l ∧ stE l = 0) := by unfold stV stE; rw [hv]; exact ⟨rfl, rfl⟩
    have hc := W_hid (fun w h => count_any ao n cap l w h (by have := (ok_nums hv).2; omega))
    rw [hv] at hval
    have hval := W_hid hval
    clear hv h
    go_enter Tryz.func108, Tryz.ntmps108
    go_wp2_with fail
    refine hval.out.mono ?_
    rintro e w1 ⟨rfl, bel1⟩
    go_wp2_with fail
    refine (hc.out _ (H.out.below bel1 (Nat.le_refl _))).mono ?_
    rintro e w2 ⟨rfl, bel2⟩
    go_wp2_with fail
    go_ret2
    exact ⟨by rw [e1.out.1, e1.out.2]; rfl, bel1.trans (bel2.mono bel1.size)⟩

/-- What a call answers that answers a list and a number of an error. -/
def Gave (L : List (Int × ByteArray)) (E : Int) (w : World) (e : Ending) (w' : World) : Prop := ∃ v, e = .returned (.tuple #[v, .int .i64 E]) ∧
      w'.ownsRow w.heap.size 190 2 v L.length (ecl L) ∧ Below w.heap.size w w'
theorem gave_no {L : List (Int × ByteArray)} {E : Int} {w w' : World} {k : Int} (h : L = [] ∧ E = k) (hb : Below w.heap.size w w') : Gave L E w (.returned (.tuple #[.slice none 0 0, .int .i64 k])) w' := by
  obtain ⟨rfl, rfl⟩ := h
  exact ⟨_, rfl, World.ownsRow_nil _ _ _ _, hb⟩

/-- One list as a list of lists. -/
theorem LS_one {w : World} {v : Value} {ao : Option Addr} {n c : Nat} {l : List (Int × ByteArray)} {t : TypeId} (hv : v = .slice ao n c) (h : XS w ao n c l) : LS (w.alloc (.cells #[v] t)) (some ⟨w.heap.size, 0, none⟩) 1 1 [(v, l)] := by
  refine ⟨rfl, by decide, by unfold maxLen; omega, (fun h => by cases h), fun a ha j u hu => ?_, fun p hp => ?_⟩
  · obtain rfl := Option.some.inj ha
    have hj : j < 1 := (List.getElem?_eq_some_iff.1 hu).1
    obtain rfl : j = 0 := by omega
    obtain rfl : (v, l) = u := by simpa using hu
    exact cell_one_new w v t 0 v rfl
  · obtain rfl := List.mem_singleton.1 hp
    exact ⟨ao, n, c, hv, h.alloc _⟩

/-- What Cut answers. -/
def ctL (l : List (Int × ByteArray)) (s : Int) : List (Int × ByteArray) := if EM.ok 0 l = true ∧ 0 ≤ s then EM.part 0 s l else []
def ctE (l : List (Int × ByteArray)) (s : Int) : Int := if EM.ok 0 l = true ∧ 0 ≤ s then 0 else 2

end Go.Proofs.YtbloiilinofklaaGreat

/- Contract of Write, the program's, for all lists, places, bytes. -/
namespace Go.Proofs.YtbloiilinofklaaGreat
open Go.ChangeShapes Go.WideShapes Go.ChangeAt Go.RowKit
set_option linter.unusedVariables false
set_option linter.unusedSimpArgs false

/-- What Write answers. -/
def wrE (l : List (Int × ByteArray)) (f : Int) (d : ByteArray) : Int := if EM.ok 0 l = true ∧ 0 ≤ f then (if f + d.size ≤ 1048576 then 0 else 28) else 2
def wrL (l : List (Int × ByteArray)) (f : Int) (d : ByteArray) : List (Int × ByteArray) := if wrE l f d = 0 then EM.wr l f d else []
theorem wr_no {l : List (Int × ByteArray)} {f : Int} {d : ByteArray} {k : Int} (h : wrE l f d = k) (hk : k ≠ 0) : wrL l f d = [] ∧ wrE l f d = k := by
  unfold wrL; rw [h, if_neg hk]; exact ⟨rfl, rfl⟩

theorem below_al {a w : World} (h : Below a.heap.size a w) (o : Obj) : Below a.heap.size a (w.alloc o) := h.alloc h.size o
theorem below_tr {a b c : World} (h : Below a.heap.size a b) (k : Below b.heap.size b c) : Below a.heap.size a c := h.trans (k.mono h.size)

/-- A value that reads as extents. -/
def XV (w : World) (v : Value) (l : List (Int × ByteArray)) : Prop := ∃ ao n c, v = .slice ao n c ∧ XS w ao n c l
theorem XV.alloc {w : World} {v : Value} {l : List (Int × ByteArray)} (h : XV w v l) (o : Obj) : XV (w.alloc o) v l := by
  obtain ⟨a, n, c, h1, h2⟩ := h
  exact ⟨a, n, c, h1, h2.alloc o⟩
theorem XV.below {w w' : World} {v : Value} {l : List (Int × ByteArray)} (h : XV w v l) (hb : Below w.heap.size w w') : XV w' v l := by
  obtain ⟨a, n, c, h1, h2⟩ := h
  exact ⟨a, n, c, h1, h2.below hb (Nat.le_refl _)⟩
theorem XV.drew {w : World} {v : Value} {l : List (Int × ByteArray)} (h : XV w v l) : XV w.drew v l := h
theorem XV_own {w : World} {base n : Nat} {v : Value} {l : List (Int × ByteArray)} (h : w.ownsRow base 190 2 v n (ecl l)) : XV w v l := by
  obtain ⟨a, c, rfl⟩ := Own.form h
  exact ⟨a, n, c, rfl, XS_own h⟩
/-- One extent that was built last. -/
theorem XV_new {w : World} {g : Nat} {f : Int} {d : ByteArray} {t : TypeId} (hg : g = w.heap.size) : XV (w.alloc (.cells #[.int .i64 f, .string d] t)) (.slice (some ⟨g, 0, none⟩) 1 1) [(f, d)] := by
  subst hg
  refine ⟨_, _, _, rfl, rfl, Nat.le_refl _, by unfold maxLen; omega, (fun h => by cases h), fun a ha j u hu => ?_⟩
  obtain rfl := Option.some.inj ha
  exact Own.cells_two _ _ _ _ _ j u hu
/-- Three lists as a list of lists. -/
theorem LS_three {w : World} {g : Nat} {v1 v2 v3 : Value} {l1 l2 l3 : List (Int × ByteArray)} {t : TypeId} (hg : g = w.heap.size) (h1 : XV w v1 l1) (h2 : XV w v2 l2) (h3 : XV w v3 l3) :
    LS (w.alloc (.cells #[v1, v2, v3] t)) (some ⟨g, 0, none⟩) 3 3 [(v1, l1), (v2, l2), (v3, l3)] := by
  subst hg
  refine ⟨rfl, by decide, by unfold maxLen; omega, (fun h => by cases h), fun a ha j u hu => ?_, fun p hp => ?_⟩
  · obtain rfl := Option.some.inj ha
    rw [Addr.add_lit, cell_of_row _ _ _ _ _ _ (heap_alloc_new w (.cells #[v1, v2, v3] t))]
    match j, hu with
    | 0, hu => obtain rfl : (v1, l1) = u := by simpa using hu
               simp
    | 1, hu => obtain rfl : (v2, l2) = u := by simpa using hu
               simp
    | 2, hu => obtain rfl : (v3, l3) = u := by simpa using hu
               simp
  · simp only [List.mem_cons, List.not_mem_nil, or_false] at hp
    rcases hp with rfl | rfl | rfl
    · exact h1.alloc _
    · exact h2.alloc _
    · exact h3.alloc _

end Go.Proofs.YtbloiilinofklaaGreat

/- The store of inodes in memory: what a call may touch, by the types of blocks; extents, inodes, the store. -/
namespace Go.Proofs.YtbloiilinofklaaGreat
open Go.ChangeShapes Go.WideShapes Go.ChangeAt Go.RowKit Go.Maps
set_option linter.unusedVariables false
set_option linter.unusedSimpArgs false
namespace IN

/-- What an inode is. -/
structure Nd where
  kind : Int
  links : Int
  opens : Int
  size : Int
  l : List (Int × ByteArray)
def upd (S : Int → Option Nd) (n : Int) (x : Option Nd) : Int → Option Nd := fun m => if m = n then x else S m
theorem upd_at (S : Int → Option Nd) (n : Int) (x : Option Nd) : upd S n x n = x := if_pos rfl
theorem upd_ne {S : Int → Option Nd} {n m : Int} {x : Option Nd} (h : m ≠ n) : upd S n x m = S m := if_neg h
theorem upd_upd (S : Int → Option Nd) (n : Int) (x y : Option Nd) : upd (upd S n x) n y = upd S n y := by
  funext m; unfold upd; split <;> rfl

/-- All blocks below B, and all that are not of the kinds T, are as they were. -/
structure Keeps (B : Nat) (T : Nat → Obj → Prop) (w w' : World) : Prop where
  os : w'.os = w.os
  tape : w'.tape = w.tape
  output : w'.output = w.output
  size : w.heap.size ≤ w'.heap.size
  low : ∀ (k : Nat), k < B → w'.heap[k]? = w.heap[k]?
  block : ∀ (k : Nat) (o : Obj), w.heap[k]? = some o → ¬ T k o → w'.heap[k]? = some o
section
variable {w w' w2 : World} {B : Nat} {T : Nat → Obj → Prop}
theorem Keeps.refl (B : Nat) (T : Nat → Obj → Prop) (w : World) : Keeps B T w w := ⟨rfl, rfl, rfl, Nat.le_refl _, fun _ _ => rfl, fun _ _ h _ => h⟩
theorem Keeps.trans (h : Keeps B T w w') (k : Keeps B T w' w2) : Keeps B T w w2 :=
  ⟨k.os.trans h.os, k.tape.trans h.tape, k.output.trans h.output, Nat.le_trans h.size k.size, fun i hi => (k.low i hi).trans (h.low i hi), fun i o ho hT => k.block i o (h.block i o ho hT) hT⟩
theorem lt_of_some {w : World} {k : Nat} {o : Obj} (h : w.heap[k]? = some o) : k < w.heap.size := by
  rcases Nat.lt_or_ge k w.heap.size with hlt | hge
  · exact hlt
  · rw [Array.getElem?_eq_none hge] at h; cases h
theorem Keeps.of {C : Nat} (h : Below C w w') (hB : B ≤ C) (hC : w.heap.size ≤ C) : Keeps B T w w' :=
  ⟨h.os, h.tape, h.output, h.size, fun k hk => h.block k (by omega), fun k o ho _ => (h.block k (Nat.lt_of_lt_of_le (lt_of_some ho) hC)).trans ho⟩
theorem Keeps.new (h : Below w.heap.size w w') (hB : B ≤ w.heap.size) : Keeps B T w w' := Keeps.of h hB (Nat.le_refl _)
theorem Keeps.drew (h : Keeps B T w w') (n : Nat) : Keeps B T w (w'.drewN n) := ⟨h.os, h.tape, h.output, h.size, h.low, h.block⟩
theorem Keeps.drew1 (h : Keeps B T w w') : Keeps B T w w'.drew := ⟨h.os, h.tape, h.output, h.size, h.low, h.block⟩
theorem Keeps.undrew (h : Keeps B T w.drew w') : Keeps B T w w' := ⟨h.os, h.tape, h.output, h.size, h.low, h.block⟩
theorem Keeps.alloc (h : Keeps B T w w') (hB : B ≤ w.heap.size) (o : Obj) : Keeps B T w (w'.alloc o) :=
  h.trans (Keeps.new ((Below.refl _ _).alloc (Nat.le_refl _) o) (Nat.le_trans hB h.size))
theorem Keeps.setCell (h : Keeps B T w w') {p : Addr} {o : Obj} (ho : w'.heap[p.block]? = some o) (hT : T p.block o) (hB : B ≤ p.block) (u : Value) : Keeps B T w (w'.setCell p u) :=
  h.trans ⟨rfl, rfl, rfl, by simp [World.setCell], fun k hk => Below.heap_setCell _ _ _ _ (by omega), fun k o' ho' hT' => by
    rw [Below.heap_setCell _ _ _ _ (fun e => hT' (by subst e; rw [ho] at ho'; cases ho'; exact hT))]
    exact ho'⟩
theorem Keeps.grown (h : Keeps B T w w') {b : Nat} {o : Obj} (ho : w'.heap[b]? = some o) (hT : T b o) (hB : B ≤ b) (hg : w'.grownBy w2 (some b)) : Keeps B T w w2 :=
  h.trans ⟨hg.os, hg.tape, hg.output, hg.size, fun k hk => hg.block k (Nat.lt_trans hk (by have := lt_of_some ho; omega)) (by intro e; cases e; omega), fun k o' ho' hT' => by
    rw [hg.block k (lt_of_some ho') (by intro e; cases e; rw [ho] at ho'; cases ho'; exact hT' hT)]
    exact ho'⟩
theorem Keeps.below (h : Keeps B T w w') {C : Nat} (hC : C ≤ B) : Below C w w' := ⟨h.os, h.tape, h.output, h.size, fun k hk => h.low k (by omega)⟩
theorem Keeps.mono (h : Keeps B T w w') {C : Nat} (hC : C ≤ B) : Keeps C T w w' := ⟨h.os, h.tape, h.output, h.size, fun k hk => h.low k (by omega), h.block⟩
end

/-- What the program's calls write into: stores, inodes, maps. -/
def PT (mb : Nat) (k : Nat) (o : Obj) : Prop := (∃ c s, o = .cells c 84 s) ∨ (∃ c s, o = .cells c 128 s) ∨ (k = mb ∧ ∃ es c, o = .map es c)

/-- A slice value that reads as extents, in a block of extents. -/
def XE (w : World) (v : Value) (l : List (Int × ByteArray)) : Prop := ∃ ao n c, v = .slice ao n c ∧ XS w ao n c l ∧ ∀ a, ao = some a → ∃ cur, w.heap[a.block]? = some (.cells cur 190 (0, 0))
section
variable {w w' : World} {v : Value} {l : List (Int × ByteArray)}
theorem XE.move (h : XE w v l) (hk : ∀ (b : Nat) cur, w.heap[b]? = some (.cells cur 190 (0, 0)) → w'.heap[b]? = w.heap[b]?) : XE w' v l := by
  obtain ⟨ao, n, c, rfl, hx, ht⟩ := h
  refine ⟨ao, n, c, rfl, ⟨hx.1, hx.2.1, hx.2.2.1, hx.2.2.2.1, fun a ha j u hu => ?_⟩, fun a ha => ?_⟩
  · have hc := hx.2.2.2.2 a ha j u hu
    obtain ⟨cur, hb⟩ := ht a ha
    have ea : (a.add j).block = a.block := by
      unfold Addr.add
      split <;> rfl
    rw [World.cell?_of_block (w := w) (w' := w') (a := a.add j) (by rw [ea]; exact hk _ cur hb)]
    exact hc
  · obtain ⟨cur, hb⟩ := ht a ha
    exact ⟨cur, (hk _ cur hb).trans hb⟩
theorem XE.keeps (h : XE w v l) {B : Nat} {T : Nat → Obj → Prop} (hK : Keeps B T w w') (hT : ∀ k c, ¬ T k (.cells c 190 (0, 0))) : XE w' v l :=
  h.move fun b cur hb => (hK.block b _ hb (hT b cur)).trans hb.symm
theorem XE.keep (h : XE w v l) (hb : Below w.heap.size w w') : XE w' v l := h.move fun b cur hc => hb.block b (lt_of_some hc)
theorem XE.alloc (h : XE w v l) (o : Obj) : XE (w.alloc o) v l := h.keep ((Below.refl _ _).alloc (Nat.le_refl _) o)
theorem XE.drew (h : XE w v l) (n : Nat) : XE (w.drewN n) v l := h
theorem XE.nil (w : World) : XE w (.slice none 0 0) [] := ⟨none, 0, 0, rfl, XS.nil w, fun _ h => by cases h⟩
theorem XE.own {base : Nat} (h : w.ownsRow base 190 2 v l.length (ecl l)) : XE w v l := by
  obtain ⟨ao, c, rfl⟩ := Own.form h
  refine ⟨ao, _, c, rfl, XS_own h, fun a ha => ?_⟩
  subst ha
  rcases h.2 with ⟨h', _⟩ | ⟨g, cap, cur, h', _, hg, _⟩
  · simp at h'
  · simp only [Value.slice.injEq, Option.some.injEq] at h'
    obtain ⟨rfl, -, rfl⟩ := h'
    exact ⟨cur, hg⟩
end

/-- An inode's cells. -/
def ncl (d : Nd) (v : Value) : List Value := [.int .i64 d.kind, .int .i64 d.links, .int .i64 d.opens, .int .i64 d.size, v]
/-- Block g holds inode d. -/
def NB (w : World) (g : Nat) (d : Nd) (v : Value) : Prop := Blk w g 128 (ncl d v) ∧ XE w v d.l

theorem blk_ne {w : World} {g b : Nat} {e f : TypeId} {l m : List Value} (h : Blk w g e l) (k : Blk w b f m) (hef : e ≠ f) : g ≠ b := by
  intro e'
  subst e'
  unfold Blk at h k
  rw [h] at k
  simp only [Option.some.injEq, Obj.cells.injEq] at k
  exact hef k.2.1
theorem map_obj {w : World} {b : Nat} {M : Int → Option Nat} (h : IS.MB w b M) : ∃ es c, w.heap[b]? = some (.map es c) := by
  obtain ⟨D, ⟨es, clock, hb, _⟩, _⟩ := h.ex
  exact ⟨es, clock, hb⟩
theorem blk_map {w : World} {g b : Nat} {e : TypeId} {l : List Value} {M : Int → Option Nat} (h : Blk w g e l) (k : IS.MB w b M) : g ≠ b := by
  intro e'
  subst e'
  obtain ⟨es, c, hm⟩ := map_obj k
  unfold Blk at h
  rw [h] at hm
  cases hm

/-- The store in memory. -/
structure PM (base : Nat) (w : World) (sg mb : Nat) (M : Int → Option Nat) (I L left : Int) (S : Int → Option Nd) : Prop where
  box : Blk w sg 84 [.map (some mb), .int .i64 I, .int .i64 L, .int .i64 left]
  mp : IS.MB w mb M
  dom : ∀ n, M n = none ↔ S n = none
  node : ∀ n g d, M n = some g → S n = some d → ∃ v, NB w g d v
  inj : ∀ n m g, M n = some g → M m = some g → n = m
  ge : base ≤ sg ∧ base ≤ mb ∧ ∀ n g, M n = some g → base ≤ g
section
variable {base : Nat} {w w' : World} {sg mb : Nat} {M : Int → Option Nat} {I L left : Int} {S : Int → Option Nd}
theorem PM.moved (h : PM base w sg mb M I L left S) (h1 : w'.heap[sg]? = w.heap[sg]?) (h2 : w'.heap[mb]? = w.heap[mb]?) (h3 : ∀ n g, M n = some g → w'.heap[g]? = w.heap[g]?) (h4 : ∀ (b : Nat) (cur : Array Value), w.heap[b]? = some (.cells cur 190 (0, 0)) → w'.heap[b]? = w.heap[b]?) : PM base w' sg mb M I L left S :=
  ⟨h1.trans h.box, h.mp.heap h2, h.dom, fun n g d hM hS => by
    obtain ⟨v, hb, hx⟩ := h.node n g d hM hS
    exact ⟨v, (h3 n g hM).trans hb, hx.move h4⟩, h.inj, h.ge⟩
theorem PM.glt (h : PM base w sg mb M I L left S) {n : Int} {g : Nat} (hM : M n = some g) : g < w.heap.size := by
  cases hS : S n with
  | none => rw [(h.dom n).2 hS] at hM; cases hM
  | some d => obtain ⟨v, hb, _⟩ := h.node n g d hM hS; exact hb.lt
theorem PM.keep (h : PM base w sg mb M I L left S) (hb : Below w.heap.size w w') : PM base w' sg mb M I L left S :=
  h.moved (hb.block _ h.box.lt) (hb.block _ h.mp.lt) (fun n g hM => hb.block _ (h.glt hM)) (fun b cur hc => hb.block _ (lt_of_some hc))
theorem PM.drew (h : PM base w sg mb M I L left S) (n : Nat) : PM base (w.drewN n) sg mb M I L left S := h.moved rfl rfl (fun _ _ _ => rfl) (fun _ _ _ => rfl)
theorem PM.drew1 (h : PM base w sg mb M I L left S) : PM base w.drew sg mb M I L left S := h.moved rfl rfl (fun _ _ _ => rfl) (fun _ _ _ => rfl)
theorem PM.alloc (h : PM base w sg mb M I L left S) (o : Obj) : PM base (w.alloc o) sg mb M I L left S := h.keep ((Below.refl _ _).alloc (Nat.le_refl _) o)
/-- Other calls' work. -/
theorem PM.keeps (h : PM base w sg mb M I L left S) {B : Nat} {T : Nat → Obj → Prop} (hK : Keeps B T w w') (h1 : ∀ k c s, ¬ T k (.cells c 84 s)) (h2 : ∀ k c s, ¬ T k (.cells c 128 s)) (h3 : ∀ es c, ¬ T mb (.map es c)) (h4 : ∀ k c, ¬ T k (.cells c 190 (0, 0))) : PM base w' sg mb M I L left S := by
  obtain ⟨es, c, hm⟩ := map_obj h.mp
  refine h.moved ((hK.block _ _ h.box (h1 _ _ _)).trans (Eq.symm h.box)) ((hK.block _ _ hm (h3 _ _)).trans hm.symm) (fun n g hM => ?_) (fun b cur hb => (hK.block b _ hb (h4 b cur)).trans hb.symm)
  cases hS : S n with
  | none => rw [(h.dom n).2 hS] at hM; cases hM
  | some d =>
    obtain ⟨v, hb, _⟩ := h.node n g d hM hS
    exact (hK.block _ _ hb (h2 _ _ _)).trans (Eq.symm hb)
theorem PM.has (h : PM base w sg mb M I L left S) {n : Int} {d : Nd} (hS : S n = some d) : ∃ g v, M n = some g ∧ NB w g d v ∧ base ≤ g ∧ g ≠ sg ∧ g ≠ mb := by
  cases hM : M n with
  | none => rw [(h.dom n).1 hM] at hS; cases hS
  | some g =>
    obtain ⟨v, hN⟩ := h.node n g d hM hS
    exact ⟨g, v, rfl, hN, h.ge.2.2 n g hM, blk_ne hN.1 h.box (by decide), blk_map hN.1 h.mp⟩

/-- A store into an inode. -/
theorem PM.setNode (h : PM base w sg mb M I L left S) {n : Int} {g : Nat} {d d' : Nd} {v v' : Value} (hM : M n = some g) (hS : S n = some d) (hb : Blk w g 128 (ncl d v)) (hx : XE w v' d'.l) (j : Nat) (u : Value) (he : (ncl d v).set j u = ncl d' v') :
    PM base (w.setCell ⟨g, j, none⟩ u) sg mb M I L left (upd S n (some d')) ∧ NB (w.setCell ⟨g, j, none⟩ u) g d' v' ∧ Keeps base (PT mb) w (w.setCell ⟨g, j, none⟩ u) := by
  have hgs : sg ≠ g := (blk_ne hb h.box (by decide)).symm
  have hgm : mb ≠ g := (blk_map hb h.mp).symm
  have hext : ∀ (b : Nat) (cur : Array Value), w.heap[b]? = some (.cells cur 190 (0, 0)) → (w.setCell ⟨g, j, none⟩ u).heap[b]? = w.heap[b]? := fun b cur hc => Below.heap_setCell _ _ _ _ (fun e => by
    have e' : b = g := e
    subst e'
    unfold Blk at hb
    rw [hb] at hc
    simp only [Option.some.injEq, Obj.cells.injEq] at hc
    exact absurd hc.2.1 (by decide))
  have hnew : Blk (w.setCell ⟨g, j, none⟩ u) g 128 (ncl d' v') := by
    have := hb.set j u
    rw [he] at this
    exact this
  refine ⟨⟨h.box.far hgs u, h.mp.far hgm u, fun m => ?_, fun m g' d'' hM' hS' => ?_, h.inj, h.ge⟩, ⟨hnew, hx.move hext⟩, (Keeps.refl base (PT mb) w).setCell (p := ⟨g, j, none⟩) (o := .cells (ncl d v).toArray 128 (0, 0)) hb (.inr (.inl ⟨_, _, rfl⟩)) (h.ge.2.2 n g hM) u⟩
  · by_cases e : m = n
    · subst e; rw [upd_at, hM]; simp
    · rw [upd_ne e]; exact h.dom m
  · by_cases e : m = n
    · subst e
      rw [upd_at] at hS'
      cases hS'
      rw [hM] at hM'
      cases hM'
      exact ⟨v', hnew, hx.move hext⟩
    · rw [upd_ne e] at hS'
      obtain ⟨v'', hb', hx'⟩ := h.node m g' d'' hM' hS'
      exact ⟨v'', hb'.far (p := ⟨g, j, none⟩) (fun e' => e (h.inj m n g (by have e2 : g' = g := e'; rw [← e2]; exact hM') hM)) u, hx'.move hext⟩
/-- A store into the count of bytes that are left. -/
theorem PM.setLeft (h : PM base w sg mb M I L left S) (x : Int) : PM base (w.setCell ⟨sg, 3, none⟩ (.int .i64 x)) sg mb M I L x S ∧ Keeps base (PT mb) w (w.setCell ⟨sg, 3, none⟩ (.int .i64 x)) := by
  have hext : ∀ (b : Nat) (cur : Array Value), w.heap[b]? = some (.cells cur 190 (0, 0)) → (w.setCell ⟨sg, 3, none⟩ (.int .i64 x)).heap[b]? = w.heap[b]? := fun b cur hc => Below.heap_setCell _ _ _ _ (fun e => by
    have e' : b = sg := e
    subst e'
    have hb := h.box
    unfold Blk at hb
    rw [hb] at hc
    simp only [Option.some.injEq, Obj.cells.injEq] at hc
    exact absurd hc.2.1 (by decide))
  refine ⟨⟨h.box.set 3 _, h.mp.far (blk_map h.box h.mp).symm _, h.dom, fun n g d hM hS => ?_, h.inj, h.ge⟩, (Keeps.refl base (PT mb) w).setCell (p := ⟨sg, 3, none⟩) (o := .cells [Value.map (some mb), .int .i64 I, .int .i64 L, .int .i64 left].toArray 84 (0, 0)) h.box (.inl ⟨_, _, rfl⟩) h.ge.1 _⟩
  obtain ⟨v, hb, hx⟩ := h.node n g d hM hS
  exact ⟨v, hb.far (blk_ne hb h.box (by decide)) _, hx.move hext⟩
/-- The map turned. -/
theorem PM.turn (h : PM base w sg mb M I L left S) {M' : Int → Option Nat} (hm : IS.MB w' mb M') (hg : w.grownBy w' (some mb)) (S' : Int → Option Nd) (hd : ∀ n, M' n = none ↔ S' n = none)
    (hn : ∀ n g d, M' n = some g → S' n = some d → (M n = some g ∧ S n = some d) ∨ ∃ v, NB w g d v ∧ base ≤ g) (hi : ∀ n m g, M' n = some g → M' m = some g → n = m) : PM base w' sg mb M' I L left S' ∧ Keeps base (PT mb) w w' := by
  obtain ⟨es, c, hmo⟩ := map_obj h.mp
  have hext : ∀ (b : Nat) (cur : Array Value), w.heap[b]? = some (.cells cur 190 (0, 0)) → w'.heap[b]? = w.heap[b]? := fun b cur hc => hg.block b (lt_of_some hc) (fun e => by cases e; rw [hmo] at hc; cases hc)
  have hmv : ∀ {g : Nat} {d : Nd} {v : Value}, NB w g d v → NB w' g d v := fun {g d v} k => ⟨k.1.grown hg (fun e => blk_map k.1 h.mp (Option.some.inj e)), k.2.move hext⟩
  refine ⟨⟨h.box.grown hg (fun e => blk_map h.box h.mp (Option.some.inj e)), hm, hd, fun n g d hM hS => ?_, hi, h.ge.1, h.ge.2.1, fun n g hM => ?_⟩, (Keeps.refl _ _ _).grown hmo (.inr (.inr ⟨rfl, _, _, rfl⟩)) h.ge.2.1 hg⟩
  · rcases hn n g d hM hS with ⟨h1, h2⟩ | ⟨v, h1, _⟩
    · obtain ⟨v, hN⟩ := h.node n g d h1 h2
      exact ⟨v, hmv hN⟩
    · exact ⟨v, hmv h1⟩
  · cases hS : S' n with
    | none => rw [(hd n).2 hS] at hM; cases hM
    | some d =>
      rcases hn n g d hM hS with ⟨h1, h2⟩ | ⟨v, _, h1⟩
      · exact h.ge.2.2 n g h1
      · exact h1
end
end IN
end Go.Proofs.YtbloiilinofklaaGreat

/- The tree of directories in memory. -/
namespace Go.Proofs.YtbloiilinofklaaGreat
open Go.ChangeShapes Go.WideShapes Go.ChangeAt Go.RowKit Go.Maps
set_option linter.unusedVariables false
set_option linter.unusedSimpArgs false
namespace NT
open IN (Keeps)

/-- The block of a directory. -/
def pa (A : Int → Option (Nat × Nat)) (n : Int) : Option Nat := (A n).map (·.1)
/-- What a directory's names refer to. -/
def nm (A : Int → Option (Nat × Nat)) (l : List (ByteArray × Int)) : ByteArray → Option (Int × Option Nat) := fun k => (look k l).map fun j => (j, pa A j)
def dcl (A : Int → Option (Nat × Nat)) (d : Dr) (m : Nat) : List Value := [.int .i64 d.up, IS.ptr (pa A d.up), .map (some m)]
structure TM (base : Nat) (w : World) (tg sg mb : Nat) (A : Int → Option (Nat × Nat)) (D : Ds) : Prop where
  box : Blk w tg 118 [.pointer (some ⟨sg, 0, none⟩), .int .i64 1, IS.ptr (pa A 1)]
  dom : ∀ n, A n = none ↔ D n = none
  root : D 1 ≠ none
  dir : ∀ n g m d, A n = some (g, m) → D n = some d → Blk w g 126 (dcl A d m) ∧ NS.MB w m (nm A d.l)
  inj : ∀ n n' g m g' m', A n = some (g, m) → A n' = some (g', m') → n ≠ n' → g ≠ g' ∧ m ≠ m'
  ge : base ≤ tg ∧ ∀ n g m, A n = some (g, m) → base ≤ g ∧ base ≤ m ∧ m ≠ mb
/-- What a call of the tree's alone writes into: its directories, their maps. -/
def DT (A : Int → Option (Nat × Nat)) (k : Nat) (o : Obj) : Prop := (∃ n m, A n = some (k, m)) ∨ ∃ n g, A n = some (g, k)
section
variable {base : Nat} {w w' : World} {tg sg mb : Nat} {A : Int → Option (Nat × Nat)} {D : Ds}
theorem TM.low (h : TM base w tg sg mb A D) : base ≤ w.heap.size := Nat.le_trans h.ge.1 (Nat.le_of_lt h.box.lt)
theorem TM.has (h : TM base w tg sg mb A D) {n : Int} {d : Dr} (hD : D n = some d) : ∃ g m, A n = some (g, m) ∧ Blk w g 126 (dcl A d m) ∧ NS.MB w m (nm A d.l) := by
  cases hA : A n with
  | none => rw [(h.dom n).1 hA] at hD; cases hD
  | some x =>
    obtain ⟨g, m⟩ := x
    exact ⟨g, m, rfl, h.dir n g m d hA hD⟩
theorem TM.hasA (h : TM base w tg sg mb A D) {n : Int} {g m : Nat} (hA : A n = some (g, m)) : ∃ d, D n = some d ∧ Blk w g 126 (dcl A d m) ∧ NS.MB w m (nm A d.l) := by
  cases hD : D n with
  | none => rw [(h.dom n).2 hD] at hA; cases hA
  | some d => exact ⟨d, rfl, h.dir n g m d hA hD⟩
theorem TM.moved (h : TM base w tg sg mb A D) (h1 : w'.heap[tg]? = w.heap[tg]?) (h2 : ∀ n g m, A n = some (g, m) → w'.heap[g]? = w.heap[g]? ∧ w'.heap[m]? = w.heap[m]?) : TM base w' tg sg mb A D :=
  ⟨h1.trans h.box, h.dom, h.root, fun n g m d hA hD => by
    obtain ⟨p, q⟩ := h.dir n g m d hA hD
    obtain ⟨e1, e2⟩ := h2 n g m hA
    exact ⟨e1.trans p, q.heap e2⟩, h.inj, h.ge⟩
theorem TM.keep (h : TM base w tg sg mb A D) (hb : Below w.heap.size w w') : TM base w' tg sg mb A D :=
  h.moved (hb.block _ h.box.lt) fun n g m hA => by
    obtain ⟨d, _, p, q⟩ := h.hasA hA
    exact ⟨hb.block _ p.lt, hb.block _ q.lt⟩
theorem TM.drew (h : TM base w tg sg mb A D) (t : Nat) : TM base (w.drewN t) tg sg mb A D := h.moved rfl fun _ _ _ _ => ⟨rfl, rfl⟩
theorem TM.alloc (h : TM base w tg sg mb A D) (o : Obj) : TM base (w.alloc o) tg sg mb A D := h.keep ((Below.refl _ _).alloc (Nat.le_refl _) o)
/-- Other calls' work. -/
theorem TM.keeps (h : TM base w tg sg mb A D) {B : Nat} {T : Nat → Obj → Prop} (hK : Keeps B T w w') (h1 : ∀ k c s, ¬ T k (.cells c 118 s)) (h2 : ∀ k c s, ¬ T k (.cells c 126 s)) (h3 : ∀ n g m es c, A n = some (g, m) → ¬ T m (.map es c)) : TM base w' tg sg mb A D :=
  h.moved ((hK.block _ _ h.box (h1 _ _ _)).trans (Eq.symm h.box)) fun n g m hA => by
    obtain ⟨d, _, p, q⟩ := h.hasA hA
    obtain ⟨es, c, hm⟩ := q.obj
    exact ⟨(hK.block _ _ p (h2 _ _ _)).trans (Eq.symm p), (hK.block _ _ hm (h3 n g m es c hA)).trans hm.symm⟩
/-- The store's work leaves the tree. -/
theorem TM.store (h : TM base w tg sg mb A D) {B : Nat} (hK : Keeps B (IN.PT mb) w w') : TM base w' tg sg mb A D :=
  h.keeps hK (by simp [IN.PT]) (by simp [IN.PT]) (fun n g m es c hA => by
    have := (h.ge.2 n g m hA).2.2
    simp [IN.PT, this])
end
end NT
end Go.Proofs.YtbloiilinofklaaGreat

namespace Go.Proofs.YtbloiilinofklaaGreat
open Go.ChangeShapes Go.WideShapes Go.ChangeAt Go.RowKit
set_option linter.unusedVariables false
set_option linter.unusedSimpArgs false


theorem byte_get (s : ByteArray) (k : Nat) (h : k < s.size) : s.data.toList.drop k = s[k] :: s.data.toList.drop (k + 1) := by
  rw [List.drop_eq_getElem_cons (by simpa using h)]; rfl

theorem any_take_snoc (s : ByteArray) (f : UInt8 → Bool) (k : Nat) (h : k < s.size) : (s.data.toList.take (k + 1)).any f = ((s.data.toList.take k).any f || f s[k]) := by
  rw [List.take_succ_eq_append_getElem (by simpa using h), List.any_append]; simp; rfl

/-- Of a string of bytes: is one of them v? -/
theorem has_of {s : ByteArray} {k v : Nat} (h : k < s.size) (e : (s[k].toNat : Int) = v) : PM.has s v = true := by
  unfold PM.has
  rw [List.any_eq_true]
  exact ⟨s[k], by simp [ByteArray.getElem_eq_getElem_data], by simpa using (by omega : s[k].toNat = v)⟩
theorem has_none {s : ByteArray} {v : Nat} (h : (s.data.toList.take s.size).any (fun c => c.toNat == v) = false) : PM.has s v = false := by
  unfold PM.has
  rw [List.take_of_length_le (by simp [PM.list_size])] at h
  exact h

set_option maxRecDepth 100000 in
set_option maxHeartbeats 400000 in
theorem contains_any (s : ByteArray) (v : Nat) (x : Int) (hx : x = v) (w : World) (hs : s.size ≤ maxLen) :
    Calls Tryz.prog 89 #[.string s, .int .u8 x] w fun e w' => e = .returned (.bool (PM.has s v)) ∧ w = w' := by
  unfold maxLen at hs
  have HX : Hid _ := hx
  clear hx
  go_enter Tryz.func89, Tryz.ntmps89
  go_wp2
  go_loop [8] (fun i => ∃ k : Nat, k ≤ s.size ∧ i = .int .i64 k ∧ Hid ((s.data.toList.take k).any (fun c => c.toNat == v) = false)) (fun i => s.size - (intOf i).toNat)
  case atStart => exact ⟨0, Nat.zero_le _, rfl, rfl⟩
  case round =>
    obtain ⟨k, hk, rfl, hno⟩ := hrel
    by_cases hlt : k < s.size
    · by_cases he : (s[k].toNat : Int) = x
      · have hh : Hid (PM.has s v = true) := has_of hlt (he.trans HX.out)
        have hb : ((s[k].toNat : Int) == x) = true := by simpa using he
        clear he
        go_wp2
        go_ret
        exact ⟨by rw [hh.out]; rfl, rfl⟩
      · have hb : ((s[k].toNat : Int) == x) = false := by simpa using he
        have hn : Hid ((s.data.toList.take (k + 1)).any (fun c => c.toNat == v) = false) := by
          have h0 := hno.out
          show _ = false
          rw [any_take_snoc _ _ _ hlt, h0]
          have := HX.out
          simp only [Bool.false_or, beq_eq_false_iff_ne, ne_eq]
          omega
        clear he
        go_wp2
        go_round
        case rel => exact ⟨k + 1, by omega, by go_num, hn⟩
        case measure => simp [intOf]; omega
    · obtain rfl : k = s.size := by omega
      have hh : Hid (PM.has s v = false) := has_none hno.out
      go_wp2
      go_ret
      exact ⟨by rw [hh.out]; rfl, rfl⟩

theorem comp_false {s : ByteArray} (h : ¬ (1 ≤ s.size ∧ s.size ≤ 32) ∨ PM.has s 47 = true ∨ PM.has s 0 = true) : PM.comp s = false := by
  unfold PM.comp
  rcases h with h | h | h
  · rcases Nat.lt_or_ge s.size 1 with h1 | h1
    · simp [show ¬ 1 ≤ s.size by omega]
    · simp [show ¬ s.size ≤ 32 by omega]
  · rw [h]; simp
  · rw [h]; simp
theorem comp_true {s : ByteArray} (h1 : 1 ≤ s.size) (h2 : s.size ≤ 32) (h3 : PM.has s 47 = false) (h4 : PM.has s 0 = false) : PM.comp s = true := by
  unfold PM.comp; rw [h3, h4]; simp [h1, h2]

theorem empty_facts {s : ByteArray} (h : s.size = 0) : s.toList = [] ∧ s.toList.isEmpty = true := by
  have : s.data.toList = [] := List.eq_nil_of_length_eq_zero (by rw [PM.list_size]; exact h)
  rw [ByteArray.toList_eq, this]; exact ⟨rfl, rfl⟩
theorem full_facts {s : ByteArray} (h : s.size ≠ 0) : (s.toList = []) = False ∧ s.toList.isEmpty = false := by
  have hl := PM.list_size s
  rw [ByteArray.toList_eq]
  cases he : s.data.toList with
  | nil => rw [he] at hl; exact absurd hl.symm h
  | cons c r => exact ⟨by simp, rfl⟩

set_option maxRecDepth 100000 in
set_option maxHeartbeats 400000 in
theorem component_any (s : ByteArray) (w : World) (hs : s.size ≤ maxLen) :
    Calls Tryz.prog 102 #[.string s] w fun e w' => e = .returned (.bool (PM.comp s)) ∧ w = w' := by
  by_cases h1 : s.size = 0
  · have hh : Hid (PM.comp s = false) := comp_false (by omega)
    obtain ⟨e1, e2⟩ := empty_facts h1
    clear h1
    go_enter Tryz.func102, Tryz.ntmps102
    go_wp2_with fail
    go_ret
    exact ⟨by rw [hh.out]; rfl, rfl⟩
  obtain ⟨e1, e2⟩ := full_facts h1
  by_cases h2 : s.size ≤ 32
  · cases h3 : PM.has s 47 with
    | true =>
      have hh : Hid (PM.comp s = false) := comp_false (.inr (.inl h3))
      have H47 : Hid (Calls Tryz.prog 89 #[.string s, .int .u8 47] w fun e w' => e = .returned (.bool true) ∧ w = w') := by
        have := contains_any s 47 47 rfl w hs
        rwa [h3] at this
      clear h3
      go_enter Tryz.func102, Tryz.ntmps102
      go_wp2_with (go_at_call 89; refine H47.out.mono ?_; rintro e w' ⟨rfl, rfl⟩)
      go_ret
      exact ⟨by rw [hh.out]; rfl, rfl⟩
    | false =>
      have H47 : Hid (Calls Tryz.prog 89 #[.string s, .int .u8 47] w fun e w' => e = .returned (.bool false) ∧ w = w') := by
        have := contains_any s 47 47 rfl w hs
        rwa [h3] at this
      have hh : Hid (PM.comp s = !PM.has s 0) := by
        cases h4 : PM.has s 0 with
        | true => exact comp_false (.inr (.inr h4))
        | false => exact comp_true (by omega) h2 h3 h4
      have H0 : Hid (Calls Tryz.prog 89 #[.string s, .int .u8 0] w fun e w' => e = .returned (.bool (PM.has s 0)) ∧ w = w') := contains_any s 0 0 rfl w hs
      clear h3
      go_enter Tryz.func102, Tryz.ntmps102
      go_wp2_with fail
      refine H47.out.mono ?_
      rintro e w' ⟨rfl, rfl⟩
      go_wp2_with fail
      refine H0.out.mono ?_
      rintro e w' ⟨rfl, rfl⟩
      go_wp2
      go_ret
      exact ⟨by rw [hh.out]; rfl, rfl⟩
  · have hh : Hid (PM.comp s = false) := comp_false (by omega)
    have h2' : 32 < s.size := by omega
    unfold maxLen at hs
    go_enter Tryz.func102, Tryz.ntmps102
    go_wp2_with fail
    go_ret
    exact ⟨by rw [hh.out]; rfl, rfl⟩

theorem bits2 (s : ByteArray) (k : Nat) (h : k < s.size) (p : Prop) : (s.data.toList.take (k + 1)).any (fun c => c.toNat == 47 || c.toNat == 0) = ((s.data.toList.take k).any (fun c => c.toNat == 47 || c.toNat == 0) || (s[k].toNat == 47 || s[k].toNat == 0)) :=
  any_take_snoc s _ k h
theorem has_two {s : ByteArray} (h : (s.data.toList.take s.size).any (fun c => c.toNat == 47 || c.toNat == 0) = false) : PM.has s 47 = false ∧ PM.has s 0 = false := by
  rw [List.take_of_length_le (by simp [PM.list_size])] at h
  unfold PM.has
  simp only [List.any_eq_false, Bool.or_eq_true, beq_iff_eq, not_or] at h ⊢
  exact ⟨fun c hc => (h c hc).1, fun c hc => (h c hc).2⟩

theorem list_inj {s t : ByteArray} (h : s.toList = t.toList) : s = t := by
  rw [ByteArray.toList_eq, ByteArray.toList_eq] at h
  rw [← PM.str_of s, ← PM.str_of t, h]
theorem dot_list : PM.dot.toList = [46] := by rw [ByteArray.toList_eq]; rfl
theorem dots_list : PM.dots.toList = [46, 46] := by rw [ByteArray.toList_eq]; rfl
theorem dot_yes {s : ByteArray} (h : s = PM.dot) : s.toList = [46] := by rw [h, dot_list]
theorem dots_yes {s : ByteArray} (h : s = PM.dots) : s.toList = [46, 46] := by rw [h, dots_list]
theorem dot_no {s : ByteArray} (h : s ≠ PM.dot) : (s.toList = [46]) = False ∧ (s.toList == [46]) = false := by
  have : s.toList ≠ [46] := fun e => h (list_inj (e.trans dot_list.symm))
  exact ⟨by simpa using this, by simpa using this⟩
theorem dots_no {s : ByteArray} (h : s ≠ PM.dots) : (s.toList = [46, 46]) = False ∧ (s.toList == [46, 46]) = false := by
  have : s.toList ≠ [46, 46] := fun e => h (list_inj (e.trans dots_list.symm))
  exact ⟨by simpa using this, by simpa using this⟩
theorem name_no {s : ByteArray} (h : PM.comp s = false ∨ s = PM.dot ∨ s = PM.dots) : PM.name s = false := by
  unfold PM.name
  rcases h with h | h | h <;> simp [h]
theorem name_yes {s : ByteArray} (h : PM.comp s = true) (h1 : s ≠ PM.dot) (h2 : s ≠ PM.dots) : PM.name s = true := by
  unfold PM.name; simp [h, h1, h2]

set_option maxRecDepth 100000 in
set_option maxHeartbeats 400000 in
theorem IsName_any (s : ByteArray) (w : World) (hs : s.size ≤ maxLen) :
    Calls Tryz.prog 66 #[.string s] w fun e w' => e = .returned (.bool (PM.name s)) ∧ w = w' := by
  cases h0 : PM.comp s with
  | true =>
    have H0 : Hid (Calls Tryz.prog 102 #[.string s] w fun e w' => e = .returned (.bool true) ∧ w = w') := by
      have := component_any s w hs
      rwa [h0] at this
    by_cases h1 : s = PM.dot
    · have hh : Hid (PM.name s = false) := name_no (.inr (.inl h1))
      have e1 := dot_yes h1
      clear h0 h1
      go_enter Tryz.func66, Tryz.ntmps66
      go_wp2_with fail
      refine H0.out.mono ?_
      rintro e w' ⟨rfl, rfl⟩
      go_wp2_with fail
      go_ret
      exact ⟨by rw [hh.out]; rfl, rfl⟩
    obtain ⟨e1, e2⟩ := dot_no h1
    by_cases h2 : s = PM.dots
    · have hh : Hid (PM.name s = false) := name_no (.inr (.inr h2))
      have e3 := dots_yes h2
      clear h0 h1 h2
      go_enter Tryz.func66, Tryz.ntmps66
      go_wp2_with fail
      refine H0.out.mono ?_
      rintro e w' ⟨rfl, rfl⟩
      go_wp2_with fail
      go_ret
      exact ⟨by rw [hh.out]; rfl, rfl⟩
    obtain ⟨e3, e4⟩ := dots_no h2
    have hh : Hid (PM.name s = true) := name_yes h0 h1 h2
    clear h0 h1 h2
    go_enter Tryz.func66, Tryz.ntmps66
    go_wp2_with fail
    refine H0.out.mono ?_
    rintro e w' ⟨rfl, rfl⟩
    go_wp2_with fail
    go_ret
    exact ⟨by rw [hh.out]; rfl, rfl⟩
  | false =>
    have H0 : Hid (Calls Tryz.prog 102 #[.string s] w fun e w' => e = .returned (.bool false) ∧ w = w') := by
      have := component_any s w hs
      rwa [h0] at this
    have hh : Hid (PM.name s = false) := name_no (.inl h0)
    clear h0
    go_enter Tryz.func66, Tryz.ntmps66
    go_wp2_with fail
    refine H0.out.mono ?_
    rintro e w' ⟨rfl, rfl⟩
    go_wp2_with fail
    go_ret
    exact ⟨by rw [hh.out]; rfl, rfl⟩

end Go.Proofs.YtbloiilinofklaaGreat

/- Paths as lists of byte strings: the parts of a text between slashes, a path's text, its normal form, and what holds of them; free of any program. -/
namespace Go.Proofs.Ytfageibidikppaa
set_option linter.unusedVariables false
set_option linter.unusedSimpArgs false
namespace PM

def str (l : List UInt8) : ByteArray := ⟨l.toArray⟩
theorem str_list (l : List UInt8) : (str l).data.toList = l := by simp [str]
theorem str_of (s : ByteArray) : str s.data.toList = s := by simp [str]
theorem str_size (l : List UInt8) : (str l).size = l.length := by simp [str, ByteArray.size]
theorem list_size (s : ByteArray) : s.data.toList.length = s.size := Array.length_toList

/-- Does a byte stand in a string? -/
def has (s : ByteArray) (v : Nat) : Bool := s.data.toList.any fun c => c.toNat == v

/-- A component. -/
def comp (s : ByteArray) : Bool := decide (1 ≤ s.size) && decide (s.size ≤ 32) && !has s 47 && !has s 0

def dot : ByteArray := ⟨#[46]⟩
def dots : ByteArray := ⟨#[46, 46]⟩

def name (s : ByteArray) : Bool := comp s && decide (s ≠ dot) && decide (s ≠ dots)

/-- Names with a byte more each. -/
def tot (l : List ByteArray) : Nat := (l.map fun s => s.size + 1).sum

/-- How many bytes a path's text has. -/
def plen (a : Bool) (l : List ByteArray) (d : Bool) : Nat := (tot l - 1) + (if a then 1 else 0) + (if d && decide (0 < l.length) then 1 else 0)

/-- Is it a path? -/
def valid (a : Bool) (l : List ByteArray) (d : Bool) : Bool := if l = [] then a && d else l.all comp && decide (plen a l d ≤ 256)

/-- What stands behind the first name. -/
def behind : List ByteArray → List UInt8
  | [] => []
  | x :: r => 47 :: (x.data.toList ++ behind r)
def body : List ByteArray → List UInt8
  | [] => []
  | x :: r => x.data.toList ++ behind r
def text (a : Bool) (l : List ByteArray) (d : Bool) : List UInt8 := (if a then [47] else []) ++ body l ++ (if d && decide (0 < l.length) then [47] else [])

/-- The parts between slashes that are not empty; none where a part is too long. -/
def emit (cur : List UInt8) (acc : List ByteArray) : List ByteArray := if cur = [] then acc else acc ++ [str cur]
def split : List UInt8 → List ByteArray → List UInt8 → Option (List ByteArray)
  | cur, acc, [] => if 32 < cur.length then none else some (emit cur acc)
  | cur, acc, c :: r => if c.toNat = 47 then (if 32 < cur.length then none else split [] (emit cur acc) r) else split (cur ++ [c]) acc r

def names (s : ByteArray) : List ByteArray := (split [] [] s.data.toList).getD []
/-- The number of Parse's error. -/
def perr (s : ByteArray) : Int := if s.size = 0 then 11 else if 256 < s.size then 17 else if has s 0 then 2 else if (split [] [] s.data.toList).isNone then 17 else 0
def first (s : ByteArray) : Bool := s.data.toList.head?.any fun c => c.toNat == 47
def last (s : ByteArray) : Bool := s.data.toList.getLast?.any fun c => c.toNat == 47
def pA (s : ByteArray) : Bool := if perr s = 0 then first s else false
def pD (s : ByteArray) : Bool := if perr s = 0 then last s else false
def pN (s : ByteArray) : List ByteArray := if perr s = 0 then names s else []

/-- A path's normal form, name by name. -/
def step (a : Bool) (out : List ByteArray) (x : ByteArray) : List ByteArray :=
  if x = dot then out
  else if x = dots ∧ out ≠ [] ∧ out.getLast? ≠ some dots then out.dropLast
  else if x = dots ∧ out = [] ∧ a = true then out
  else out ++ [x]
def fold (a : Bool) (l : List ByteArray) : List ByteArray := l.foldl (step a) []
def normL (a : Bool) (l : List ByteArray) : List ByteArray := if fold a l = [] ∧ a = false then [dot] else fold a l
def normD (a : Bool) (l : List ByteArray) (d : Bool) : Bool := d || (decide (fold a l = []) && a)

/-! Totals. -/
theorem tot_nil : tot [] = 0 := rfl
theorem tot_cons (x : ByteArray) (l : List ByteArray) : tot (x :: l) = x.size + 1 + tot l := by simp [tot]
theorem tot_append (a b : List ByteArray) : tot (a ++ b) = tot a + tot b := by simp [tot]
theorem tot_snoc (a : List ByteArray) (x : ByteArray) : tot (a ++ [x]) = tot a + (x.size + 1) := by rw [tot_append]; simp [tot]
theorem tot_pos (l : List ByteArray) (h : l ≠ []) : 1 ≤ tot l := by
  cases l with
  | nil => exact absurd rfl h
  | cons x r => rw [tot_cons]; omega
theorem tot_len (l : List ByteArray) : l.length ≤ tot l := by
  induction l with
  | nil => simp [tot]
  | cons x r ih => rw [tot_cons, List.length_cons]; omega
theorem tot_sub {a b : List ByteArray} (h : List.Sublist a b) : tot a ≤ tot b := by
  induction h with
  | slnil => simp
  | cons x _ ih => rw [tot_cons]; omega
  | cons_cons x _ ih => rw [tot_cons, tot_cons]; omega
theorem tot_le (l : List ByteArray) (h : ∀ x ∈ l, comp x = true) : tot l ≤ 33 * l.length := by
  induction l with
  | nil => simp [tot]
  | cons x r ih =>
    have h1 := h x (by simp)
    have h2 := ih fun y hy => h y (by simp [hy])
    simp only [comp, Bool.and_eq_true, decide_eq_true_eq] at h1
    rw [tot_cons, List.length_cons]; omega

/-! Components. -/
theorem comp_iff (s : ByteArray) : comp s = true ↔ (1 ≤ s.size ∧ s.size ≤ 32) ∧ (∀ c ∈ s.data.toList, c.toNat ≠ 47) ∧ ∀ c ∈ s.data.toList, c.toNat ≠ 0 := by
  simp only [comp, has, Bool.and_eq_true, decide_eq_true_eq, Bool.not_eq_true', List.any_eq_false, beq_iff_eq]
  constructor
  · rintro ⟨⟨h1, h2⟩, h3⟩; exact ⟨h1, h2, h3⟩
  · rintro ⟨h1, h2, h3⟩; exact ⟨⟨h1, h2⟩, h3⟩
theorem comp_dot : comp dot = true := by decide
theorem comp_dots : comp dots = true := by decide
theorem dot_ne : dot ≠ dots := by decide

/-! The parts of a text. -/
theorem emit_nil (acc : List ByteArray) : emit [] acc = acc := by simp [emit]
theorem emit_tot (cur : List UInt8) (acc : List ByteArray) : tot (emit cur acc) = tot acc + (if cur = [] then 0 else cur.length + 1) := by
  unfold emit
  by_cases h : cur = []
  · simp [h]
  · rw [if_neg h, if_neg h, tot_snoc, str_size]

/-- Does a list of bytes end so that the next part begins anew? -/
def fresh (l : List UInt8) : Bool := l.getLast?.all fun c => c.toNat == 47
theorem fresh_cons (c d : UInt8) (r : List UInt8) : fresh (c :: d :: r) = fresh (d :: r) := by simp [fresh, List.getLast?_cons_cons]
theorem fresh_mid (a : List UInt8) (c : UInt8) (r : List UInt8) (h : r ≠ []) : fresh (a ++ c :: r) = fresh r := by
  unfold fresh
  rw [List.getLast?_append]
  obtain ⟨y, r', rfl⟩ := List.exists_cons_of_ne_nil h
  rw [List.getLast?_cons_cons]
  cases h2 : (y :: r').getLast? with
  | none => simp at h2
  | some z => simp

theorem split_tot : ∀ (r cur : List UInt8) (acc l : List ByteArray), (∀ c ∈ cur, c.toNat ≠ 47) → split cur acc r = some l → tot l ≤ tot acc + (cur ++ r).length + (if fresh (cur ++ r) then 0 else 1)
  | [], cur, acc, l, hc, h => by
    simp only [split] at h
    split at h
    · cases h
    · obtain rfl := Option.some.inj h
      rw [emit_tot, List.append_nil]
      by_cases h0 : cur = []
      · simp [h0]
      · rw [if_neg h0]
        have hf : fresh cur = false := by
          unfold fresh
          rw [List.getLast?_eq_some_getLast h0]
          simp only [Option.all_some, beq_eq_false_iff_ne, ne_eq]
          exact hc _ (List.getLast_mem h0)
        rw [hf]; simp; omega
  | c :: r, cur, acc, l, hc, h => by
    simp only [split] at h
    split at h
    · rename_i h47
      split at h
      · cases h
      · have ih := split_tot r [] (emit cur acc) l (by simp) h
        rw [emit_tot] at ih
        simp only [List.nil_append] at ih
        have hf : (if fresh r then 0 else 1) ≤ (if fresh (cur ++ c :: r) then 0 else 1) := by
          by_cases hr : r = []
          · subst hr; simp [fresh]
          · rw [fresh_mid _ _ _ hr]; exact Nat.le_refl _
        simp only [List.length_append, List.length_cons]
        split at ih <;> omega
    · rename_i h47
      have ih := split_tot r (cur ++ [c]) acc l (by
        intro x hx
        rcases List.mem_append.1 hx with h1 | h1
        · exact hc x h1
        · simp at h1; subst h1; exact h47) h
      simpa using ih

theorem split_pre : ∀ (r cur : List UInt8) (acc l : List ByteArray), split cur acc r = some l → ∃ m, l = acc ++ m ∧ (cur ≠ [] → m ≠ [])
  | [], cur, acc, l, h => by
    simp only [split] at h
    split at h
    · cases h
    · obtain rfl := Option.some.inj h
      unfold emit
      split
      · rename_i h0; exact ⟨[], by simp, fun h => absurd h0 h⟩
      · exact ⟨[str cur], rfl, fun _ => by simp⟩
  | c :: r, cur, acc, l, h => by
    simp only [split] at h
    split at h
    · split at h
      · cases h
      · obtain ⟨m, rfl, -⟩ := split_pre r [] (emit cur acc) l h
        unfold emit
        split
        · rename_i h0; exact ⟨m, rfl, fun h => absurd h0 h⟩
        · exact ⟨str cur :: m, by simp, fun _ => by simp⟩
    · obtain ⟨m, rfl, hm⟩ := split_pre r (cur ++ [c]) acc l h
      exact ⟨m, rfl, fun _ => hm (by simp)⟩

theorem split_empty : ∀ (r : List UInt8), split [] [] r = some [] → ∀ c ∈ r, c.toNat = 47
  | [], _, c, hc => by simp at hc
  | c :: r, h, x, hx => by
    simp only [split, emit_nil] at h
    split at h
    · rename_i h47
      rw [if_neg (by simp)] at h
      rcases List.mem_cons.1 hx with rfl | hx
      · exact h47
      · exact split_empty r h x hx
    · obtain ⟨m, hm, hne⟩ := split_pre r _ [] [] h
      have : m = [] := by simpa using hm.symm
      exact absurd this (hne (by simp))

theorem split_comp : ∀ (r cur : List UInt8) (acc l : List ByteArray), (∀ c ∈ cur, c.toNat ≠ 47) → (∀ c ∈ cur ++ r, c.toNat ≠ 0) → (∀ x ∈ acc, comp x = true) → split cur acc r = some l → ∀ x ∈ l, comp x = true := by
  have hem : ∀ (cur : List UInt8) (acc : List ByteArray), ¬ 32 < cur.length → (∀ c ∈ cur, c.toNat ≠ 47) → (∀ c ∈ cur, c.toNat ≠ 0) → (∀ x ∈ acc, comp x = true) → ∀ x ∈ emit cur acc, comp x = true := by
    intro cur acc h32 h1 h2 h3 x hx
    unfold emit at hx
    split at hx
    · exact h3 x hx
    · rename_i h0
      rcases List.mem_append.1 hx with hx | hx
      · exact h3 x hx
      · obtain rfl : x = str cur := by simpa using hx
        rw [comp_iff, str_list, str_size]
        have : cur.length ≠ 0 := fun h => h0 (List.eq_nil_of_length_eq_zero h)
        exact ⟨⟨by omega, by omega⟩, h1, h2⟩
  intro r
  induction r with
  | nil =>
    intro cur acc l h1 h2 h3 h
    simp only [split] at h
    split at h
    · cases h
    · rename_i h32
      obtain rfl := Option.some.inj h
      exact hem cur acc h32 h1 (by simpa using h2) h3
  | cons c r ih =>
    intro cur acc l h1 h2 h3 h
    simp only [split] at h
    split at h
    · split at h
      · cases h
      · rename_i h32
        exact ih [] (emit cur acc) l (by simp) (fun x hx => h2 x (by simp only [List.nil_append] at hx; simp [hx])) (hem cur acc h32 h1 (fun x hx => h2 x (by simp [hx])) h3) h
    · rename_i h47
      refine ih (cur ++ [c]) acc l ?_ (by simpa using h2) h3 h
      intro x hx
      rcases List.mem_append.1 hx with hx | hx
      · exact h1 x hx
      · obtain rfl : x = c := by simpa using hx
        exact h47

theorem split_run : ∀ (x cur : List UInt8) (acc : List ByteArray) (r : List UInt8), (∀ c ∈ x, c.toNat ≠ 47) → split cur acc (x ++ r) = split (cur ++ x) acc r
  | [], cur, acc, r, _ => by simp
  | c :: x, cur, acc, r, h => by
    rw [List.cons_append, split, if_neg (h c (by simp)), split_run x _ acc r fun y hy => h y (by simp [hy])]
    simp

theorem split_slash (r : List UInt8) (acc : List ByteArray) : split [] acc (47 :: r) = split [] acc r := by
  rw [split, if_pos (by rfl), if_neg (by simp), emit_nil]

theorem split_name (x : ByteArray) (hx : comp x = true) (acc : List ByteArray) (r : List UInt8) : split [] acc (x.data.toList ++ 47 :: r) = split [] (acc ++ [x]) r := by
  obtain ⟨⟨h1, h2⟩, h3, -⟩ := (comp_iff x).1 hx
  have hl := list_size x
  rw [split_run _ _ _ _ h3, List.nil_append, split, if_pos (by rfl), if_neg (by omega), emit, if_neg (fun h => by rw [h] at hl; simp at hl; omega), str_of]

theorem split_name_end (x : ByteArray) (hx : comp x = true) (acc : List ByteArray) : split [] acc x.data.toList = some (acc ++ [x]) := by
  obtain ⟨⟨h1, h2⟩, h3, -⟩ := (comp_iff x).1 hx
  have hl := list_size x
  have := split_run x.data.toList [] acc [] h3
  rw [List.append_nil] at this
  rw [this, List.nil_append, split, if_neg (by omega), emit, if_neg (fun h => by rw [h] at hl; simp at hl; omega), str_of]

theorem split_body : ∀ (r : List ByteArray) (x : ByteArray) (acc : List ByteArray) (d : Bool), (∀ y ∈ x :: r, comp y = true) →
    split [] acc (x.data.toList ++ behind r ++ (if d then [47] else [])) = some (acc ++ x :: r)
  | [], x, acc, d, h => by
    have hx := h x (by simp)
    cases d with
    | true => simp only [behind, List.append_nil, if_true]; rw [split_name x hx, split, if_neg (by simp), emit_nil]
    | false => simp only [behind, List.append_nil, Bool.false_eq_true, if_false]; exact split_name_end x hx acc
  | y :: r, x, acc, d, h => by
    have hx := h x (by simp)
    have ih := split_body r y (acc ++ [x]) d fun z hz => h z (by simp [List.mem_cons.1 hz])
    have e : x.data.toList ++ behind (y :: r) ++ (if d then [47] else []) = x.data.toList ++ 47 :: (y.data.toList ++ behind r ++ (if d then [47] else [])) := by simp [behind]
    rw [e, split_name x hx, ih]
    simp

theorem split_text (a : Bool) (l : List ByteArray) (d : Bool) (h : ∀ x ∈ l, comp x = true) : split [] [] (text a l d) = some l := by
  have h1 : split [] [] (body l ++ (if d && decide (0 < l.length) then [47] else [])) = some l := by
    cases l with
    | nil => simp [body, split, emit]
    | cons x r =>
      have := split_body r x [] d h
      simpa [body] using this
  unfold text
  cases a with
  | false => simpa using h1
  | true =>
    have e : (if true = true then [(47 : UInt8)] else []) ++ body l ++ (if d && decide (0 < l.length) then [47] else []) = 47 :: (body l ++ (if d && decide (0 < l.length) then [47] else [])) := by simp
    rw [e, split_slash]
    exact h1

theorem split_twice : ∀ (a cur : List UInt8) (acc : List ByteArray) (r : List UInt8), split cur acc (a ++ 47 :: 47 :: r) = split cur acc (a ++ 47 :: r)
  | [], cur, acc, r => by
    simp only [List.nil_append]
    have e : ∀ q, split cur acc (47 :: q) = if 32 < cur.length then none else split [] (emit cur acc) q := fun q => by
      rw [split, if_pos (by rfl)]
    rw [e, e, split_slash]
  | c :: a, cur, acc, r => by
    simp only [List.cons_append]
    rw [split, split, split_twice a, split_twice a]

/-! A path's text. -/
theorem behind_length : ∀ l : List ByteArray, (behind l).length = tot l
  | [] => rfl
  | x :: r => by simp only [behind, List.length_cons, List.length_append, list_size, behind_length r, tot_cons]; omega
theorem body_length (l : List ByteArray) : (body l).length = tot l - 1 := by
  cases l with
  | nil => rfl
  | cons x r => simp only [body, List.length_append, list_size, behind_length, tot_cons]; omega
theorem text_length (a : Bool) (l : List ByteArray) (d : Bool) : (text a l d).length = plen a l d := by
  unfold text plen
  simp only [List.length_append, body_length]
  cases a <;> cases (d && decide (0 < l.length)) <;> simp <;> omega
theorem behind_append : ∀ a b : List ByteArray, behind (a ++ b) = behind a ++ behind b
  | [], b => rfl
  | x :: a, b => by simp only [List.cons_append, behind, behind_append a b, List.append_assoc]
theorem body_snoc (l : List ByteArray) (x : ByteArray) : body (l ++ [x]) = body l ++ ((if 0 < l.length then [47] else []) ++ x.data.toList) := by
  cases l with
  | nil => simp [body, behind]
  | cons y r => simp [body, behind_append, behind]
theorem take_snoc (l : List ByteArray) (k : Nat) (h : k < l.length) : l.take (k + 1) = l.take k ++ [l[k]] := List.take_succ_eq_append_getElem h
theorem tot_take (l : List ByteArray) (k : Nat) : tot (l.take k) ≤ tot l := tot_sub (List.take_sublist k l)

theorem valid_some {a d : Bool} {l : List ByteArray} (h : valid a l d = true) (hl : l ≠ []) : (∀ x ∈ l, comp x = true) ∧ plen a l d ≤ 256 := by
  unfold valid at h
  rw [if_neg hl] at h
  simp only [Bool.and_eq_true, decide_eq_true_eq, List.all_eq_true] at h
  exact h
theorem valid_root {a d : Bool} (h : valid a [] d = true) : a = true ∧ d = true := by simpa [valid] using h
theorem valid_comp {a d : Bool} {l : List ByteArray} (h : valid a l d = true) : ∀ x ∈ l, comp x = true := by
  by_cases hl : l = []
  · subst hl; simp
  · exact (valid_some h hl).1
theorem valid_len {a d : Bool} {l : List ByteArray} (h : valid a l d = true) : plen a l d ≤ 256 := by
  by_cases hl : l = []
  · subst hl; unfold plen; simp [tot]; cases a <;> simp
  · exact (valid_some h hl).2
theorem valid_tot {a d : Bool} {l : List ByteArray} (h : valid a l d = true) : tot l ≤ 257 := by
  have := valid_len h; unfold plen at this; omega
theorem valid_count {a d : Bool} {l : List ByteArray} (h : valid a l d = true) : l.length ≤ 257 := Nat.le_trans (tot_len l) (valid_tot h)

theorem body_first (x : ByteArray) (r : List ByteArray) (hx : comp x = true) (t : List UInt8) : ∃ c, (body (x :: r) ++ t).head? = some c ∧ c.toNat ≠ 47 := by
  obtain ⟨⟨h1, -⟩, h3, -⟩ := (comp_iff x).1 hx
  have hl := list_size x
  cases hd : x.data.toList with
  | nil => rw [hd] at hl; simp at hl; omega
  | cons c s => exact ⟨c, by simp [body, hd], h3 c (by simp [hd])⟩
theorem behind_last : ∀ (l : List ByteArray) (h : l ≠ []), (∀ x ∈ l, comp x = true) → ∃ c, (behind l).getLast? = some c ∧ c.toNat ≠ 47
  | [x], _, hc => by
    obtain ⟨⟨h1, -⟩, h3, -⟩ := (comp_iff x).1 (hc x (by simp))
    have hl := list_size x
    have hne : x.data.toList ≠ [] := fun h => by rw [h] at hl; simp at hl; omega
    refine ⟨x.data.toList.getLast hne, ?_, h3 _ (List.getLast_mem hne)⟩
    simp only [behind, List.append_nil]
    rw [List.getLast?_cons, List.getLast?_eq_some_getLast hne]; rfl
  | x :: y :: r, _, hc => by
    obtain ⟨c, h1, h2⟩ := behind_last (y :: r) (by simp) fun z hz => hc z (by simp [List.mem_cons.1 hz])
    refine ⟨c, ?_, h2⟩
    rw [behind, List.getLast?_cons, List.getLast?_append, h1]; rfl
theorem body_last (l : List ByteArray) (h : l ≠ []) (hc : ∀ x ∈ l, comp x = true) : ∃ c, (body l).getLast? = some c ∧ c.toNat ≠ 47 := by
  cases l with
  | nil => exact absurd rfl h
  | cons x r =>
    cases r with
    | nil =>
      obtain ⟨c, h1, h2⟩ := behind_last [x] (by simp) hc
      refine ⟨c, ?_, h2⟩
      obtain ⟨⟨h1', -⟩, -⟩ := (comp_iff x).1 (hc x (by simp))
      have hl := list_size x
      have hne : x.data.toList ≠ [] := fun h => by rw [h] at hl; simp at hl; omega
      simp only [behind, List.append_nil] at h1
      rw [List.getLast?_cons, List.getLast?_eq_some_getLast hne] at h1
      simp only [body, behind, List.append_nil]
      rw [List.getLast?_eq_some_getLast hne]; exact h1
    | cons y r =>
      obtain ⟨c, h1, h2⟩ := behind_last (y :: r) (by simp) fun z hz => hc z (by simp [List.mem_cons.1 hz])
      refine ⟨c, ?_, h2⟩
      rw [body, List.getLast?_append, h1]; rfl

theorem body_no0 (l : List ByteArray) (hc : ∀ x ∈ l, comp x = true) : ∀ c ∈ body l, c.toNat ≠ 0 := by
  have hb : ∀ (l : List ByteArray), (∀ x ∈ l, comp x = true) → ∀ c ∈ behind l, c.toNat ≠ 0 := by
    intro l
    induction l with
    | nil => intro _ c hc; simp [behind] at hc
    | cons x r ih =>
      intro h c hc
      simp only [behind, List.mem_cons, List.mem_append] at hc
      rcases hc with rfl | hc | hc
      · decide
      · exact ((comp_iff x).1 (h x (by simp))).2.2 c hc
      · exact ih (fun y hy => h y (by simp [hy])) c hc
  cases l with
  | nil => intro c hc; simp [body] at hc
  | cons x r =>
    intro c h
    simp only [body, List.mem_append] at h
    rcases h with h | h
    · exact ((comp_iff x).1 (hc x (by simp))).2.2 c h
    · exact hb r (fun y hy => hc y (by simp [hy])) c h

/-- What was shown is read as it was. -/
theorem parse_text {a d : Bool} {l : List ByteArray} (h : valid a l d = true) :
    perr (str (text a l d)) = 0 ∧ pA (str (text a l d)) = a ∧ pD (str (text a l d)) = d ∧ pN (str (text a l d)) = l := by
  have hc := valid_comp h
  have hlen : (text a l d).length ≤ 256 := by rw [text_length]; exact valid_len h
  have hne : 1 ≤ (text a l d).length := by
    rw [text_length]; unfold plen
    cases l with
    | nil => obtain ⟨rfl, rfl⟩ := valid_root h; simp
    | cons x r =>
      have := ((comp_iff x).1 (hc x (by simp))).1.1
      rw [tot_cons]; omega
  have h0 : has (str (text a l d)) 0 = false := by
    simp only [has, str_list, List.any_eq_false, beq_iff_eq]
    intro c hcm
    unfold text at hcm
    simp only [List.mem_append] at hcm
    rcases hcm with (hcm | hcm) | hcm
    · split at hcm
      · simp at hcm; subst hcm; decide
      · simp at hcm
    · exact body_no0 l hc c hcm
    · split at hcm
      · simp at hcm; subst hcm; decide
      · simp at hcm
  have hs := split_text a l d hc
  have he : perr (str (text a l d)) = 0 := by
    unfold perr
    rw [str_size, str_list, if_neg (by omega), if_neg (by omega), h0, hs]; simp
  refine ⟨he, ?_, ?_, ?_⟩
  · unfold pA first
    rw [if_pos he, str_list]
    cases a with
    | true => simp [text]
    | false =>
      cases l with
      | nil => have := (valid_root h).1; cases this
      | cons x r =>
        obtain ⟨c, h1, h2⟩ := body_first x r (hc x (by simp)) (if d && decide (0 < (x :: r).length) then [47] else [])
        simp only [text, Bool.false_eq_true, if_false, List.nil_append]
        rw [h1]; simp [h2]
  · unfold pD PM.last
    rw [if_pos he, str_list]
    cases l with
    | nil =>
      obtain ⟨rfl, rfl⟩ := valid_root h
      simp [text, body]
    | cons x r =>
      cases d with
      | true => simp [text]
      | false =>
        obtain ⟨c, h1, h2⟩ := body_last (x :: r) (by simp) hc
        simp only [text, Bool.false_and, Bool.false_eq_true, if_false, List.append_nil]
        rw [List.getLast?_append, h1]; simp [h2]
  · unfold pN names
    rw [if_pos he, str_list, hs]; rfl

/-- What was read is a path, and its text is no longer. -/
theorem parse_valid {s : ByteArray} (h : perr s = 0) : valid (pA s) (pN s) (pD s) = true ∧ plen (pA s) (pN s) (pD s) ≤ s.size := by
  have hE := h
  unfold perr at h
  split at h
  · cases h
  split at h
  · cases h
  split at h
  · cases h
  split at h
  · cases h
  rename_i h0 h256 hz hs
  obtain ⟨l, hl⟩ : ∃ l, split [] [] s.data.toList = some l := by
    cases hx : split [] [] s.data.toList with
    | none => rw [hx] at hs; simp at hs
    | some l => exact ⟨l, rfl⟩
  have hN : pN s = l := by unfold pN names; rw [if_pos hE, hl]; rfl
  have hA : pA s = first s := by unfold pA; rw [if_pos hE]
  have hD : pD s = PM.last s := by unfold pD; rw [if_pos hE]
  rw [hN, hA, hD]
  have hsz := list_size s
  have hz' : ∀ c ∈ s.data.toList, c.toNat ≠ 0 := by
    simp only [has, Bool.not_eq_true, List.any_eq_false, beq_iff_eq] at hz
    exact hz
  have hcomp : ∀ x ∈ l, comp x = true := split_comp s.data.toList [] [] l (by simp) (by simpa using hz') (by simp) hl
  obtain ⟨c, r, hcr⟩ : ∃ c r, s.data.toList = c :: r := by
    cases hx : s.data.toList with
    | nil => rw [hx] at hsz; simp at hsz; omega
    | cons c r => exact ⟨c, r, rfl⟩
  have hfirst : first s = (c.toNat == 47) := by unfold first; rw [hcr]; rfl
  have hfresh : fresh s.data.toList = PM.last s := by
    unfold fresh PM.last
    rw [hcr]
    cases hx : (c :: r).getLast? with
    | none => simp at hx
    | some z => rfl
  have hbound : l ≠ [] → plen (first s) l (PM.last s) ≤ s.size := by
    intro hne
    have htp := tot_pos l hne
    have hlp : 0 < l.length := by cases l with
      | nil => exact absurd rfl hne
      | cons x r => simp
    unfold plen
    by_cases hc47 : c.toNat = 47
    · have h1 : split [] [] r = some l := by
        rw [hcr, split, if_pos hc47, if_neg (by simp), emit_nil] at hl; exact hl
      have h2 := split_tot r [] [] l (by simp) h1
      rw [List.nil_append, tot_nil, Nat.zero_add] at h2
      have hr : fresh r = true ∨ fresh r = PM.last s := by
        by_cases hr : r = []
        · subst hr; exact .inl rfl
        · right
          rw [← hfresh, hcr]
          exact (fresh_mid [] c r hr).symm
      rw [hfirst, show (c.toNat == 47) = true from by simpa using hc47]
      rw [hcr] at hsz
      simp only [List.length_cons] at hsz
      simp only [if_true]
      rcases hr with hr | hr
      · rw [hr] at h2; simp only [if_true] at h2
        split <;> omega
      · rw [hr] at h2
        cases hd : PM.last s with
        | true => rw [hd] at h2; simp only [if_true] at h2; split <;> omega
        | false => rw [hd] at h2; simp at h2 ⊢; omega
    · rw [hfirst, show (c.toNat == 47) = false from by simpa using hc47]
      have h2 := split_tot s.data.toList [] [] l (by simp) hl
      simp only [List.nil_append, tot_nil, Nat.zero_add, hfresh, hsz] at h2
      cases hd : PM.last s with
      | true => rw [hd] at h2; simp only [if_true] at h2; simp [hlp]; omega
      | false => rw [hd] at h2; simp at h2 ⊢; omega
  by_cases hne : l = []
  · subst hne
    have hall := split_empty _ hl
    have h1 : first s = true := by rw [hfirst]; simpa using hall c (by rw [hcr]; simp)
    have h2 : PM.last s = true := by
      rw [← hfresh]; unfold fresh
      rw [hcr]
      cases hx : (c :: r).getLast? with
      | none => simp at hx
      | some z =>
        have := hall z (by rw [hcr]; exact List.mem_of_getLast? hx)
        simpa using this
    rw [h1, h2]
    exact ⟨by simp [valid], by simp [plen, tot]; omega⟩
  · refine ⟨?_, hbound hne⟩
    unfold valid
    rw [if_neg hne]
    simp only [Bool.and_eq_true, decide_eq_true_eq, List.all_eq_true]
    exact ⟨hcomp, by have := hbound hne; omega⟩

/-- A slash more behind a slash makes no difference. -/
theorem parse_slash (a r : List UInt8) (h : (a ++ 47 :: r).length < 256) :
    perr (str (a ++ 47 :: 47 :: r)) = perr (str (a ++ 47 :: r)) ∧ pA (str (a ++ 47 :: 47 :: r)) = pA (str (a ++ 47 :: r)) ∧ pD (str (a ++ 47 :: 47 :: r)) = pD (str (a ++ 47 :: r)) ∧ pN (str (a ++ 47 :: 47 :: r)) = pN (str (a ++ 47 :: r)) := by
  have hs := split_twice a [] [] r
  have h0 : has (str (a ++ 47 :: 47 :: r)) 0 = has (str (a ++ 47 :: r)) 0 := by simp [has, str_list]
  have he : perr (str (a ++ 47 :: 47 :: r)) = perr (str (a ++ 47 :: r)) := by
    unfold perr
    rw [h0, str_list, str_list, hs, str_size, str_size]
    simp only [List.length_append, List.length_cons] at h ⊢
    rw [if_neg (by omega : ¬ a.length + (r.length + 1 + 1) = 0), if_neg (by omega : ¬ 256 < a.length + (r.length + 1 + 1)), if_neg (by omega : ¬ a.length + (r.length + 1) = 0), if_neg (by omega : ¬ 256 < a.length + (r.length + 1))]
  refine ⟨he, ?_, ?_, ?_⟩
  · unfold pA first; rw [he, str_list, str_list]; cases a <;> simp
  · unfold pD PM.last; rw [he, str_list, str_list]; simp [List.getLast?_append, List.getLast?_cons_cons]
  · unfold pN names; rw [he, str_list, str_list, hs]

/-! The normal form. -/
theorem step_sub (a : Bool) (out : List ByteArray) (x : ByteArray) : List.Sublist (step a out x) (out ++ [x]) := by
  unfold step
  split
  · exact List.sublist_append_left _ _
  split
  · exact (List.dropLast_sublist _).trans (List.sublist_append_left _ _)
  split
  · exact List.sublist_append_left _ _
  · exact List.Sublist.refl _
theorem foldl_sub (a : Bool) : ∀ (l acc : List ByteArray), List.Sublist (l.foldl (step a) acc) (acc ++ l)
  | [], acc => by simp
  | x :: l, acc => by
    have h1 := foldl_sub a l (step a acc x)
    have h2 : List.Sublist (step a acc x ++ l) (acc ++ [x] ++ l) := (step_sub a acc x).append (List.Sublist.refl l)
    simpa using h1.trans h2
theorem fold_sub (a : Bool) (l : List ByteArray) : List.Sublist (fold a l) l := foldl_sub a l []

/-- The shape of a normal form: double dots ahead of names that are none. -/
def Shape (a : Bool) (o : List ByteArray) : Prop := ∃ k p, o = List.replicate k dots ++ p ∧ (∀ x ∈ p, x ≠ dot ∧ x ≠ dots) ∧ (a = true → k = 0)
theorem Shape.nil (a : Bool) : Shape a [] := ⟨0, [], rfl, by simp, fun _ => rfl⟩
theorem Shape.no_dots {o : List ByteArray} (h : Shape true o) : dots ∉ o := by
  obtain ⟨k, p, rfl, hp, hk⟩ := h
  rw [hk rfl]
  intro hm
  simp at hm
  exact (hp dots hm).2 rfl
theorem step_shape {a : Bool} {o : List ByteArray} (h : Shape a o) (x : ByteArray) : Shape a (step a o x) := by
  unfold step
  split
  · exact h
  rename_i hdot
  obtain ⟨k, p, rfl, hp, hk⟩ := h
  split
  · rename_i hc
    obtain ⟨-, hne, hlast⟩ := hc
    rcases List.eq_nil_or_concat p with rfl | ⟨q, y, rfl⟩
    · exfalso
      simp only [List.append_nil] at hlast hne
      cases k with
      | zero => exact hne rfl
      | succ k => rw [List.getLast?_replicate] at hlast; simp at hlast
    · refine ⟨k, q, ?_, fun z hz => hp z (by simp [hz]), hk⟩
      rw [List.concat_eq_append, ← List.append_assoc, List.dropLast_concat]
  split
  · exact ⟨k, p, rfl, hp, hk⟩
  · rename_i h1 h2
    by_cases hx : x = dots
    · subst hx
      have hpn : p = [] := by
        rcases List.eq_nil_or_concat p with rfl | ⟨q, y, rfl⟩
        · rfl
        · exfalso
          apply h1
          refine ⟨rfl, by simp, ?_⟩
          have hy := (hp y (by simp)).2
          rw [List.concat_eq_append, ← List.append_assoc, List.getLast?_concat]
          simpa using hy
      subst hpn
      refine ⟨k + 1, [], by simp [List.replicate_succ'], by simp, fun ha => ?_⟩
      have hk0 := hk ha
      subst hk0
      exact absurd ⟨rfl, rfl, ha⟩ h2
    · refine ⟨k, p ++ [x], by simp, fun z hz => ?_, hk⟩
      rcases List.mem_append.1 hz with hz | hz
      · exact hp z hz
      · obtain rfl : z = x := by simpa using hz
        exact ⟨hdot, hx⟩
theorem foldl_shape (a : Bool) : ∀ (l acc : List ByteArray), Shape a acc → Shape a (l.foldl (step a) acc)
  | [], _, h => h
  | x :: l, _, h => foldl_shape a l _ (step_shape h x)
theorem fold_shape (a : Bool) (l : List ByteArray) : Shape a (fold a l) := foldl_shape a l [] (Shape.nil a)

theorem foldl_plain (a : Bool) : ∀ (p acc : List ByteArray), (∀ x ∈ p, x ≠ dot ∧ x ≠ dots) → p.foldl (step a) acc = acc ++ p
  | [], acc, _ => by simp
  | x :: p, acc, h => by
    obtain ⟨h1, h2⟩ := h x (by simp)
    rw [List.foldl_cons, foldl_plain a p _ fun y hy => h y (by simp [hy])]
    unfold step
    rw [if_neg h1, if_neg (fun h => h2 h.1), if_neg (fun h => h2 h.1)]
    simp
theorem foldl_dots : ∀ (k j : Nat), (List.replicate k dots).foldl (step false) (List.replicate j dots) = List.replicate (j + k) dots
  | 0, j => by simp
  | k + 1, j => by
    rw [List.replicate_succ, List.foldl_cons]
    have : step false (List.replicate j dots) dots = List.replicate (j + 1) dots := by
      unfold step
      rw [if_neg (fun h => dot_ne h.symm), if_neg, if_neg (fun h => by cases h.2.2), List.replicate_succ']
      rintro ⟨-, hne, hl⟩
      cases j with
      | zero => simp at hne
      | succ j => rw [List.getLast?_replicate] at hl; simp at hl
    rw [this, foldl_dots k (j + 1)]
    congr 1; omega
theorem fold_of_shape {a : Bool} {o : List ByteArray} (h : Shape a o) : fold a o = o := by
  obtain ⟨k, p, rfl, hp, hk⟩ := h
  unfold fold
  rw [List.foldl_append, foldl_plain a p _ hp]
  congr 1
  cases a with
  | true => rw [hk rfl]; rfl
  | false =>
    have := foldl_dots k 0
    simpa using this
theorem fold_dot : fold false [dot] = [] := by simp [fold, step]

theorem norm_valid {a d : Bool} {l : List ByteArray} (h : valid a l d = true) : valid a (normL a l) (normD a l d) = true := by
  have hsub := fold_sub a l
  have hc := valid_comp h
  unfold normL normD
  by_cases h0 : fold a l = []
  · cases a with
    | true => simp [h0, valid]
    | false =>
      have hl : l ≠ [] := fun e => by subst e; have := (valid_root h).1; cases this
      have hlen := valid_len h
      obtain ⟨x, r, rfl⟩ := List.exists_cons_of_ne_nil hl
      have h1 := ((comp_iff x).1 (hc x (by simp))).1.1
      simp only [h0, true_and, if_true, decide_true, Bool.and_false, Bool.or_false]
      unfold valid
      rw [if_neg (by simp)]
      simp only [List.all_cons, List.all_nil, Bool.and_true, Bool.and_eq_true, decide_eq_true_eq]
      refine ⟨comp_dot, ?_⟩
      unfold plen at hlen ⊢
      have e : tot [dot] = 2 := rfl
      have e2 := tot_cons x r
      rw [e]
      cases d <;> simp
  · rw [if_neg (fun e => h0 e.1)]
    simp only [h0, decide_false, Bool.false_and, Bool.or_false]
    have hl : l ≠ [] := fun e => by subst e; exact h0 rfl
    have hlen := valid_len h
    have ht := tot_sub hsub
    unfold valid
    rw [if_neg h0]
    simp only [Bool.and_eq_true, decide_eq_true_eq, List.all_eq_true]
    refine ⟨fun x hx => hc x (hsub.subset hx), ?_⟩
    have hp1 : 0 < l.length := List.length_pos_iff.2 hl
    have hp2 : 0 < (fold a l).length := List.length_pos_iff.2 h0
    unfold plen at hlen ⊢
    simp only [hp1, hp2, decide_true, Bool.and_true] at hlen ⊢
    omega
/-- The normal form of a normal form is it. -/
theorem norm_again (a d : Bool) (l : List ByteArray) : normL a (normL a l) = normL a l ∧ normD a (normL a l) (normD a l d) = normD a l d := by
  have hs := fold_of_shape (fold_shape a l)
  unfold normL normD
  by_cases h0 : fold a l = []
  · cases a with
    | true =>
      have : fold true ([] : List ByteArray) = [] := rfl
      simp [h0, this]
    | false => simp [h0, fold_dot]
  · simp [h0, hs]

/-- The program's own way to remove a name is the document's. -/
theorem step_prog {a : Bool} {o : List ByteArray} (h : Shape a o) (x : ByteArray) :
    step a o x = if x = dot then o else if x = dots then (if o ≠ [] ∧ o.getLast? ≠ some dots then o.dropLast else if a then o else o ++ [x]) else o ++ [x] := by
  unfold step
  by_cases h1 : x = dot
  · rw [if_pos h1, if_pos h1]
  rw [if_neg h1, if_neg h1]
  by_cases h2 : x = dots
  · subst h2
    simp only [true_and, if_true]
    by_cases h3 : o ≠ [] ∧ o.getLast? ≠ some dots
    · rw [if_pos h3, if_pos h3]
    · rw [if_neg h3, if_neg h3]
      cases a with
      | false => simp
      | true =>
        have ho : o = [] := by
          apply Classical.byContradiction
          intro hne
          have hl : o.getLast? = some dots := by
            apply Classical.byContradiction
            intro hl; exact h3 ⟨hne, hl⟩
          exact h.no_dots (List.mem_of_getLast? hl)
        simp [ho]
  · simp [h2]

end PM
end Go.Proofs.Ytfageibidikppaa

/- Frames and calls are one to one: free of any walk. -/
import Derived.Test.YtmhikoblaejhhaaCalDec
namespace Go.Proofs.Ytmhikoblaejhhaa
open Go.ChangeShapes Go.WideShapes Go.ChangeAt Go.RowKit Go.Maps
set_option linter.unusedVariables false
set_option linter.unusedSimpArgs false
set_option maxRecDepth 100000
namespace CA
/-- What is read by a shape, texts of at most m bytes. -/
def rdm (m : Nat) : List UInt8 → List UInt8 → Nat → Bool → List Int × List ByteArray × Nat × Bool
  | [], _, x, b => ([], [], x, b)
  | c :: r, l, x, b => if c = 110 then (si (nvl l x) :: (rdm m r l (nat_ l x) (b || !nok l x)).1, (rdm m r l (nat_ l x) (b || !nok l x)).2) else
      ((rdm m r l (tat l x m) (b || !tok l x m)).1, tvl l x m :: (rdm m r l (tat l x m) (b || !tok l x m)).2.1, (rdm m r l (tat l x m) (b || !tok l x m)).2.2)
theorem rd_rdm : ∀ (L l : List UInt8) (x : Nat) (b : Bool), rd L l x b = rdm 8192 L l x b
  | [], _, _, _ => rfl
  | c :: r, l, x, b => by
    unfold rd rdm
    split
    · rw [rd_rdm r]
    · rw [rd_rdm r]
/-- Enough numbers, and texts that are short enough. -/
def suf (m : Nat) : List UInt8 → List Int → List ByteArray → Prop
  | [], _, _ => True
  | c :: r, ns, ss => if c = 110 then (∃ n ns', ns = n :: ns' ∧ suf m r ns' ss) else (∃ s ss', ss = s :: ss' ∧ s.size ≤ m ∧ suf m r ns ss')
def useN : List UInt8 → List Int → List Int
  | [], _ => []
  | c :: r, ns => if c = 110 then (match ns with | n :: ns => si (un n) :: useN r ns | [] => []) else useN r ns
def useS : List UInt8 → List ByteArray → List ByteArray
  | [], _ => []
  | c :: r, ss => if c = 110 then useS r ss else (match ss with | s :: ss => s :: useS r ss | [] => [])
theorem body_n {c : UInt8} (h : c = 110) (r : List UInt8) (n : Int) (ns : List Int) (ss : List ByteArray) : body (c :: r) (n :: ns) ss = le 8 (un n) ++ body r ns ss := by subst h; rfl
theorem body_t {c : UInt8} (h : ¬ c = 110) (r : List UInt8) (ns : List Int) (s : ByteArray) (ss : List ByteArray) : body (c :: r) ns (s :: ss) = le 4 s.size ++ s.data.toList ++ body r ns ss := by show (if c = 110 then _ else _) = _; rw [if_neg h]
theorem useN_n {c : UInt8} (h : c = 110) (r : List UInt8) (n : Int) (ns : List Int) : useN (c :: r) (n :: ns) = si (un n) :: useN r ns := by subst h; rfl
theorem useN_t {c : UInt8} (h : ¬ c = 110) (r : List UInt8) (ns : List Int) : useN (c :: r) ns = useN r ns := by show (if c = 110 then _ else _) = _; rw [if_neg h]
theorem useS_n {c : UInt8} (h : c = 110) (r : List UInt8) (ss : List ByteArray) : useS (c :: r) ss = useS r ss := by subst h; rfl
theorem useS_t {c : UInt8} (h : ¬ c = 110) (r : List UInt8) (s : ByteArray) (ss : List ByteArray) : useS (c :: r) (s :: ss) = s :: useS r ss := by show (if c = 110 then _ else _) = _; rw [if_neg h]
theorem rdm_n (m : Nat) {c : UInt8} (h : c = 110) (r l : List UInt8) (x : Nat) (b : Bool) : rdm m (c :: r) l x b = (si (nvl l x) :: (rdm m r l (nat_ l x) (b || !nok l x)).1, (rdm m r l (nat_ l x) (b || !nok l x)).2) := by subst h; rfl
theorem rdm_t (m : Nat) {c : UInt8} (h : ¬ c = 110) (r l : List UInt8) (x : Nat) (b : Bool) : rdm m (c :: r) l x b = ((rdm m r l (tat l x m) (b || !tok l x m)).1, tvl l x m :: (rdm m r l (tat l x m) (b || !tok l x m)).2.1, (rdm m r l (tat l x m) (b || !tok l x m)).2.2) := by show (if c = 110 then _ else _) = _; rw [if_neg h]
theorem suf_n {m : Nat} {c : UInt8} (h : c = 110) (r : List UInt8) (ns : List Int) (ss : List ByteArray) : suf m (c :: r) ns ss = ∃ n ns', ns = n :: ns' ∧ suf m r ns' ss := by subst h; rfl
theorem suf_t {m : Nat} {c : UInt8} (h : ¬ c = 110) (r : List UInt8) (ns : List Int) (ss : List ByteArray) : suf m (c :: r) ns ss = ∃ s ss', ss = s :: ss' ∧ s.size ≤ m ∧ suf m r ns ss' := by show (if c = 110 then _ else _) = _; rw [if_neg h]
theorem num_le8 (k : Nat) (h : k < 18446744073709551616) : num (le 8 k) = k := num_le_eq 8 k h
theorem num_le4 (k : Nat) (h : k < 4294967296) : num (le 4 k) = k := num_le_eq 4 k h
theorem drop_pre (a b : List UInt8) : (a ++ b).drop a.length = b := List.drop_left
theorem take_pre (a b : List UInt8) (n : Nat) (h : a.length = n) : (a ++ b).take n = a := by subst h; exact List.take_left
theorem rd_body (m : Nat) (hm : m < 4294967296) : ∀ (L : List UInt8) (ns : List Int) (ss : List ByteArray) (pre post : List UInt8) (b : Bool), suf m L ns ss →
    rdm m L (pre ++ (body L ns ss ++ post)) pre.length b = (useN L ns, useS L ss, pre.length + (body L ns ss).length, b)
  | [], ns, ss, pre, post, b, _ => rfl
  | c :: r, ns, ss, pre, post, b, h => by
    by_cases hc : c = 110
    · rw [suf_n hc] at h
      obtain ⟨n, ns', rfl, h'⟩ := h
      have hb : body (c :: r) (n :: ns') ss = le 8 (un n) ++ body r ns' ss := body_n hc r n ns' ss
      have ih := rd_body m hm r ns' ss (pre ++ le 8 (un n)) post b h'
      have el : pre ++ (body (c :: r) (n :: ns') ss ++ post) = (pre ++ le 8 (un n)) ++ (body r ns' ss ++ post) := by rw [hb]; simp only [List.append_assoc]
      rw [el]
      generalize hl : (pre ++ le 8 (un n)) ++ (body r ns' ss ++ post) = l at ih
      have hlen : pre.length + 8 ≤ l.length := by rw [← hl]; simp only [List.length_append, le_length]; omega
      have h1 : nok l pre.length = true := by unfold nok; exact decide_eq_true hlen
      have h2 : nvl l pre.length = un n := by
        unfold nvl
        rw [if_pos hlen, ← hl, List.append_assoc, drop_pre, take_pre _ _ 8 (le_length 8 _), num_le8 _ (un_lt n)]
      have h3 : nat_ l pre.length = (pre ++ le 8 (un n)).length := by unfold nat_; rw [if_pos hlen, List.length_append, le_length]
      rw [rdm_n m hc, h1, h2, h3, Bool.not_true, Bool.or_false, ih, useN_n hc, useS_n hc, hb]
      simp only [List.length_append, le_length, Nat.add_assoc]
    · rw [suf_t hc] at h
      obtain ⟨s, ss', rfl, hs, h'⟩ := h
      have hb : body (c :: r) ns (s :: ss') = le 4 s.size ++ s.data.toList ++ body r ns ss' := body_t hc r ns s ss'
      have hsz : s.data.toList.length = s.size := by rw [Array.length_toList]; rfl
      have ih := rd_body m hm r ns ss' (pre ++ (le 4 s.size ++ s.data.toList)) post b h'
      have el : pre ++ (body (c :: r) ns (s :: ss') ++ post) = (pre ++ (le 4 s.size ++ s.data.toList)) ++ (body r ns ss' ++ post) := by rw [hb]; simp only [List.append_assoc]
      rw [el]
      generalize hl : (pre ++ (le 4 s.size ++ s.data.toList)) ++ (body r ns ss' ++ post) = l at ih
      have hlen : pre.length + 4 + s.size ≤ l.length := by rw [← hl]; simp only [List.length_append, le_length, hsz]; omega
      have hz : tsz l pre.length = s.size := by
        unfold tsz
        rw [← hl, List.append_assoc, drop_pre, List.append_assoc, take_pre _ _ 4 (le_length 4 _), num_le4 _ (by omega)]
      have h1 : tok l pre.length m = true := by unfold tok; rw [hz]; exact decide_eq_true ⟨by omega, hs, hlen⟩
      have h2 : tvl l pre.length m = s := by
        unfold tvl
        have e4 : pre.length + 4 = (pre ++ le 4 s.size).length := by rw [List.length_append, le_length]
        have e5 : (pre ++ (le 4 s.size ++ s.data.toList)) ++ (body r ns ss' ++ post) = (pre ++ le 4 s.size) ++ (s.data.toList ++ (body r ns ss' ++ post)) := by simp only [List.append_assoc]
        rw [if_pos h1, hz, ← hl, e5, e4, drop_pre, take_pre _ _ s.size hsz, strOf_of]
      have h3 : tat l pre.length m = (pre ++ (le 4 s.size ++ s.data.toList)).length := by
        unfold tat
        rw [if_pos h1, hz]
        simp only [List.length_append, le_length, hsz]; omega
      rw [rdm_t m hc, h1, h2, h3, Bool.not_true, Bool.or_false, ih, useN_t hc, useS_t hc, hb]
      simp only [List.length_append, le_length, Nat.add_assoc]
theorem rdm_true (m : Nat) : ∀ (L l : List UInt8) (x : Nat), (rdm m L l x true).2.2.2 = true
  | [], _, _ => rfl
  | c :: r, l, x => by
    by_cases hc : c = 110
    · rw [rdm_n m hc, Bool.true_or]; exact rdm_true m r l _
    · rw [rdm_t m hc, Bool.true_or]; exact rdm_true m r l _
theorem le_num : ∀ (m : Nat) (b : List UInt8), b.length = m → le m (num b) = b
  | 0, [], _ => rfl
  | m + 1, c :: b, h => by
    have h' : b.length = m := by simpa using h
    have hc := c.toNat_lt
    unfold le num
    have e1 : (c.toNat + 256 * num b) % 256 = c.toNat := by omega
    have e2 : (c.toNat + 256 * num b) / 256 = num b := by omega
    rw [e1, e2, le_num m b h']
    congr 1
    exact UInt8.ofNat_toNat
/-- What was read stands there. -/
theorem rd_back (m : Nat) (hm : m < 4294967296) : ∀ (L l : List UInt8) (x : Nat) (a : List Int) (t : List ByteArray) (y : Nat), rdm m L l x false = (a, t, y, false) → x ≤ l.length →
    x ≤ y ∧ y ≤ l.length ∧ (∀ ns' ss', l.drop x = body L (a ++ ns') (t ++ ss') ++ l.drop y) ∧ suf m L a t
  | [], l, x, a, t, y, h, hx => by
    unfold rdm at h
    simp only [Prod.mk.injEq, and_true] at h
    obtain ⟨rfl, rfl, rfl⟩ := h
    exact ⟨Nat.le_refl _, hx, fun _ _ => rfl, trivial⟩
  | c :: r, l, x, a, t, y, h, hx => by
    by_cases hc : c = 110
    · rw [rdm_n m hc] at h
      cases hk : nok l x with
      | false =>
        rw [hk] at h
        have := rdm_true m r l (nat_ l x)
        simp only [Bool.not_false, Bool.or_true, Prod.mk.injEq] at h
        rw [h.2] at this
        cases this
      | true =>
        rw [hk] at h
        simp only [Bool.not_true, Bool.or_false, Prod.mk.injEq] at h
        obtain ⟨rfl, h2⟩ := h
        have hlen : x + 8 ≤ l.length := by unfold nok at hk; exact of_decide_eq_true hk
        have h3 : nat_ l x = x + 8 := by unfold nat_; rw [if_pos hlen]
        have hv : nvl l x = num ((l.drop x).take 8) := by unfold nvl; rw [if_pos hlen]
        rw [h3] at h2 ⊢
        obtain ⟨i1, i2, i3, i4⟩ := rd_back m hm r l (x + 8) (rdm m r l (x + 8) false).1 t y (by rw [← h2]) hlen
        refine ⟨by omega, i2, fun ns' ss' => ?_, ?_⟩
        · show l.drop x = body (c :: r) (si (nvl l x) :: ((rdm m r l (x + 8) false).1 ++ ns')) (t ++ ss') ++ l.drop y
          have e : body (c :: r) (si (nvl l x) :: ((rdm m r l (x + 8) false).1 ++ ns')) (t ++ ss') = le 8 (un (si (nvl l x))) ++ body r ((rdm m r l (x + 8) false).1 ++ ns') (t ++ ss') := by
            exact body_n hc _ _ _ _
          rw [e, un_si (nvl_lt l x), hv, le_num 8 _ (by rw [List.length_take, List.length_drop]; omega), List.append_assoc, ← i3 ns' ss']
          rw [show l.drop (x + 8) = (l.drop x).drop 8 by rw [List.drop_drop], List.take_append_drop]
        · rw [suf_n hc]
          exact ⟨_, _, rfl, i4⟩
    · rw [rdm_t m hc] at h
      cases hk : tok l x m with
      | false =>
        rw [hk] at h
        have := rdm_true m r l (tat l x m)
        simp only [Bool.not_false, Bool.or_true, Prod.mk.injEq] at h
        rw [h.2.2] at this
        cases this
      | true =>
        rw [hk] at h
        simp only [Bool.not_true, Bool.or_false, Prod.mk.injEq] at h
        obtain ⟨rfl, rfl, h2⟩ := h
        have hq : x + 4 ≤ l.length ∧ tsz l x ≤ m ∧ x + 4 + tsz l x ≤ l.length := by unfold tok at hk; exact of_decide_eq_true hk
        have h3 : tat l x m = x + 4 + tsz l x := by unfold tat; rw [if_pos hk]
        have hv : tvl l x m = strOf ((l.drop (x + 4)).take (tsz l x)) := by unfold tvl; rw [if_pos hk]
        have hvs : (tvl l x m).size = tsz l x := by rw [hv, strOf_size, List.length_take, List.length_drop]; omega
        have hvd : (tvl l x m).data.toList = (l.drop (x + 4)).take (tsz l x) := by rw [hv, strOf_list]
        rw [h3] at h2 ⊢
        obtain ⟨i1, i2, i3, i4⟩ := rd_back m hm r l (x + 4 + tsz l x) (rdm m r l (x + 4 + tsz l x) false).1 (rdm m r l (x + 4 + tsz l x) false).2.1 y (by rw [← h2]) hq.2.2
        refine ⟨by omega, i2, fun ns' ss' => ?_, ?_⟩
        · show l.drop x = body (c :: r) ((rdm m r l (x + 4 + tsz l x) false).1 ++ ns') (tvl l x m :: ((rdm m r l (x + 4 + tsz l x) false).2.1 ++ ss')) ++ l.drop y
          have e : body (c :: r) ((rdm m r l (x + 4 + tsz l x) false).1 ++ ns') (tvl l x m :: ((rdm m r l (x + 4 + tsz l x) false).2.1 ++ ss')) = le 4 (tvl l x m).size ++ (tvl l x m).data.toList ++ body r ((rdm m r l (x + 4 + tsz l x) false).1 ++ ns') ((rdm m r l (x + 4 + tsz l x) false).2.1 ++ ss') := by
            exact body_t hc _ _ _ _
          rw [e, hvs, hvd, List.append_assoc, ← i3 ns' ss']
          have e4 : le 4 (tsz l x) = (l.drop x).take 4 := by unfold tsz; exact le_num 4 _ (by rw [List.length_take, List.length_drop]; omega)
          rw [e4, List.append_assoc]
          rw [show l.drop (x + 4 + tsz l x) = (l.drop (x + 4)).drop (tsz l x) by rw [List.drop_drop], List.take_append_drop]
          rw [show l.drop (x + 4) = (l.drop x).drop 4 by rw [List.drop_drop], List.take_append_drop]
        · rw [suf_t hc]
          exact ⟨_, _, rfl, by rw [hvs]; exact hq.2.1, i4⟩
end CA
end Go.Proofs.Ytmhikoblaejhhaa

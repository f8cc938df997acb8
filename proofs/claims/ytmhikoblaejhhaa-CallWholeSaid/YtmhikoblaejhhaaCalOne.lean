/- Frames and calls are one to one, replies and theirs too: what the laws want. -/
import Derived.Test.YtmhikoblaejhhaaCalPlain
import Derived.Test.YtmhikoblaejhhaaCalRep
namespace Go.Proofs.Ytmhikoblaejhhaa
open Go.ChangeShapes Go.WideShapes Go.ChangeAt Go.RowKit Go.Maps
set_option linter.unusedVariables false
set_option linter.unusedSimpArgs false
set_option maxRecDepth 100000
namespace CA
def J64 (z : Int) : Prop := -9223372036854775808 ≤ z ∧ z ≤ 9223372036854775807
theorem size_list (s : ByteArray) : s.data.toList.length = s.size := by rw [Array.length_toList]; rfl
theorem emp_of {s : ByteArray} (h : (s.size == 0) = true) : s = ByteArray.empty := by
  have : s.size = 0 := by simpa using h
  exact (size_zero s).1 this
theorem zero_of {n : Int} (h : (n == 0) = true) : n = 0 := by simpa using h
/-- What a shape that is there has. -/
theorem shI_pos {no : Int} {L : ByteArray} (h : shI no = some L) : 1 ≤ no ∧ no ≤ 25 ∧ shp no.toNat = some L ∧ un no = no.toNat := by
  have h1 : ¬ (no < 1 ∨ 25 < no) := fun e => by rw [shI_out e] at h; cases h
  refine ⟨by omega, by omega, ?_, by unfold un; omega⟩
  unfold shI at h
  rwa [if_neg (by omega)] at h
theorem suf_LS {m : Nat} {x : List UInt8} (hx : x ∈ LS) (n0 n1 n2 : Int) (s0 s1 : ByteArray) (h : (body x [n0, n1, n2] [s0, s1]).length ≤ m) : suf m x [n0, n1, n2] [s0, s1] := by
  have z0 := size_list s0
  have z1 := size_list s1
  rcases bs_mem hx with rfl | rfl | rfl | rfl | rfl | rfl | rfl | rfl
  · have h2 : (le 4 s0.size ++ s0.data.toList ++ (le 8 (un n0) ++ [])).length ≤ m := h
    simp only [List.length_append, le_length, z0] at h2
    exact ⟨_, _, rfl, by omega, _, _, rfl, trivial⟩
  · exact ⟨_, _, rfl, trivial⟩
  · exact ⟨_, _, rfl, _, _, rfl, trivial⟩
  · have h2 : (le 8 (un n0) ++ (le 4 s0.size ++ s0.data.toList ++ [])).length ≤ m := h
    simp only [List.length_append, le_length, z0] at h2
    exact ⟨_, _, rfl, _, _, rfl, by omega, trivial⟩
  · exact ⟨_, _, rfl, _, _, rfl, _, _, rfl, trivial⟩
  · have h2 : (le 4 s0.size ++ s0.data.toList ++ []).length ≤ m := h
    simp only [List.length_append, le_length, z0] at h2
    exact ⟨_, _, rfl, by omega, trivial⟩
  · have h2 : (le 4 s0.size ++ s0.data.toList ++ (le 4 s1.size ++ s1.data.toList ++ [])).length ≤ m := h
    simp only [List.length_append, le_length, z0, z1] at h2
    exact ⟨_, _, rfl, by omega, _, _, rfl, by omega, trivial⟩
  · trivial
/-- What is used, and that the rest is nothing, is all. -/
theorem use_all {x : List UInt8} (hx : x ∈ LS) (k : Nat) (n0 n1 n2 : Int) (s0 s1 : ByteArray) (y : Nat) (b : Bool) (h0 : J64 n0) (h1 : J64 n1) (h2 : J64 n2) (h : blk x [n0, n1, n2] [s0, s1] = true) :
    callOf k (useN x [n0, n1, n2], useS x [s0, s1], y, b) = cl k n0 n1 n2 s0 s1 := by
  have e0 := si_un h0.1 h0.2
  have e1 := si_un h1.1 h1.2
  have e2 := si_un h2.1 h2.2
  rcases bs_mem hx with rfl | rfl | rfl | rfl | rfl | rfl | rfl | rfl
  · have hb : (([n1, n2] : List Int).all (· == 0) && ([s1] : List ByteArray).all (fun s => s.size == 0)) = true := h
    simp only [List.all_cons, List.all_nil, Bool.and_true, Bool.and_eq_true] at hb
    rw [zero_of hb.1.1, zero_of hb.1.2, emp_of hb.2]
    show cl k (si (un n0)) 0 0 s0 ByteArray.empty = _
    rw [e0]
  · have hb : (([n1, n2] : List Int).all (· == 0) && ([s0, s1] : List ByteArray).all (fun s => s.size == 0)) = true := h
    simp only [List.all_cons, List.all_nil, Bool.and_true, Bool.and_eq_true] at hb
    rw [zero_of hb.1.1, zero_of hb.1.2, emp_of hb.2.1, emp_of hb.2.2]
    show cl k (si (un n0)) 0 0 ByteArray.empty ByteArray.empty = _
    rw [e0]
  · have hb : (([n2] : List Int).all (· == 0) && ([s0, s1] : List ByteArray).all (fun s => s.size == 0)) = true := h
    simp only [List.all_cons, List.all_nil, Bool.and_true, Bool.and_eq_true] at hb
    rw [zero_of hb.1, emp_of hb.2.1, emp_of hb.2.2]
    show cl k (si (un n0)) (si (un n1)) 0 ByteArray.empty ByteArray.empty = _
    rw [e0, e1]
  · have hb : (([n1, n2] : List Int).all (· == 0) && ([s1] : List ByteArray).all (fun s => s.size == 0)) = true := h
    simp only [List.all_cons, List.all_nil, Bool.and_true, Bool.and_eq_true] at hb
    rw [zero_of hb.1.1, zero_of hb.1.2, emp_of hb.2]
    show cl k (si (un n0)) 0 0 s0 ByteArray.empty = _
    rw [e0]
  · have hb : (([] : List Int).all (· == 0) && ([s0, s1] : List ByteArray).all (fun s => s.size == 0)) = true := h
    simp only [List.all_cons, List.all_nil, Bool.and_true, Bool.true_and, Bool.and_eq_true] at hb
    rw [emp_of hb.1, emp_of hb.2]
    show cl k (si (un n0)) (si (un n1)) (si (un n2)) ByteArray.empty ByteArray.empty = _
    rw [e0, e1, e2]
  · have hb : (([n0, n1, n2] : List Int).all (· == 0) && ([s1] : List ByteArray).all (fun s => s.size == 0)) = true := h
    simp only [List.all_cons, List.all_nil, Bool.and_true, Bool.and_eq_true] at hb
    rw [zero_of hb.1.1, zero_of hb.1.2.1, zero_of hb.1.2.2, emp_of hb.2]
    rfl
  · have hb : (([n0, n1, n2] : List Int).all (· == 0) && ([] : List ByteArray).all (fun s => s.size == 0)) = true := h
    simp only [List.all_cons, List.all_nil, Bool.and_true, Bool.and_eq_true] at hb
    rw [zero_of hb.1, zero_of hb.2.1, zero_of hb.2.2]
    rfl
  · have hb : (([n0, n1, n2] : List Int).all (· == 0) && ([s0, s1] : List ByteArray).all (fun s => s.size == 0)) = true := h
    simp only [List.all_cons, List.all_nil, Bool.and_true, Bool.and_eq_true] at hb
    rw [zero_of hb.1.1, zero_of hb.1.2.1, zero_of hb.1.2.2, emp_of hb.2.1, emp_of hb.2.2]
    rfl
/-- A call that has a frame. -/
theorem enc_yes {no n0 n1 n2 : Int} {s0 s1 : ByteArray} (h : encE no [n0, n1, n2] [s0, s1] = 0) : ∃ x ∈ LS, shI no = some (bs x) ∧ 8 + (body x [n0, n1, n2] [s0, s1]).length ≤ 8192 ∧ blk x [n0, n1, n2] [s0, s1] = true ∧
    encS no [n0, n1, n2] [s0, s1] = strOf (le 8 (un no) ++ body x [n0, n1, n2] [s0, s1]) := by
  cases hs : shI no with
  | none => unfold encE at h; rw [hs] at h; cases h
  | some L =>
    obtain ⟨x, hx, rfl⟩ := shI_LS hs
    obtain ⟨e1, e2⟩ := enc_some hs [n0, n1, n2] [s0, s1]
    rw [e2] at h
    have hbs : (bs x).data.toList = x := by simp [bs]
    rw [hbs] at h e1
    by_cases hf : fits x [n0, n1, n2] [s0, s1] = true
    · rw [if_pos hf] at e1
      unfold fits at hf
      rw [Bool.and_eq_true] at hf
      exact ⟨x, hx, rfl, of_decide_eq_true hf.1, hf.2, e1⟩
    · rw [if_neg hf] at h; cases h
theorem enc_no {no n0 n1 n2 : Int} {s0 s1 : ByteArray} (h : encE no [n0, n1, n2] [s0, s1] ≠ 0) : encS no [n0, n1, n2] [s0, s1] = ByteArray.empty := by
  unfold encE at h
  unfold encS
  cases hs : shI no with
  | none => rfl
  | some L =>
    rw [hs] at h
    show (if _ then _ else _) = _
    by_cases hf : fits L.data.toList [n0, n1, n2] [s0, s1] = true
    · exact absurd (if_pos hf) h
    · rw [if_neg hf]
/-- The frame, with bytes behind it, as it is read. -/
theorem read_frame {no n0 n1 n2 : Int} {s0 s1 : ByteArray} {x : List UInt8} (hx : x ∈ LS) (hs : shI no = some (bs x)) (hl : 8 + (body x [n0, n1, n2] [s0, s1]).length ≤ 8192) (post : List UInt8) :
    num ((le 8 (un no) ++ (body x [n0, n1, n2] [s0, s1] ++ post)).take 8) = no.toNat ∧ shp no.toNat = some (bs x) ∧
    rd x (le 8 (un no) ++ (body x [n0, n1, n2] [s0, s1] ++ post)) 8 false = (useN x [n0, n1, n2], useS x [s0, s1], 8 + (body x [n0, n1, n2] [s0, s1]).length, false) := by
  obtain ⟨p1, p2, p3, p4⟩ := shI_pos hs
  refine ⟨?_, p3, ?_⟩
  · rw [take_pre _ _ 8 (le_length 8 _), num_le8 _ (un_lt no), p4]
  · have h := rd_body 8192 (by decide) x [n0, n1, n2] [s0, s1] (le 8 (un no)) post false (suf_LS hx n0 n1 n2 s0 s1 (by omega))
    rw [le_length] at h
    rw [rd_rdm, h]
theorem enc_dec {no n0 n1 n2 : Int} {s0 s1 : ByteArray} (i0 : J64 n0) (i1 : J64 n1) (i2 : J64 n2) (h : encE no [n0, n1, n2] [s0, s1] = 0) : decQ (encS no [n0, n1, n2] [s0, s1]) = (0, cl no n0 n1 n2 s0 s1) := by
  obtain ⟨x, hx, hs, hl, hb, he⟩ := enc_yes h
  obtain ⟨q1, q2, q3⟩ := read_frame (n0 := n0) (n1 := n1) (n2 := n2) (s0 := s0) (s1 := s1) hx hs hl []
  obtain ⟨p1, p2, p3, p4⟩ := shI_pos hs
  rw [List.append_nil] at q1 q3
  have hsz : (encS no [n0, n1, n2] [s0, s1]).size = 8 + (body x [n0, n1, n2] [s0, s1]).length := by rw [he, strOf_size, List.length_append, le_length]
  have hd : (encS no [n0, n1, n2] [s0, s1]).data.toList = le 8 (un no) ++ body x [n0, n1, n2] [s0, s1] := by rw [he, strOf_list]
  have hq := decQ_some (s := encS no [n0, n1, n2] [s0, s1]) (by omega) (by omega) (k := no.toNat) (by rw [hd]; exact q1) q2
  have hbs : (bs x).data.toList = x := by simp [bs]
  rw [hq, hbs, hd, q3]
  have hok : okR (le 8 (un no) ++ body x [n0, n1, n2] [s0, s1]) (useN x [n0, n1, n2], useS x [s0, s1], 8 + (body x [n0, n1, n2] [s0, s1]).length, false) = true := by
    unfold okR
    rw [List.length_append, le_length]
    simp
  rw [if_pos hok, use_all hx no.toNat n0 n1 n2 s0 s1 _ _ i0 i1 i2 hb]
  have : ((no.toNat : Nat) : Int) = no := by omega
  rw [this]
/-- What was read, in full. -/
theorem decQ_zero {s : ByteArray} (h : (decQ s).1 = 0) : ∃ x ∈ LS, ∃ k a t, 8 ≤ s.size ∧ s.size ≤ 8192 ∧ 1 ≤ k ∧ k ≤ 25 ∧ num (s.data.toList.take 8) = k ∧ shp k = some (bs x) ∧ rd x s.data.toList 8 false = (a, t, s.size, false) ∧
    decQ s = (0, callOf k (a, t, s.size, false)) ∧ suf 8192 x a t ∧ ∀ ns' ss', s.data.toList = le 8 k ++ body x (a ++ ns') (t ++ ss') := by
  have hsl := size_list s
  by_cases ho : 8192 < s.size ∨ s.size < 8
  · unfold decQ at h; rw [if_pos ho] at h; cases h
  obtain ⟨k, hk⟩ : ∃ k, num (s.data.toList.take 8) = k := ⟨_, rfl⟩
  cases hs : shp k with
  | none =>
    unfold decQ at h
    rw [if_neg ho, hk, hs] at h
    cases h
  | some L =>
    have hq := decQ_some (by omega) (by omega) hk hs
    have hk2 : 1 ≤ k ∧ k ≤ 25 := by
      refine Decidable.byContradiction fun hn => ?_
      rw [shp_out (by omega)] at hs; cases hs
    obtain ⟨x, hx, rfl⟩ := shI_LS (z := (k : Int)) (by rw [shI_nat]; exact hs)
    have hbs : (bs x).data.toList = x := by simp [bs]
    rw [hbs] at hq
    by_cases hok : okR s.data.toList (rd x s.data.toList 8 false) = true
    · rw [if_pos hok] at hq
      unfold okR at hok
      rw [Bool.and_eq_true, Bool.not_eq_true', decide_eq_true_iff] at hok
      obtain ⟨⟨a, t, y, b⟩, hr⟩ : ∃ r, rd x s.data.toList 8 false = r := ⟨_, rfl⟩
      rw [hr] at hok hq
      obtain ⟨rfl, rfl⟩ : b = false ∧ y = s.size := ⟨hok.1, hok.2.trans hsl⟩
      have hb := rd_back 8192 (by decide) x s.data.toList 8 a t s.size (by rw [← rd_rdm]; exact hr) (by omega)
      refine ⟨x, hx, k, a, t, by omega, by omega, hk2.1, hk2.2, hk, hs, hr, hq, hb.2.2.2, fun ns' ss' => ?_⟩
      have h8 : s.data.toList.take 8 = le 8 k := by rw [← hk, le_num 8 _ (by rw [List.length_take]; omega)]
      have e3 := hb.2.2.1 ns' ss'
      rw [show s.data.toList.drop s.size = [] from List.drop_eq_nil_of_le (by omega), List.append_nil] at e3
      rw [← h8, ← e3, List.take_append_drop]
    · rw [if_neg hok] at hq
      rw [hq] at h; cases h
theorem suf_len {m : Nat} {x : List UInt8} (hx : x ∈ LS) {a : List Int} {t : List ByteArray} (h : suf m x a t) : True := trivial
/-- A frame that was read is the frame of what was read. -/
theorem dec_enc {s : ByteArray} (hm : s.size ≤ maxLen) (h : (decQ s).1 = 0) : ∃ (k : Nat) (n0 n1 n2 : Int) (s0 s1 : ByteArray), k ≤ 25 ∧ s0.size ≤ maxLen ∧ s1.size ≤ maxLen ∧ decQ s = (0, cl k n0 n1 n2 s0 s1) ∧ encE k [n0, n1, n2] [s0, s1] = 0 ∧ encS k [n0, n1, n2] [s0, s1] = s := by
  obtain ⟨x, hx, k, a, t, hs8, hs2, hk1, hk25, hk, hsh, hr, hq, hsuf, hfr⟩ := decQ_zero h
  have hsl := size_list s
  have hun : un (k : Int) = k := by unfold un; omega
  have hshI : shI (k : Int) = some (bs x) := by rw [shI_nat]; exact hsh
  have key : ∀ (n0 n1 n2 : Int) (s0 s1 : ByteArray), s.data.toList = le 8 k ++ body x [n0, n1, n2] [s0, s1] → blk x [n0, n1, n2] [s0, s1] = true → callOf k (a, t, s.size, false) = cl k n0 n1 n2 s0 s1 → s0.size ≤ 8192 → s1.size ≤ 8192 →
      ∃ (k : Nat) (n0 n1 n2 : Int) (s0 s1 : ByteArray), k ≤ 25 ∧ s0.size ≤ maxLen ∧ s1.size ≤ maxLen ∧ decQ s = (0, cl k n0 n1 n2 s0 s1) ∧ encE k [n0, n1, n2] [s0, s1] = 0 ∧ encS k [n0, n1, n2] [s0, s1] = s := by
    intro n0 n1 n2 s0 s1 hb1 hb2 hb3 hb4 hb5
    have hbs : (bs x).data.toList = x := by simp [bs]
    obtain ⟨e1, e2⟩ := enc_some hshI [n0, n1, n2] [s0, s1]
    have hf : fits x [n0, n1, n2] [s0, s1] = true := by
      unfold fits
      have : s.data.toList.length = 8 + (body x [n0, n1, n2] [s0, s1]).length := by rw [hb1, List.length_append, le_length]
      rw [hb2, Bool.and_true]
      exact decide_eq_true (by omega)
    rw [hbs, hf, if_pos rfl] at e1 e2
    refine ⟨k, n0, n1, n2, s0, s1, hk25, by unfold maxLen; omega, by unfold maxLen; omega, by rw [hq, hb3], e2, ?_⟩
    rw [e1, hun, ← hb1, strOf_of]
  have h00 : (ByteArray.empty).size ≤ 8192 := by decide
  rcases bs_mem hx with rfl | rfl | rfl | rfl | rfl | rfl | rfl | rfl
  · obtain ⟨s0, t', rfl, hz0, n0, a', rfl, -⟩ := hsuf
    rw [rd_rdm] at hr
    have ha : a' = [] := List.eq_nil_of_length_eq_zero (by have := congrArg (fun r => r.1.length) hr; simp [rdm] at this; first | omega | simpa using this | simpa using this.symm)
    have ht : t' = [] := List.eq_nil_of_length_eq_zero (by have := congrArg (fun r => r.2.1.length) hr; simp [rdm] at this; first | omega | simpa using this | simpa using this.symm)
    subst ha; subst ht
    exact key n0 0 0 s0 ByteArray.empty (hfr [0, 0] [ByteArray.empty]) rfl rfl hz0 h00
  · obtain ⟨n0, a', rfl, -⟩ := hsuf
    rw [rd_rdm] at hr
    have ha : a' = [] := List.eq_nil_of_length_eq_zero (by have := congrArg (fun r => r.1.length) hr; simp [rdm] at this; first | omega | simpa using this | simpa using this.symm)
    have ht : t = [] := List.eq_nil_of_length_eq_zero (by have := congrArg (fun r => r.2.1.length) hr; simp [rdm] at this; first | omega | simpa using this | simpa using this.symm)
    subst ha; subst ht
    exact key n0 0 0 ByteArray.empty ByteArray.empty (hfr [0, 0] [ByteArray.empty, ByteArray.empty]) rfl rfl h00 h00
  · obtain ⟨n0, a', rfl, n1, a'', rfl, -⟩ := hsuf
    rw [rd_rdm] at hr
    have ha : a'' = [] := List.eq_nil_of_length_eq_zero (by have := congrArg (fun r => r.1.length) hr; simp [rdm] at this; first | omega | simpa using this | simpa using this.symm)
    have ht : t = [] := List.eq_nil_of_length_eq_zero (by have := congrArg (fun r => r.2.1.length) hr; simp [rdm] at this; first | omega | simpa using this | simpa using this.symm)
    subst ha; subst ht
    exact key n0 n1 0 ByteArray.empty ByteArray.empty (hfr [0] [ByteArray.empty, ByteArray.empty]) rfl rfl h00 h00
  · obtain ⟨n0, a', rfl, s0, t', rfl, hz0, -⟩ := hsuf
    rw [rd_rdm] at hr
    have ha : a' = [] := List.eq_nil_of_length_eq_zero (by have := congrArg (fun r => r.1.length) hr; simp [rdm] at this; first | omega | simpa using this | simpa using this.symm)
    have ht : t' = [] := List.eq_nil_of_length_eq_zero (by have := congrArg (fun r => r.2.1.length) hr; simp [rdm] at this; first | omega | simpa using this | simpa using this.symm)
    subst ha; subst ht
    exact key n0 0 0 s0 ByteArray.empty (hfr [0, 0] [ByteArray.empty]) rfl rfl hz0 h00
  · obtain ⟨n0, a', rfl, n1, a'', rfl, n2, a3, rfl, -⟩ := hsuf
    rw [rd_rdm] at hr
    have ha : a3 = [] := List.eq_nil_of_length_eq_zero (by have := congrArg (fun r => r.1.length) hr; simp [rdm] at this; first | omega | simpa using this | simpa using this.symm)
    have ht : t = [] := List.eq_nil_of_length_eq_zero (by have := congrArg (fun r => r.2.1.length) hr; simp [rdm] at this; first | omega | simpa using this | simpa using this.symm)
    subst ha; subst ht
    exact key n0 n1 n2 ByteArray.empty ByteArray.empty (hfr [] [ByteArray.empty, ByteArray.empty]) rfl rfl h00 h00
  · obtain ⟨s0, t', rfl, hz0, -⟩ := hsuf
    rw [rd_rdm] at hr
    have ha : a = [] := List.eq_nil_of_length_eq_zero (by have := congrArg (fun r => r.1.length) hr; simp [rdm] at this; first | omega | simpa using this | simpa using this.symm)
    have ht : t' = [] := List.eq_nil_of_length_eq_zero (by have := congrArg (fun r => r.2.1.length) hr; simp [rdm] at this; first | omega | simpa using this | simpa using this.symm)
    subst ha; subst ht
    exact key 0 0 0 s0 ByteArray.empty (hfr [0, 0, 0] [ByteArray.empty]) rfl rfl hz0 h00
  · obtain ⟨s0, t', rfl, hz0, s1, t'', rfl, hz1, -⟩ := hsuf
    rw [rd_rdm] at hr
    have ha : a = [] := List.eq_nil_of_length_eq_zero (by have := congrArg (fun r => r.1.length) hr; simp [rdm] at this; first | omega | simpa using this | simpa using this.symm)
    have ht : t'' = [] := List.eq_nil_of_length_eq_zero (by have := congrArg (fun r => r.2.1.length) hr; simp [rdm] at this; first | omega | simpa using this | simpa using this.symm)
    subst ha; subst ht
    exact key 0 0 0 s0 s1 (hfr [0, 0, 0] []) rfl rfl hz0 hz1
  · rw [rd_rdm] at hr
    have ha : a = [] := List.eq_nil_of_length_eq_zero (by have := congrArg (fun r => r.1.length) hr; simp [rdm] at this; first | omega | simpa using this | simpa using this.symm)
    have ht : t = [] := List.eq_nil_of_length_eq_zero (by have := congrArg (fun r => r.2.1.length) hr; simp [rdm] at this; first | omega | simpa using this | simpa using this.symm)
    subst ha; subst ht
    exact key 0 0 0 ByteArray.empty ByteArray.empty (hfr [0, 0, 0] [ByteArray.empty, ByteArray.empty]) rfl rfl h00 h00
/-- What decQ answers is a call, whatever was read. -/
theorem decQ_form (s : ByteArray) : (decQ s).1 = 0 ∨ decQ s = (2, zc) ∨ decQ s = (10, zc) := by
  unfold decQ
  split
  · exact .inr (.inl rfl)
  · split
    · exact .inr (.inr rfl)
    · split
      · exact .inl rfl
      · exact .inr (.inl rfl)
/-- A frame with bytes behind it is none. -/
theorem enc_behind {no n0 n1 n2 : Int} {s0 s1 : ByteArray} (h : encE no [n0, n1, n2] [s0, s1] = 0) (s : ByteArray) (p : List UInt8) (hp : p ≠ []) (hs : s.data.toList = (encS no [n0, n1, n2] [s0, s1]).data.toList ++ p) : decQ s = (2, zc) := by
  obtain ⟨x, hx, hsh, hl, hb, he⟩ := enc_yes h
  have hsl := size_list s
  have hd : (encS no [n0, n1, n2] [s0, s1]).data.toList = le 8 (un no) ++ body x [n0, n1, n2] [s0, s1] := by rw [he, strOf_list]
  rw [hd, List.append_assoc] at hs
  obtain ⟨q1, q2, q3⟩ := read_frame (n0 := n0) (n1 := n1) (n2 := n2) (s0 := s0) (s1 := s1) hx hsh hl p
  rw [← hs] at q1 q3
  have hlen : s.size = 8 + (body x [n0, n1, n2] [s0, s1]).length + p.length := by rw [← hsl, hs]; simp only [List.length_append, le_length]; omega
  have hpl : 0 < p.length := List.length_pos_iff.2 hp
  by_cases ho : 8192 < s.size
  · unfold decQ; rw [if_pos (Or.inl ho)]
  · have hq := decQ_some (by omega) (by omega) q1 q2
    have hbs : (bs x).data.toList = x := by simp [bs]
    rw [hq, hbs, q3, if_neg]
    unfold okR
    rw [Bool.and_eq_true, decide_eq_true_iff]
    intro e
    have := e.2
    simp only at this
    omega
/-- No beginning of a frame is one. -/
theorem enc_ahead {no n0 n1 n2 : Int} {s0 s1 : ByteArray} (h : encE no [n0, n1, n2] [s0, s1] = 0) (s : ByteArray) (j : Nat) (hj : j < (encS no [n0, n1, n2] [s0, s1]).size) (hs : s.data.toList = (encS no [n0, n1, n2] [s0, s1]).data.toList.take j) : decQ s = (2, zc) := by
  obtain ⟨x, hx, hsh, hl, hb, he⟩ := enc_yes h
  have hsl := size_list s
  have hd : (encS no [n0, n1, n2] [s0, s1]).data.toList = le 8 (un no) ++ body x [n0, n1, n2] [s0, s1] := by rw [he, strOf_list]
  have hsz : (encS no [n0, n1, n2] [s0, s1]).size = 8 + (body x [n0, n1, n2] [s0, s1]).length := by rw [he, strOf_size, List.length_append, le_length]
  have hss : s.size = j := by
    rw [← hsl, hs, List.length_take, hd, List.length_append, le_length]; omega
  rcases decQ_form s with h0 | h2 | h10
  · obtain ⟨x', hx', k, a, t, hs8, hs2, hk1, hk25, hk, hsh', hr, hq, hsuf, hfr⟩ := decQ_zero h0
    exfalso
    -- the whole frame begins with this one
    have hw : (encS no [n0, n1, n2] [s0, s1]).data.toList = s.data.toList ++ (encS no [n0, n1, n2] [s0, s1]).data.toList.drop j := by rw [hs, List.take_append_drop]
    obtain ⟨q1, q2, q3⟩ := read_frame (n0 := n0) (n1 := n1) (n2 := n2) (s0 := s0) (s1 := s1) hx hsh hl []
    rw [List.append_nil, ← hd] at q1 q3
    have ek : k = no.toNat := by
      rw [← hk, ← q1]
      congr 1
      rw [hw, List.take_append_of_le_length (by omega)]
    have ex : x' = x := by
      rw [ek, q2] at hsh'
      have := Option.some.inj hsh'
      have h1 : (bs x).data.toList = (bs x').data.toList := by rw [this]
      simpa [bs] using h1.symm
    subst ex
    have e0 := hfr [] []
    rw [List.append_nil, List.append_nil] at e0
    have hrb := rd_body 8192 (by decide) x' a t (le 8 k) ((encS no [n0, n1, n2] [s0, s1]).data.toList.drop j) false hsuf
    rw [← List.append_assoc, ← e0, ← hw, le_length, ← rd_rdm, q3] at hrb
    have h3 := congrArg (fun r => r.2.2.1) hrb
    simp only at h3
    have h4 : s.data.toList.length = 8 + (body x' a t).length := by rw [e0, List.length_append, le_length]
    omega
  · exact h2
  · exfalso
    -- ErrNoSys is not for the beginning of a frame
    by_cases ho : 8192 < s.size ∨ s.size < 8
    · unfold decQ at h10; rw [if_pos ho] at h10; cases h10
    · obtain ⟨q1, q2, q3⟩ := read_frame (n0 := n0) (n1 := n1) (n2 := n2) (s0 := s0) (s1 := s1) hx hsh hl []
      rw [List.append_nil, ← hd] at q1
      have hk : num (s.data.toList.take 8) = no.toNat := by
        rw [← q1]
        congr 1
        rw [hs, List.take_take, Nat.min_eq_left (by omega)]
      have hq := decQ_some (s := s) (by omega) (by omega) hk q2
      rw [h10] at hq
      split at hq
      · cases hq
      · cases hq
/-- What DecodeReply reads, as a shape of two numbers and a text. -/
theorem dok_rdm (l : List UInt8) (h : dok l = true) : rdm 1048576 [110, 110, 116] l 0 false = ([si (nvl l 0), si (nvl l (nat_ l 0))], [tvl l (nat_ l (nat_ l 0)) 1048576], l.length, false) ∧ nvl l 0 < 2147483648 := by
  unfold dok at h
  simp only [Bool.and_eq_true, decide_eq_true_iff] at h
  obtain ⟨h1, h2, h3, h4, h5⟩ := h
  refine ⟨?_, h5⟩
  show (si (nvl l 0) :: [si (nvl l (nat_ l 0))], [tvl l (nat_ l (nat_ l 0)) 1048576], tat l (nat_ l (nat_ l 0)) 1048576, (((false || !nok l 0) || !nok l (nat_ l 0)) || !tok l (nat_ l (nat_ l 0)) 1048576)) = _
  rw [h1, h2, h3, h4]
  rfl
theorem rep_dec {c n : Int} {s : ByteArray} (hn : J64 n) (h : repE c s = 0) (hc : c < 2147483648) : drQ (repS c n s) = (0, rv c n s) := by
  have hf : rfit c s = true := by
    unfold repE at h
    by_cases e : rfit c s = true
    · exact e
    · rw [if_neg e] at h; cases h
  have hs : 0 ≤ c ∧ s.size ≤ 1048576 := by unfold rfit at hf; exact of_decide_eq_true hf
  have hS : repS c n s = strOf (rbody c n s) := by unfold repS; rw [if_pos hf]
  have hb := rd_body 1048576 (by decide) [110, 110, 116] [c, n] [s] [] [] false ⟨c, [n], rfl, n, [], rfl, s, [], rfl, hs.2, trivial⟩
  have hbe : ([] : List UInt8) ++ (body [110, 110, 116] [c, n] [s] ++ []) = rbody c n s := by
    show le 8 (un c) ++ (le 8 (un n) ++ (le 4 s.size ++ s.data.toList ++ [])) ++ [] = _
    unfold rbody
    simp only [List.append_nil]
  rw [hbe] at hb
  have hbl : (body [110, 110, 116] [c, n] [s]).length = (rbody c n s).length := by rw [← hbe]; simp
  rw [hbl] at hb
  generalize hl : rbody c n s = l at hb hS
  have hb2 : (si (nvl l 0) :: [si (nvl l (nat_ l 0))], [tvl l (nat_ l (nat_ l 0)) 1048576], tat l (nat_ l (nat_ l 0)) 1048576, (((false || !nok l 0) || !nok l (nat_ l 0)) || !tok l (nat_ l (nat_ l 0)) 1048576)) = ([si (un c), si (un n)], [s], ([] : List UInt8).length + l.length, false) := hb
  simp only [Prod.mk.injEq, List.cons.injEq, and_true, List.length_nil, Nat.zero_add, Bool.or_eq_false_iff, Bool.not_eq_false', Bool.false_or] at hb2
  obtain ⟨⟨g1, g2⟩, g3, g4, ⟨g5, g6⟩, g7⟩ := hb2
  have hv0 : nvl l 0 = un c := by
    have := congrArg un g1
    rwa [un_si (nvl_lt _ _), un_si (un_lt _)] at this
  have huc : un c = c.toNat := by unfold un; omega
  have hd : (repS c n s).data.toList = l := by rw [hS, strOf_list]
  unfold drQ
  rw [hd]
  have hok : dok l = true := by
    unfold dok
    rw [g5, g6, g7, g4, hv0, huc]
    simp; omega
  rw [if_pos hok, hv0, g2, g3, si_un hn.1 hn.2, huc]
  have : ((c.toNat : Nat) : Int) = c := by omega
  rw [this]
theorem dec_rep {s : ByteArray} (hm : s.size ≤ maxLen) (h : (drQ s).1 = 0) : ∃ (c n : Int) (t : ByteArray), t.size ≤ maxLen ∧ drQ s = (0, rv c n t) ∧ repE c t = 0 ∧ repS c n t = s := by
  have hsl := size_list s
  obtain ⟨l, hl⟩ : ∃ l, s.data.toList = l := ⟨_, rfl⟩
  unfold drQ at h
  have hq : drQ s = if dok l = true then (0, rv (nvl l 0) (si (nvl l (nat_ l 0))) (tvl l (nat_ l (nat_ l 0)) 1048576)) else (2, zr) := by unfold drQ; rw [hl]
  rw [hl] at h hsl
  by_cases hok : dok l = true
  · rw [if_pos hok] at hq
    obtain ⟨hr, hv⟩ := dok_rdm l hok
    obtain ⟨-, -, i3, i4⟩ := rd_back 1048576 (by decide) _ _ _ _ _ _ hr (Nat.zero_le _)
    have e := i3 [] []
    rw [List.drop_zero, show l.drop l.length = [] from List.drop_eq_nil_of_le (Nat.le_refl _)] at e
    have hts : (tvl l (nat_ l (nat_ l 0)) 1048576).size ≤ 1048576 := by
      obtain ⟨_, _, e1, _, _, e2, t, _, e3, h3, -⟩ := i4
      have := List.cons.inj e3
      rw [this.1]; exact h3
    have hsc : si (nvl l 0) = (nvl l 0 : Nat) := by unfold si; rw [if_pos (by omega)]
    have hf : rfit (nvl l 0 : Nat) (tvl l (nat_ l (nat_ l 0)) 1048576) = true := by unfold rfit; exact decide_eq_true ⟨by omega, hts⟩
    refine ⟨(nvl l 0 : Nat), si (nvl l (nat_ l 0)), tvl l (nat_ l (nat_ l 0)) 1048576, by unfold maxLen; omega, hq, by unfold repE; rw [if_pos hf], ?_⟩
    unfold repS
    rw [if_pos hf]
    have e2 : l = rbody (nvl l 0 : Nat) (si (nvl l (nat_ l 0))) (tvl l (nat_ l (nat_ l 0)) 1048576) := by
      have e3 : l = le 8 (un (si (nvl l 0))) ++ (le 8 (un (si (nvl l (nat_ l 0)))) ++ (le 4 (tvl l (nat_ l (nat_ l 0)) 1048576).size ++ (tvl l (nat_ l (nat_ l 0)) 1048576).data.toList ++ [])) ++ [] := e
      rw [hsc] at e3
      unfold rbody
      simpa only [List.append_nil] using e3
    rw [← e2, ← hl, strOf_of]
  · rw [if_neg hok] at h; cases h
theorem drQ_form (s : ByteArray) : (drQ s).1 = 0 ∨ drQ s = (2, zr) := by
  unfold drQ
  split
  · exact .inl rfl
  · exact .inr rfl
end CA
end Go.Proofs.Ytmhikoblaejhhaa

/- Layer 15: turns: who runs next, how often. -/
import Derived.Test.YtondgjgfmngadaaSchRan
namespace Go.Proofs.Ytondgjgfmngadaa
set_option linter.unusedVariables false
set_option linter.unusedSimpArgs false
set_option maxRecDepth 100000
namespace SD
/-- The lists above one. -/
def above (f : Nat → List Int) : Nat → List Int
  | 0 => f 1 ++ (f 2 ++ (f 3 ++ f 4))
  | 1 => f 2 ++ (f 3 ++ f 4)
  | 2 => f 3 ++ f 4
  | 3 => f 4
  | _ => []
theorem ready_at {S : Qs} {k : Nat} (hk : k < 5) (h : ∀ j, j < k → lst S.P S.L j = []) : ready S = lst S.P S.L k ++ above (lst S.P S.L) k := by
  unfold ready
  have : k = 0 ∨ k = 1 ∨ k = 2 ∨ k = 3 ∨ k = 4 := by omega
  rcases this with rfl | rfl | rfl | rfl | rfl
  · rfl
  · rw [h 0 (by omega)]; rfl
  · rw [h 0 (by omega), h 1 (by omega)]; rfl
  · rw [h 0 (by omega), h 1 (by omega), h 2 (by omega)]; rfl
  · rw [h 0 (by omega), h 1 (by omega), h 2 (by omega), h 3 (by omega)]; simp [above]
theorem above_congr {f g : Nat → List Int} {k : Nat} (h : ∀ j, k < j → j < 5 → f j = g j) : above f k = above g k := by
  match k with
  | 0 => simp only [above]; rw [h 1 (by omega) (by omega), h 2 (by omega) (by omega), h 3 (by omega) (by omega), h 4 (by omega) (by omega)]
  | 1 => simp only [above]; rw [h 2 (by omega) (by omega), h 3 (by omega) (by omega), h 4 (by omega) (by omega)]
  | 2 => simp only [above]; rw [h 3 (by omega) (by omega), h 4 (by omega) (by omega)]
  | 3 => simp only [above]; rw [h 4 (by omega) (by omega)]
  | _ + 4 => rfl
/-- A queue whose first list that is not empty is number k, and what stands in it and above it. -/
structure Lv (c : Nat) (S : Qs) (k : Nat) (A B : List Int) : Prop where
  good : Good c S
  lt : k < 5
  low : ∀ j, j < k → lst S.P S.L j = []
  at_ : lst S.P S.L k = A
  up : above (lst S.P S.L) k = B
theorem Lv.ready {c : Nat} {S : Qs} {k : Nat} {A B : List Int} (h : Lv c S k A B) : ready S = A ++ B := by rw [ready_at h.lt h.low, h.at_, h.up]
theorem Lv.next {c : Nat} {S : Qs} {k : Nat} {p : Int} {A B : List Int} (h : Lv c S k (p :: A) B) : ∃ S', nextR S = ((p, 0), S') ∧ Lv c S' k (A ++ [p]) B := by
  have hr := h.ready
  have hpm : p ∈ lst S.P S.L k := by rw [h.at_]; simp
  obtain ⟨x, hx, -, hlv⟩ := (lst_mem h.good).1 hpm
  have hpL : p ∈ S.L := (mem_lst.1 hpm).1
  have hl : ∀ j, lst (runP S.P p) (off S.L p ++ [p]) j = if k = j then off (lst S.P S.L j) p ++ [p] else off (lst S.P S.L j) p := fun j => by
    rw [lsts_run, lst_app, lst_off, levP_some hx, hlv]
  have hoff : ∀ j, j ≠ k → off (lst S.P S.L j) p = lst S.P S.L j := fun j hj => off_lst h.good hx (.inr (by rw [hlv]; exact fun e => hj e.symm))
  have hnd : (lst S.P S.L k).Nodup := h.good.nd.sublist List.filter_sublist
  rw [h.at_] at hnd
  have hpA : p ∉ A := (List.nodup_cons.1 hnd).1
  refine ⟨⟨runP S.P p, off S.L p ++ [p]⟩, by unfold nextR; rw [hr]; rfl, good_next h.good hpL, h.lt, fun j hj => ?_, ?_, ?_⟩
  · show lst (runP S.P p) (off S.L p ++ [p]) j = []
    rw [hl, if_neg (by omega), hoff j (by omega), h.low j hj]
  · show lst (runP S.P p) (off S.L p ++ [p]) k = _
    rw [hl, if_pos rfl, h.at_]
    have : off (p :: A) p = A := by
      show (p :: A).filter _ = A
      rw [List.filter_cons]
      simp only [ne_eq, not_true_eq_false, decide_false, Bool.false_eq_true, if_false]
      exact off_same hpA
    rw [this]
  · rw [← h.up]
    exact above_congr fun j hj _ => by
      show lst (runP S.P p) (off S.L p ++ [p]) j = _
      rw [hl, if_neg (by omega), hoff j (by omega)]
theorem Lv.find {c : Nat} {S : Qs} (h : Good c S) (h0 : SD.ready S ≠ []) : ∃ k A B, Lv c S k A B ∧ A ≠ [] := by
  by_cases e0 : lst S.P S.L 0 = []
  · by_cases e1 : lst S.P S.L 1 = []
    · by_cases e2 : lst S.P S.L 2 = []
      · by_cases e3 : lst S.P S.L 3 = []
        · refine ⟨4, _, _, ⟨h, by omega, fun j hj => ?_, rfl, rfl⟩, fun e => h0 ?_⟩
          · have : j = 0 ∨ j = 1 ∨ j = 2 ∨ j = 3 := by omega
            rcases this with rfl | rfl | rfl | rfl <;> assumption
          · unfold SD.ready; rw [e0, e1, e2, e3, e]; rfl
        · refine ⟨3, _, _, ⟨h, by omega, fun j hj => ?_, rfl, rfl⟩, e3⟩
          have : j = 0 ∨ j = 1 ∨ j = 2 := by omega
          rcases this with rfl | rfl | rfl <;> assumption
      · refine ⟨2, _, _, ⟨h, by omega, fun j hj => ?_, rfl, rfl⟩, e2⟩
        have : j = 0 ∨ j = 1 := by omega
        rcases this with rfl | rfl <;> assumption
    · refine ⟨1, _, _, ⟨h, by omega, fun j hj => ?_, rfl, rfl⟩, e1⟩
      obtain rfl : j = 0 := by omega
      assumption
  · exact ⟨0, _, _, ⟨h, by omega, fun j hj => by omega, rfl, rfl⟩, e0⟩
theorem lst_nd {c : Nat} {S : Qs} (h : Good c S) (k : Nat) : (lst S.P S.L k).Nodup := h.nd.sublist List.filter_sublist
theorem ready_nd {c : Nat} {S : Qs} (h : Good c S) : (ready S).Nodup := by
  have hd : ∀ {j k : Nat} {a b : Int}, j ≠ k → a ∈ lst S.P S.L j → b ∈ lst S.P S.L k → a ≠ b := fun hjk ha hb e => by
    subst e
    exact hjk ((mem_lst.1 ha).2.symm.trans (mem_lst.1 hb).2)
  unfold ready
  refine List.nodup_append.2 ⟨lst_nd h 0, List.nodup_append.2 ⟨lst_nd h 1, List.nodup_append.2 ⟨lst_nd h 2, List.nodup_append.2 ⟨lst_nd h 3, lst_nd h 4, fun a ha b hb => hd (by omega) ha hb⟩, fun a ha b hb => ?_⟩, fun a ha b hb => ?_⟩, fun a ha b hb => ?_⟩
  · rcases List.mem_append.1 hb with hb | hb
    · exact hd (by omega) ha hb
    · exact hd (by omega) ha hb
  · rcases List.mem_append.1 hb with hb | hb
    · exact hd (by omega) ha hb
    · rcases List.mem_append.1 hb with hb | hb
      · exact hd (by omega) ha hb
      · exact hd (by omega) ha hb
  · rcases List.mem_append.1 hb with hb | hb
    · exact hd (by omega) ha hb
    · rcases List.mem_append.1 hb with hb | hb
      · exact hd (by omega) ha hb
      · rcases List.mem_append.1 hb with hb | hb
        · exact hd (by omega) ha hb
        · exact hd (by omega) ha hb
/-- A list turned. -/
def rot (A : List Int) (i : Nat) : List Int := A.drop i ++ A.take i
theorem rot_head {A : List Int} {i : Nat} (hi : i < A.length) : rot A i = A[i] :: (A.drop (i + 1) ++ A.take i) := by
  unfold rot
  rw [List.drop_eq_getElem_cons hi]
  rfl
theorem rot_next {A : List Int} {i : Nat} (hi : i < A.length) : (A.drop (i + 1) ++ A.take i) ++ [A[i]] = rot A (i + 1) := by
  unfold rot
  rw [List.take_succ_eq_append_getElem hi, List.append_assoc]
theorem rot_all (A : List Int) : rot A A.length = rot A 0 := by simp [rot]
/-- How often each one ran: in q full rounds of n, and i turns more. -/
def cnt (n q i j : Nat) : Nat := if j < n then q + (if j < i then 1 else 0) else 0
def cnts (n N q i : Nat) : List Int := (List.range N).map fun j => ((cnt n q i j : Nat) : Int)
theorem cnts_len (n N q i : Nat) : (cnts n N q i).length = N := by simp [cnts]
theorem cnts_get (n N q i : Nat) {j : Nat} (hj : j < N) : (cnts n N q i)[j]'(by rw [cnts_len]; exact hj) = ((cnt n q i j : Nat) : Int) := by simp [cnts]
theorem cnts_step {n N q i : Nat} (hi : i < n) (hn : n ≤ N) : (cnts n N q i).set i ((cnt n q i i : Nat) + 1) = cnts n N q (i + 1) := by
  refine List.ext_getElem (by rw [List.length_set, cnts_len, cnts_len]) fun j h1 h2 => ?_
  rw [cnts_len] at h2
  rw [List.getElem_set]
  split
  · rename_i e
    subst e
    rw [cnts_get _ _ _ _ h2]
    unfold cnt
    simp [hi]
  · rename_i e
    rw [cnts_get _ _ _ _ h2, cnts_get _ _ _ _ h2]
    congr 1
    unfold cnt
    by_cases hjn : j < n
    · rw [if_pos hjn, if_pos hjn]
      by_cases hji : j < i
      · rw [if_pos hji, if_pos (by omega)]
      · rw [if_neg hji, if_neg (by omega)]
    · rw [if_neg hjn, if_neg hjn]
theorem cnts_round (n N q : Nat) : cnts n N q n = cnts n N (q + 1) 0 := by
  unfold cnts
  refine List.map_congr_left fun j _ => ?_
  congr 1
  unfold cnt
  by_cases hjn : j < n <;> simp [hjn]
theorem cnts_zero (n N : Nat) : cnts n N 0 0 = List.replicate N 0 := by
  refine List.ext_getElem (by rw [cnts_len, List.length_replicate]) fun j h1 h2 => ?_
  rw [cnts_len] at h1
  rw [cnts_get _ _ _ _ h1, List.getElem_replicate]
  unfold cnt
  simp
/-- The first so many of them together. -/
def tot (n q i k : Nat) : Nat := q * min k n + min (min k n) i
theorem tot_step (n q i k : Nat) (hi : i ≤ n) : tot n q i (k + 1) = tot n q i k + cnt n q i k := by
  unfold tot cnt
  by_cases hk : k < n
  · rw [if_pos hk, Nat.min_eq_left (show k + 1 ≤ n by omega), Nat.min_eq_left (show k ≤ n by omega), Nat.mul_succ]
    by_cases hki : k < i
    · rw [if_pos hki, Nat.min_eq_left (show k + 1 ≤ i by omega), Nat.min_eq_left (show k ≤ i by omega)]; omega
    · rw [if_neg hki, Nat.min_eq_right (show i ≤ k + 1 by omega), Nat.min_eq_right (show i ≤ k by omega)]; omega
  · rw [if_neg hk, Nat.min_eq_right (show n ≤ k + 1 by omega), Nat.min_eq_right (show n ≤ k by omega)]; omega
theorem tot_all {n N q i : Nat} (hi : i ≤ n) (hn : n ≤ N) : tot n q i N = q * n + i := by
  unfold tot
  rw [Nat.min_eq_right hn, Nat.min_eq_right hi]
/-- How many ran at all. -/
def fst (n q i : Nat) : Nat := if q = 0 then i else n
theorem fst_le {n q i : Nat} (hi : i ≤ n) : fst n q i ≤ n := by unfold fst; split <;> omega
theorem fst_pos {n q i j : Nat} (hi : i ≤ n) (h : j < fst n q i) : 0 < cnt n q i j := by
  unfold fst at h
  unfold cnt
  split at h
  · rw [if_pos (by omega), if_pos h]; omega
  · rw [if_pos h]; omega
theorem fst_zero {n q i j : Nat} (hi : i ≤ n) (h : fst n q i ≤ j) : cnt n q i j = 0 := by
  unfold fst at h
  unfold cnt
  split at h
  · rename_i e
    subst e
    by_cases hjn : j < n
    · rw [if_pos hjn, if_neg (by omega)]
    · rw [if_neg hjn]
  · rw [if_neg (by omega)]
theorem cnt_near {n q i k : Nat} (hk : k + 1 < n) : cnt n q i k = cnt n q i (k + 1) ∨ cnt n q i k = cnt n q i (k + 1) + 1 := by
  unfold cnt
  rw [if_pos (by omega), if_pos hk]
  by_cases h1 : k + 1 < i
  · rw [if_pos (by omega), if_pos h1]; exact .inl rfl
  · rw [if_neg h1]
    by_cases h2 : k < i
    · rw [if_pos h2]; exact .inr rfl
    · rw [if_neg h2]; exact .inl rfl
end SD
end Go.Proofs.Ytondgjgfmngadaa

/- Plain facts about addresses' places and the words of page tables' entries. No program in sight. -/
import Derived.Test.YthiojnbnhagcgaaDoorWordMath
namespace Go.Proofs.YthiojnbnhagcgaaDoor
namespace EN

/-! Places of an address. -/
/-- How far apart the addresses of a level's neighbours are. -/
def sz (k : Nat) : Nat := 4096 * 512 ^ k
def idx (va l : Nat) : Nat := va / sz (l - 1) % 512

theorem sz_succ (k : Nat) : sz (k + 1) = sz k * 512 := by unfold sz; rw [Nat.pow_succ, Nat.mul_assoc]
theorem sz_pos (k : Nat) : 0 < sz k := Nat.mul_pos (by decide) (Nat.pow_pos (by decide))
theorem sz_le (k : Nat) (h : k ≤ 4) : sz k ≤ 281474976710656 := by
  rcases (by omega : k = 0 ∨ k = 1 ∨ k = 2 ∨ k = 3 ∨ k = 4) with rfl | rfl | rfl | rfl | rfl <;> decide
theorem idx_lt (va l : Nat) : idx va l < 512 := Nat.mod_lt _ (by decide)
theorem idx_take (va l : Nat) (h1 : 1 ≤ l) (h4 : l ≤ 4) : WM.take va (12 + 9 * (l - 1)) 9 = idx va l := by
  unfold WM.take idx
  rcases (by omega : l = 1 ∨ l = 2 ∨ l = 3 ∨ l = 4) with rfl | rfl | rfl | rfl <;> rfl
/-- The sum of the places below a level. -/
def low (va k : Nat) : Nat := va % sz k
theorem low_succ (va k : Nat) : low va (k + 1) = low va k + idx va (k + 1) * sz k := by
  unfold low idx
  rw [sz_succ, Nat.mod_mul, show k + 1 - 1 = k by omega, Nat.mul_comm (sz k)]
theorem low_lt (va k : Nat) : low va k < sz k := Nat.mod_lt _ (sz_pos k)
theorem low_all (va : Nat) (h : va < 140737488355328) : low va 4 = va := by
  unfold low; exact Nat.mod_eq_of_lt (Nat.lt_trans h (by decide))
theorem low_zero (va : Nat) : low va 0 = va % 4096 := rfl
theorem div_sz (va k : Nat) : va / 512 ^ k / 4096 = va / sz k := by
  unfold sz; rw [Nat.div_div_eq_div_mul, Nat.mul_comm]
theorem div_succ (va k : Nat) : va / 512 ^ k / 512 = va / 512 ^ (k + 1) := by
  rw [Nat.div_div_eq_div_mul, Nat.pow_succ]

/-! Words of entries. -/
def perms (P : Int) : Prop := P = 1 ∨ P = 3 ∨ P = 5 ∨ P = 7
/-- A valid entry at a level. -/
def right (T H : Bool) (P : Int) (F : Nat) (L : Int) : Prop :=
  1 ≤ L ∧ L ≤ 4 ∧ F < 68719476736 ∧ ((T = true ∧ 2 ≤ L ∧ H = false ∧ P = 7) ∨ (T = false ∧ perms P ∧ ((H = false ∧ L = 1) ∨ (H = true ∧ L = 2 ∧ F % 512 = 0))))
/-- Its word. -/
def wd (H : Bool) (P : Int) (F : Nat) : Nat :=
  5 + 4096 * F + (if P = 3 ∨ P = 7 then 2 else 0) + (if H = true then 128 else 0) + (if P < 4 then 9223372036854775808 else 0)
def perm (w : Nat) : Int := 1 + (if w / 2 % 2 = 1 then 2 else 0) + (if w / 9223372036854775808 = 0 then 4 else 0)
def frame (w : Nat) : Nat := w / 4096 % 68719476736
def page (w : Nat) : Bool := decide (w % 2 = 1 ∧ w / 4 % 1024 = 1 ∧ w / 281474976710656 % 32768 = 0)
def huge (w : Nat) : Bool := decide (w % 2 = 1 ∧ w / 4 % 524288 = 33 ∧ w / 281474976710656 % 32768 = 0)
def table (w : Nat) : Bool := decide (w % 4096 = 7 ∧ w / 281474976710656 = 0)
/-- The entry that a word says at a level. -/
def rd (w : Nat) (L : Int) : Option (Bool × Bool × Int × Nat) :=
  if L = 1 ∧ page w = true then some (false, false, perm w, frame w)
  else if L = 2 ∧ huge w = true then some (false, true, perm w, frame w)
  else if (2 ≤ L ∧ L ≤ 4) ∧ table w = true then some (true, false, perm w, frame w)
  else none

theorem frame_lt (w : Nat) : frame w < 68719476736 := Nat.mod_lt _ (by decide)
theorem perm_perms (w : Nat) : perms (perm w) := by unfold perm perms; split <;> split <;> omega

theorem and_peel (n a b c d : Nat) (ha : a < 2 ^ n) (hc : c < 2 ^ n) : (a + 2 ^ n * b) &&& (c + 2 ^ n * d) = (a &&& c) + 2 ^ n * (b &&& d) := by
  have hac : a &&& c < 2 ^ n := Nat.and_lt_two_pow _ hc
  apply Nat.eq_of_testBit_eq
  intro i
  rw [Nat.add_comm a, Nat.add_comm c, Nat.add_comm (a &&& c), Nat.testBit_and, Nat.testBit_two_pow_mul_add _ ha, Nat.testBit_two_pow_mul_add _ hc, Nat.testBit_two_pow_mul_add _ hac]
  by_cases h : i < n
  · rw [if_pos h, if_pos h, if_pos h, Nat.testBit_and]
  · rw [if_neg h, if_neg h, if_neg h, Nat.testBit_and]
theorem and_full (n x : Nat) : x &&& (2 ^ n - 1) = x % 2 ^ n := Nat.and_two_pow_sub_one_eq_mod x n

theorem page_and (w : Nat) (hw : w < 18446744073709551616) : w &&& 9223090561878069245 = 5 ↔ page w = true := by
  have e : w = w % 2 + 2 ^ 1 * (w / 2 % 2 + 2 ^ 1 * (w / 4 % 1024 + 2 ^ 10 * (w / 4096 % 68719476736 + 2 ^ 36 * (w / 281474976710656 % 32768 + 2 ^ 15 * (w / 9223372036854775808))))) := by omega
  have m : 9223090561878069245 = (2 ^ 1 - 1) + 2 ^ 1 * (0 + 2 ^ 1 * ((2 ^ 10 - 1) + 2 ^ 10 * (0 + 2 ^ 36 * ((2 ^ 15 - 1) + 2 ^ 15 * 0)))) := by decide
  have h : w &&& 9223090561878069245 = w % 2 + 2 * (0 + 2 * (w / 4 % 1024 + 1024 * (0 + 68719476736 * (w / 281474976710656 % 32768 + 32768 * 0)))) := by
    conv => lhs; rw [e, m]
    rw [and_peel _ _ _ _ _ (by omega) (by decide), and_peel _ _ _ _ _ (by omega) (by decide), and_peel _ _ _ _ _ (by omega) (by decide), and_peel _ _ _ _ _ (by omega) (by decide), and_peel _ _ _ _ _ (by omega) (by decide),
      and_full, and_full, and_full, Nat.and_zero, Nat.and_zero, Nat.and_zero]
    omega
  rw [h]
  unfold page
  rw [decide_eq_true_iff]
  omega

theorem huge_and (w : Nat) (hw : w < 18446744073709551616) : w &&& 9223090561880162301 = 133 ↔ huge w = true := by
  have e : w = w % 2 + 2 ^ 1 * (w / 2 % 2 + 2 ^ 1 * (w / 4 % 524288 + 2 ^ 19 * (w / 2097152 % 134217728 + 2 ^ 27 * (w / 281474976710656 % 32768 + 2 ^ 15 * (w / 9223372036854775808))))) := by omega
  have m : 9223090561880162301 = (2 ^ 1 - 1) + 2 ^ 1 * (0 + 2 ^ 1 * ((2 ^ 19 - 1) + 2 ^ 19 * (0 + 2 ^ 27 * ((2 ^ 15 - 1) + 2 ^ 15 * 0)))) := by decide
  have h : w &&& 9223090561880162301 = w % 2 + 2 * (0 + 2 * (w / 4 % 524288 + 524288 * (0 + 134217728 * (w / 281474976710656 % 32768 + 32768 * 0)))) := by
    conv => lhs; rw [e, m]
    rw [and_peel _ _ _ _ _ (by omega) (by decide), and_peel _ _ _ _ _ (by omega) (by decide), and_peel _ _ _ _ _ (by omega) (by decide), and_peel _ _ _ _ _ (by omega) (by decide), and_peel _ _ _ _ _ (by omega) (by decide),
      and_full, and_full, and_full, Nat.and_zero, Nat.and_zero, Nat.and_zero]
    omega
  rw [h]
  unfold huge
  rw [decide_eq_true_iff]
  omega

theorem table_and (w : Nat) (hw : w < 18446744073709551616) : w &&& 18446462598732845055 = 7 ↔ table w = true := by
  have e : w = w % 4096 + 2 ^ 12 * (w / 4096 % 68719476736 + 2 ^ 36 * (w / 281474976710656)) := by omega
  have m : 18446462598732845055 = (2 ^ 12 - 1) + 2 ^ 12 * (0 + 2 ^ 36 * (2 ^ 16 - 1)) := by decide
  have h : w &&& 18446462598732845055 = w % 4096 + 4096 * (0 + 68719476736 * (w / 281474976710656)) := by
    conv => lhs; rw [e, m]
    rw [and_peel _ _ _ _ _ (by omega) (by decide), and_peel _ _ _ _ _ (by omega) (by decide), and_full, and_full, Nat.and_zero]
    omega
  rw [h]
  unfold table
  rw [decide_eq_true_iff]
  omega

/-- What a word says is a valid entry, and the word is that entry's. -/
theorem rd_right {w : Nat} {L : Int} {T H : Bool} {P : Int} {F : Nat} (hw : w < 18446744073709551616) (h : rd w L = some (T, H, P, F)) : right T H P F L ∧ wd H P F = w := by
  have hp := perm_perms w
  have hf := frame_lt w
  unfold rd at h
  by_cases c1 : L = 1 ∧ page w = true
  · rw [if_pos c1] at h
    simp only [Option.some.injEq, Prod.mk.injEq] at h
    obtain ⟨rfl, rfl, rfl, rfl⟩ := h
    obtain ⟨cl, cp⟩ := c1
    refine ⟨⟨by omega, by omega, hf, .inr ⟨rfl, hp, .inl ⟨rfl, cl⟩⟩⟩, ?_⟩
    unfold page at cp
    rw [decide_eq_true_iff] at cp
    unfold wd perm frame
    rw [if_neg (by decide : ¬ (false = true))]
    split <;> split <;> split <;> split <;> omega
  · rw [if_neg c1] at h
    by_cases c2 : L = 2 ∧ huge w = true
    · rw [if_pos c2] at h
      simp only [Option.some.injEq, Prod.mk.injEq] at h
      obtain ⟨rfl, rfl, rfl, rfl⟩ := h
      obtain ⟨cl, cp⟩ := c2
      unfold huge at cp
      rw [decide_eq_true_iff] at cp
      refine ⟨⟨by omega, by omega, hf, .inr ⟨rfl, hp, .inr ⟨rfl, cl, by unfold frame; omega⟩⟩⟩, ?_⟩
      unfold wd perm frame
      rw [if_pos rfl]
      split <;> split <;> split <;> split <;> omega
    · rw [if_neg c2] at h
      by_cases c3 : (2 ≤ L ∧ L ≤ 4) ∧ table w = true
      · rw [if_pos c3] at h
        simp only [Option.some.injEq, Prod.mk.injEq] at h
        obtain ⟨rfl, rfl, rfl, rfl⟩ := h
        obtain ⟨cl, cp⟩ := c3
        unfold table at cp
        rw [decide_eq_true_iff] at cp
        have hp7 : perm w = 7 := by unfold perm; rw [if_pos (by omega), if_pos (by omega)]; rfl
        refine ⟨⟨by omega, by omega, hf, .inl ⟨rfl, cl.1, rfl, hp7⟩⟩, ?_⟩
        rw [hp7]
        unfold wd frame
        rw [if_pos (by decide), if_neg (by decide), if_neg (by decide)]
        omega
      · rw [if_neg c3] at h
        cases h

theorem wd_lt (H : Bool) (P : Int) (F : Nat) (hF : F < 68719476736) : wd H P F < 18446744073709551616 := by
  unfold wd; split <;> split <;> split <;> omega

/-- A valid entry's word says it. -/
theorem right_rd {T H : Bool} {P : Int} {F : Nat} {L : Int} (h : right T H P F L) : rd (wd H P F) L = some (T, H, P, F) := by
  obtain ⟨h1, h4, hF, h⟩ := h
  rcases h with ⟨rfl, h2, rfl, rfl⟩ | ⟨rfl, hp, h⟩
  · have e : wd false 7 F = 7 + 4096 * F := by unfold wd; rw [if_pos (by decide), if_neg (by decide), if_neg (by decide)]; omega
    rw [e]
    have ht : table (7 + 4096 * F) = true := by unfold table; rw [decide_eq_true_iff]; omega
    have hh : ¬ (L = 2 ∧ huge (7 + 4096 * F) = true) := by unfold huge; rw [decide_eq_true_iff]; omega
    unfold rd
    rw [if_neg (by omega), if_neg hh, if_pos ⟨⟨h2, h4⟩, ht⟩]
    have e1 : perm (7 + 4096 * F) = 7 := by unfold perm; rw [if_pos (by omega), if_pos (by omega)]; rfl
    have e2 : frame (7 + 4096 * F) = F := by unfold frame; omega
    rw [e1, e2]
  · obtain ⟨b, c, hb, hc, hP, e⟩ : ∃ b c : Nat, b < 2 ∧ c < 2 ∧ P = 1 + 2 * b + 4 * (1 - c) ∧ ∀ H : Bool, wd H P F = 5 + 2 * b + (if H = true then 128 else 0) + 4096 * F + 9223372036854775808 * c := by
      rcases hp with rfl | rfl | rfl | rfl
      · exact ⟨0, 1, by decide, by decide, by decide, fun H => by unfold wd; rw [if_neg (by decide), if_pos (by decide : (1 : Int) < 4)]; omega⟩
      · exact ⟨1, 1, by decide, by decide, by decide, fun H => by unfold wd; rw [if_pos (by decide : (3 : Int) = 3 ∨ (3 : Int) = 7), if_pos (by decide : (3 : Int) < 4)]; omega⟩
      · exact ⟨0, 0, by decide, by decide, by decide, fun H => by unfold wd; rw [if_neg (by decide), if_neg (by decide : ¬ (5 : Int) < 4)]; omega⟩
      · exact ⟨1, 0, by decide, by decide, by decide, fun H => by unfold wd; rw [if_pos (by decide : (7 : Int) = 3 ∨ (7 : Int) = 7), if_neg (by decide : ¬ (7 : Int) < 4)]; omega⟩
    rw [e]
    rcases h with ⟨rfl, rfl⟩ | ⟨rfl, rfl, h5⟩
    · rw [if_neg (by decide)]
      have hpg : page (5 + 2 * b + 0 + 4096 * F + 9223372036854775808 * c) = true := by unfold page; rw [decide_eq_true_iff]; omega
      unfold rd
      rw [if_pos ⟨rfl, hpg⟩]
      have e1 : perm (5 + 2 * b + 0 + 4096 * F + 9223372036854775808 * c) = P := by unfold perm; split <;> split <;> omega
      have e2 : frame (5 + 2 * b + 0 + 4096 * F + 9223372036854775808 * c) = F := by unfold frame; omega
      rw [e1, e2]
    · rw [if_pos rfl]
      have hpg : huge (5 + 2 * b + 128 + 4096 * F + 9223372036854775808 * c) = true := by unfold huge; rw [decide_eq_true_iff]; omega
      unfold rd
      rw [if_neg (by omega), if_pos ⟨rfl, hpg⟩]
      have e1 : perm (5 + 2 * b + 128 + 4096 * F + 9223372036854775808 * c) = P := by unfold perm; split <;> split <;> omega
      have e2 : frame (5 + 2 * b + 128 + 4096 * F + 9223372036854775808 * c) = F := by unfold frame; omega
      rw [e1, e2]

theorem rd_wd (T H : Bool) (P : Int) (F : Nat) (L : Int) (w : Nat) (hw : w < 18446744073709551616) (h : rd w L = some (T, H, P, F)) : wd H P F = w := (rd_right hw h).2
theorem wd_pos (H : Bool) (P : Int) (F : Nat) : 5 ≤ wd H P F := by unfold wd; omega

theorem or_peel (n a b c d : Nat) (ha : a < 2 ^ n) (hc : c < 2 ^ n) : (a + 2 ^ n * b) ||| (c + 2 ^ n * d) = (a ||| c) + 2 ^ n * (b ||| d) := by
  have hac : a ||| c < 2 ^ n := Nat.or_lt_two_pow ha hc
  apply Nat.eq_of_testBit_eq
  intro i
  rw [Nat.add_comm a, Nat.add_comm c, Nat.add_comm (a ||| c), Nat.testBit_or, Nat.testBit_two_pow_mul_add _ ha, Nat.testBit_two_pow_mul_add _ hc, Nat.testBit_two_pow_mul_add _ hac]
  by_cases h : i < n
  · rw [if_pos h, if_pos h, if_pos h, Nat.testBit_or]
  · rw [if_neg h, if_neg h, if_neg h, Nat.testBit_or]
/-- A frame laid between low bits and high ones. -/
theorem put_frame (a c F : Nat) (ha : a < 4096) (hc : c < 2) (hF : F < 68719476736) : WM.put (a + 9223372036854775808 * c) 12 36 F = a + 4096 * F + 9223372036854775808 * c := by
  unfold WM.put WM.mask
  have e1 : (a + 9223372036854775808 * c) &&& (18446744073709551615 - (2 ^ 36 - 1) * 2 ^ 12) = a + 9223372036854775808 * c := by
    conv => lhs; rw [show a + 9223372036854775808 * c = a + 2 ^ 12 * (0 + 2 ^ 36 * (32768 * c)) by omega, show 18446744073709551615 - (2 ^ 36 - 1) * 2 ^ 12 = (2 ^ 12 - 1) + 2 ^ 12 * (0 + 2 ^ 36 * (2 ^ 16 - 1)) by decide]
    rw [and_peel _ _ _ _ _ (by omega) (by decide), and_peel _ _ _ _ _ (by decide) (by decide), and_full, and_full, Nat.zero_and]
    omega
  rw [e1]
  conv => lhs; rw [show a + 9223372036854775808 * c = a + 2 ^ 12 * (0 + 2 ^ 36 * (32768 * c)) by omega, show F * 2 ^ 12 = 0 + 2 ^ 12 * (F + 2 ^ 36 * 0) by omega]
  rw [or_peel _ _ _ _ _ (by omega) (by decide), or_peel _ _ _ _ _ (by decide) (by omega), Nat.or_zero, Nat.or_zero, Nat.zero_or]
  omega

/-- The entry that the document tries. -/
def cand (w : Nat) (L : Int) : Bool × Bool × Int × Nat := (decide (2 ≤ L) && !decide (w / 128 % 2 = 1), decide (w / 128 % 2 = 1), perm w, frame w)
theorem rd_cand {w : Nat} {L : Int} {x : Bool × Bool × Int × Nat} (h : rd w L = some x) : x = cand w L := by
  unfold rd at h
  unfold cand
  by_cases c1 : L = 1 ∧ page w = true
  · rw [if_pos c1] at h
    obtain ⟨rfl, cp⟩ := c1
    unfold page at cp
    rw [decide_eq_true_iff] at cp
    rw [← Option.some.inj h, decide_eq_false (by omega : ¬ w / 128 % 2 = 1)]
    rfl
  · rw [if_neg c1] at h
    by_cases c2 : L = 2 ∧ huge w = true
    · rw [if_pos c2] at h
      obtain ⟨rfl, cp⟩ := c2
      unfold huge at cp
      rw [decide_eq_true_iff] at cp
      rw [← Option.some.inj h, decide_eq_true (by omega : w / 128 % 2 = 1)]
      rfl
    · rw [if_neg c2] at h
      by_cases c3 : (2 ≤ L ∧ L ≤ 4) ∧ table w = true
      · rw [if_pos c3] at h
        obtain ⟨cl, cp⟩ := c3
        unfold table at cp
        rw [decide_eq_true_iff] at cp
        rw [← Option.some.inj h, decide_eq_false (by omega : ¬ w / 128 % 2 = 1), decide_eq_true cl.1]
        rfl
      · rw [if_neg c3] at h
        cases h

end EN
end Go.Proofs.YthiojnbnhagcgaaDoor

/- A row of numbers that is turned by swaps; cmp.Less; the insertion sort. -/
import Derived.Test.YtieneehpijilpaaInoColl
namespace Go.Proofs.Ytieneehpijilpaa
open Go.ChangeShapes Go.WideShapes Go.ChangeAt Go.RowKit
set_option linter.unusedVariables false
set_option linter.unusedSimpArgs false
namespace IS

namespace SO
def swp (X : Nat → Nat) (i j : Nat) : Nat → Nat := fun p => if p = i then X j else if p = j then X i else X p
/-- Turned by swaps within a .. b. -/
inductive Sw (a b : Nat) (X : Nat → Nat) : (Nat → Nat) → Prop
  | refl : Sw a b X X
  | step {Y : Nat → Nat} {i j : Nat} : Sw a b X Y → a ≤ i → i < b → a ≤ j → j < b → Sw a b X (swp Y i j)
theorem Sw.trans {a b : Nat} {X Y Z : Nat → Nat} (h : Sw a b X Y) (k : Sw a b Y Z) : Sw a b X Z := by
  induction k with
  | refl => exact h
  | step _ h1 h2 h3 h4 ih => exact ih.step h1 h2 h3 h4
theorem Sw.wide {a b a' b' : Nat} {X Y : Nat → Nat} (h : Sw a b X Y) (ha : a' ≤ a) (hb : b ≤ b') : Sw a' b' X Y := by
  induction h with
  | refl => exact .refl
  | step _ h1 h2 h3 h4 ih => exact ih.step (by omega) (by omega) (by omega) (by omega)
theorem Sw.out {a b : Nat} {X Y : Nat → Nat} (h : Sw a b X Y) : ∀ p, p < a ∨ b ≤ p → Y p = X p := by
  induction h with
  | refl => exact fun _ _ => rfl
  | step _ h1 h2 h3 h4 ih =>
    intro p hp
    rw [← ih p hp]
    unfold swp
    rw [if_neg (by omega), if_neg (by omega)]
theorem Sw.all {a b : Nat} {X Y : Nat → Nat} (h : Sw a b X Y) {P : Nat → Prop} (hX : ∀ p, a ≤ p → p < b → P (X p)) : ∀ p, a ≤ p → p < b → P (Y p) := by
  induction h with
  | refl => exact hX
  | @step Y i j _ h1 h2 h3 h4 ih =>
    intro p hp hp2
    unfold swp
    split
    · exact ih j h3 h4
    · split
      · exact ih i h1 h2
      · exact ih p hp hp2
def lst (X : Nat → Nat) (N : Nat) : List Nat := (List.range N).map X
theorem lst_len (X : Nat → Nat) (N : Nat) : (lst X N).length = N := by simp [lst]
theorem lst_get (X : Nat → Nat) (N i : Nat) (h : i < N) : (lst X N)[i]? = some (X i) := by simp [lst, h]
theorem lst_mem (X : Nat → Nat) (N x : Nat) : x ∈ lst X N ↔ ∃ i, i < N ∧ X i = x := by simp [lst]
def Inj (X : Nat → Nat) (N : Nat) : Prop := ∀ i j, i < N → j < N → X i = X j → i = j
theorem lst_nodup (X : Nat → Nat) (N : Nat) (h : Inj X N) : (lst X N).Nodup := by
  unfold lst List.Nodup
  rw [List.pairwise_map]
  refine List.nodup_range.imp_of_mem ?_
  intro i j hi hj hne e
  exact hne (h i j (List.mem_range.1 hi) (List.mem_range.1 hj) e)
theorem inj_of_nodup (X : Nat → Nat) (N : Nat) (h : (lst X N).Nodup) : Inj X N := by
  intro i j hi hj e
  have h1 := lst_get X N i hi
  have h2 := lst_get X N j hj
  rw [e] at h1
  exact (List.getElem?_inj (by rw [lst_len]; exact hi) h).1 (h1.trans h2.symm)
theorem Sw.inj {a b N : Nat} {X Y : Nat → Nat} (h : Sw a b X Y) (hb : b ≤ N) (hX : Inj X N) : Inj Y N := by
  induction h with
  | refl => exact hX
  | @step Y i j _ h1 h2 h3 h4 ih =>
    intro p q hp hq e
    unfold swp at e
    split at e <;> split at e <;> (try split at e) <;> (try split at e) <;> first
      | (have := ih _ _ (by omega) (by omega) e; omega)
      | omega
theorem Sw.mem {a b N : Nat} {X Y : Nat → Nat} (h : Sw a b X Y) (hb : b ≤ N) : ∀ x, x ∈ lst Y N ↔ x ∈ lst X N := by
  induction h with
  | refl => exact fun _ => Iff.rfl
  | @step Y i j _ h1 h2 h3 h4 ih =>
    intro x
    rw [← ih x, lst_mem, lst_mem]
    constructor
    · rintro ⟨p, hp, rfl⟩
      unfold swp
      split
      · exact ⟨j, by omega, rfl⟩
      · split
        · exact ⟨i, by omega, rfl⟩
        · exact ⟨p, hp, rfl⟩
    · rintro ⟨p, hp, rfl⟩
      by_cases e1 : p = i
      · refine ⟨j, by omega, ?_⟩
        unfold swp
        by_cases e2 : j = i
        · rw [if_pos e2, e1, e2]
        · rw [if_neg e2, if_pos rfl, e1]
      · by_cases e2 : p = j
        · exact ⟨i, by omega, by unfold swp; rw [if_pos rfl, e2]⟩
        · exact ⟨p, hp, by unfold swp; rw [if_neg e1, if_neg e2]⟩
/-- Rising from a up to b. -/
def Up (X : Nat → Nat) (a b : Nat) : Prop := ∀ p q, a ≤ p → p < q → q < b → X p ≤ X q
/-- Rising up to i, but for what stands at j. -/
def Ins (X : Nat → Nat) (a i j : Nat) : Prop := ∀ p q, a ≤ p → p < q → q ≤ i → q ≠ j → X p ≤ X q
theorem ins_start {X : Nat → Nat} {a i : Nat} (h : Up X a i) : Ins X a i i := fun p q h1 h2 h3 h4 => h p q h1 h2 (by omega)
theorem ins_swap {X : Nat → Nat} {a i j : Nat} (h : Ins X a i j) (ha : a < j) (hj : j ≤ i) (hlt : X j < X (j - 1)) : Ins (swp X j (j - 1)) a i (j - 1) := by
  intro p q h1 h2 h3 h4
  unfold swp
  by_cases e1 : q = j
  · rw [if_neg (by omega : p ≠ j), if_pos e1]
    by_cases e2 : p = j - 1
    · rw [if_pos e2]; omega
    · rw [if_neg e2]; exact h p (j - 1) h1 (by omega) (by omega) (by omega)
  · rw [if_neg e1, if_neg h4]
    by_cases e2 : p = j
    · rw [if_pos e2]
      exact h (j - 1) q (by omega) (by omega) h3 e1
    · rw [if_neg e2]
      by_cases e3 : p = j - 1
      · rw [if_pos e3]
        have := h (j - 1) q (by omega) (by omega) h3 e1
        omega
      · rw [if_neg e3]; exact h p q h1 h2 h3 e1
theorem ins_done {X : Nat → Nat} {a i j : Nat} (h : Ins X a i j) (ha : a ≤ j) (hj : j ≤ i) (hd : j = a ∨ X (j - 1) ≤ X j) : Up X a (i + 1) := by
  intro p q h1 h2 h3
  by_cases e : q = j
  · subst e
    rcases hd with hd | hd
    · omega
    · by_cases e2 : p = q - 1
      · rw [e2]; exact hd
      · have := h p (q - 1) h1 (by omega) (by omega) (by omega)
        omega
  · exact h p q h1 h2 (by omega) e
end SO

/-- Block g holds these numbers, and then the rest. -/
structure RW (w : World) (g N : Nat) (X : Nat → Nat) (rest : List Value) : Prop where
  blk : Blk w g 3 ((SO.lst X N).map nk ++ rest)
section
variable {w w' : World} {g N : Nat} {X : Nat → Nat} {rest : List Value}
theorem RW.cell (h : RW w g N X rest) (i : Nat) (hi : i < N) : w.cell? ⟨g, i, none⟩ = some (.int .i64 ((X i : Nat) : Int)) := by
  refine h.blk.cell ?_
  rw [List.getElem?_append_left (by simp [SO.lst_len, hi]), List.getElem?_map, SO.lst_get X N i hi]
  rfl
theorem RW.fz (h : RW w g N X rest) (i : Nat) : w.frozen? ⟨g, i, none⟩ = false := h.blk.fz i
theorem RW.lt (h : RW w g N X rest) : g < w.heap.size := h.blk.lt
theorem RW.drewN (h : RW w g N X rest) (t : Nat) : RW (w.drewN t) g N X rest := ⟨h.blk⟩
theorem RW.drew (h : RW w g N X rest) : RW w.drew g N X rest := ⟨h.blk⟩
theorem RW.alloc (h : RW w g N X rest) (o : Obj) : RW (w.alloc o) g N X rest := ⟨h.blk.alloc o⟩
theorem RW.far (h : RW w g N X rest) {p : Addr} (hp : g ≠ p.block) (u : Value) : RW (w.setCell p u) g N X rest := ⟨h.blk.far hp u⟩
theorem RW.keep (h : RW w g N X rest) (hb : Below w.heap.size w w') : RW w' g N X rest := ⟨h.blk.keep hb⟩
theorem RW.swap (h : RW w g N X rest) (i j : Nat) (hi : i < N) (hj : j < N) : RW ((w.setCell ⟨g, i, none⟩ (.int .i64 ((X j : Nat) : Int))).setCell ⟨g, j, none⟩ (.int .i64 ((X i : Nat) : Int))) g N (SO.swp X i j) rest := by
  refine ⟨?_⟩
  have h1 := (h.blk.set i (.int .i64 ((X j : Nat) : Int))).set j (.int .i64 ((X i : Nat) : Int))
  have e : (((SO.lst X N).map nk ++ rest).set i (.int .i64 ((X j : Nat) : Int))).set j (.int .i64 ((X i : Nat) : Int)) = (SO.lst (SO.swp X i j) N).map nk ++ rest := by
    rw [List.set_append_left _ _ (by simp [SO.lst_len, hi]), List.set_append_left _ _ (by simp [SO.lst_len, hj])]
    congr 1
    apply List.ext_getElem?
    intro p
    by_cases hp : p < N
    · rw [List.getElem?_map, SO.lst_get _ N p hp, List.getElem?_set, List.getElem?_set, List.getElem?_map, SO.lst_get X N p hp]
      simp only [List.length_set, List.length_map, SO.lst_len, hi, hj, if_true, Option.map_some]
      unfold SO.swp
      by_cases e1 : j = p
      · subst e1
        rw [if_pos rfl]
        by_cases e2 : j = i
        · subst e2; simp [nk]
        · rw [if_neg e2]; simp [nk]
      · rw [if_neg e1, if_neg (Ne.symm e1)]
        by_cases e2 : i = p
        · subst e2; simp [nk]
        · rw [if_neg e2, if_neg (Ne.symm e2)]
    · rw [List.getElem?_eq_none (by simp [SO.lst_len]; omega), List.getElem?_eq_none (by simp [SO.lst_len]; omega)]
  rw [e] at h1
  exact h1
end

set_option maxRecDepth 100000 in
set_option maxHeartbeats 1000000 in
theorem isNaN_any (x : Nat) (w : World) : Calls Try.prog 95 #[.int .i64 (x : Int)] w fun e w' => e = .returned (.bool false) ∧ w' = w := by
  go_enter Try.func95, Try.ntmps95
  go_wp2
  go_ret
  exact ⟨by simp, rfl⟩

set_option maxRecDepth 100000 in
set_option maxHeartbeats 1000000 in
theorem Less_any (x y : Nat) (w : World) : Calls Try.prog 84 #[.int .i64 (x : Int), .int .i64 (y : Int)] w fun e w' => e = .returned (.bool (decide (x < y))) ∧ w' = w := by
  have hN := fun x w => isNaN_any x w
  go_enter Try.func84, Try.ntmps84
  by_cases h : x < y
  · go_wp2_with (go_at_call 95; refine (hN x _).mono ?_; rintro e w' ⟨rfl, rfl⟩)
    go_ret
    exact ⟨by simp [h], rfl⟩
  · go_wp2_with (go_at_call 95; refine (hN x _).mono ?_; rintro e w' ⟨rfl, rfl⟩)
    go_ret
    exact ⟨by simp [h], rfl⟩

set_option maxRecDepth 100000 in
set_option maxHeartbeats 4000000 in
theorem insert_any (g N cap : Nat) (rest : List Value) (a b : Nat) (X : Nat → Nat) (w : World) (h : RW w g N X rest) (hab : a ≤ b) (hb : b ≤ N) (hN : N ≤ 65536) (hcap : N ≤ cap) (hX : ∀ i, i < N → X i < 9223372036854775808) :
    Calls Try.prog 78 #[.slice (some ⟨g, 0, none⟩) N cap, .int .i64 (a : Int), .int .i64 (b : Int)] w fun e w' => e = .returned (.tuple #[]) ∧ Two g g w w' ∧ ∃ Y, RW w' g N Y rest ∧ SO.Sw a b X Y ∧ SO.Up Y a b := by
  have h := W_hid h
  have hX := W_hid hX
  go_enter Try.func78, Try.ntmps78
  go_wp2_with fail
  go_loopw [6] (fun v wr => ∃ (i : Nat) (Y : Nat → Nat), v = .int .i64 (i : Int) ∧ a < i ∧ (i ≤ b ∨ i = a + 1) ∧ Hid (RW wr g N Y rest) ∧ Hid (SO.Sw a b X Y) ∧ Hid (SO.Up Y a i) ∧ Hid (Two g g w wr)) (fun v _ => b - (intOf v).toNat)
  case atStart => exact ⟨a + 1, X, by simp, by omega, .inr rfl, h, W_hid .refl, W_hid (fun p q h1 h2 h3 => by omega), W_hid (Two.refl _ _ _)⟩
  case round =>
    obtain ⟨i, Y, rfl, hai, hib, hR, hS, hU, hT⟩ := hrel
    by_cases hlt : i < b
    · go_wp2_with fail
      obtain ⟨wa, rfl⟩ : ∃ wa, wa = wr := ⟨wr, rfl⟩
      go_loopw [7] (fun v wr => ∃ (j : Nat) (Z : Nat → Nat), v = .int .i64 (j : Int) ∧ a ≤ j ∧ j ≤ i ∧ Hid (RW wr g N Z rest) ∧ Hid (SO.Sw a b X Z) ∧ Hid (SO.Ins Z a i j) ∧ Hid (Two g g w wr)) (fun v _ => (intOf v).toNat)
      case atStart => exact ⟨i, Y, rfl, by omega, by omega, hR, hS, W_hid (SO.ins_start hU.out), hT⟩
      case round =>
        obtain ⟨j, Z, rfl, haj, hji, hR2, hS2, hI, hT2⟩ := hrel
        by_cases hja : a < j
        · have cj := hR2.out.cell j (by omega)
          have cj1 := hR2.out.cell (j - 1) (by omega)
          have ej : (j : Int) - 1 = ((j - 1 : Nat) : Int) := by omega
          have fj := hR2.out.fz j
          have fj1 := hR2.out.fz (j - 1)
          have hL := W_hid (fun t => Calls.quiet_of_same (Less_any (Z j) (Z (j - 1)) (wr.drewN t)))
          by_cases hless : Z j < Z (j - 1)
          · have hd : decide (Z j < Z (j - 1)) = true := by simp [hless]
            have hI2 := W_hid (SO.ins_swap hI.out hja hji hless)
            have hS3 := W_hid (hS2.out.step (i := j) (j := j - 1) (by omega) (by omega) (by omega) (by omega))
            have hless := W_hid hless
            rw [hd] at hL
            generalize hzj : Z j = zj at *
            generalize hzk : Z (j - 1) = zk at *
            go_wp2_with fail
            go_quiet ((go_at_call 84; exact hL.out _))
            go_wp2_with fail
            obtain ⟨W, hW⟩ : ∃ W, wr.drewN nq = W := ⟨_, rfl⟩
            have hR3 : RW W g N Z rest := by rw [← hW]; exact hR2.out.drewN nq
            have hT3 : Two g g w W := by rw [← hW]; exact hT2.out.drew nq
            rw [hW]
            have dj := hR3.cell j (by omega)
            have dj1 := hR3.cell (j - 1) (by omega)
            rw [hzj] at dj
            rw [hzk] at dj1
            have gj := hR3.fz j
            have gj1 := hR3.fz (j - 1)
            have hR4 := W_hid (hR3.swap j (j - 1) (by omega) (by omega))
            rw [hzj, hzk] at hR4
            have hT4 := W_hid ((hT3.setCell (p := ⟨g, j, none⟩) (.inl rfl) (.int .i64 (zk : Int))).setCell (p := ⟨g, j - 1, none⟩) (.inl rfl) (.int .i64 (zj : Int)))
            clear hR3 hT3
            go_region
            go_wp2_with fail
            exact ⟨⟨j - 1, _, rfl, by omega, by omega, W_hid hR4.out.drew, hS3, hI2, W_hid ⟨hT4.out.os, hT4.out.tape, hT4.out.output, hT4.out.size, hT4.out.block⟩⟩, by simp [intOf]; omega⟩
          · have hd : decide (Z j < Z (j - 1)) = false := by simp [hless]
            have hU2 := W_hid (SO.ins_done hI.out haj hji (.inr (by omega)))
            have hless := W_hid hless
            rw [hd] at hL
            generalize hzj : Z j = zj at *
            generalize hzk : Z (j - 1) = zk at *
            go_wp2_with fail
            go_quiet ((go_at_call 84; exact hL.out _))
            go_wp2_with fail
            exact ⟨⟨i + 1, Z, by simp, by omega, .inl (by omega), W_hid (hR2.out.drewN nq), hS2, hU2, W_hid (hT2.out.drew nq)⟩, by simp [intOf]; omega⟩
        · have hU2 := W_hid (SO.ins_done hI.out haj hji (.inl (by omega)))
          go_wp2_with fail
          go_quiet (fail)
          go_wp2_with fail
          exact ⟨⟨i + 1, Z, by simp, by omega, .inl (by omega), W_hid (hR2.out.drewN nq), hS2, hU2, W_hid (hT2.out.drew nq)⟩, by simp [intOf]; omega⟩
    · have hU2 : SO.Up Y a b := fun p q h1 h2 h3 => hU.out p q h1 h2 (by omega)
      go_wp2_with fail
      go_end0
      exact ⟨rfl, hT.out, Y, hR.out, hS.out, hU2⟩
end IS
end Go.Proofs.Ytieneehpijilpaa

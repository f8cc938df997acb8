/- The laws of layer 8, continued: what RadixLeads wants beside its walk: what walked and Walk say of an address, the cells of a row of pages. -/
import Derived.Test.YthdohimjcjkneaaGreatDoorZL10
import Derived.Test.YthdohimjcjkneaaGreatDoorZL04
import Derived.Test.YthdohimjcjkneaaGreatDoorZL01
import Derived.ProofKit
import Derived.LaidMore
import Derived.OpenShut
import Derived.Stop.Joined
import Derived.MakeChecks
import Derived.Test.YthdohimjcjkneaaGreatDoorTie
import Derived.Test.YthdohimjcjkneaaGreatDoorCards
import Derived.SevenTiedAt
import Derived.ShutString
import Derived.ChangeOld
import Derived.Deep.Slices

/- A row of numbers that is turned by swaps; cmp.Less; the insertion sort. -/
namespace Go.Proofs.YthdohimjcjkneaaGreatDoor
open Go.ChangeShapes Go.WideShapes Go.ChangeAt Go.RowKit
set_option linter.unusedVariables false
set_option linter.unusedSimpArgs false

namespace SO
def swp (X : Nat → Nat) (i j : Nat) : Nat → Nat := fun p => if p = i then X j else if p = j then X i else X p
/-- Turned by swaps within a .. b. -/
inductive Sw (a b : Nat) (X : Nat → Nat) : (Nat → Nat) → Prop
  | refl : Sw a b X X
  | step {Y : Nat → Nat} {i j : Nat} : Sw a b X Y → a ≤ i → i < b → a ≤ j → j < b → Sw a b X (swp Y i j)
theorem Sw.trans {a b : Nat} {X Y Z : Nat → Nat} (h : Sw a b X Y) (k : Sw a b Y Z) : Sw a b X Z := by
  induction k with
  | refl => exact h
  | step _ h1 h2 h3 h4 ih => exact ih.step h1 h2 h3 h4
theorem Sw.wide {a b a' b' : Nat} {X Y : Nat → Nat} (h : Sw a b X Y) (ha : a' ≤ a) (hb : b ≤ b') : Sw a' b' X Y := by
  induction h with
  | refl => exact .refl
  | step _ h1 h2 h3 h4 ih => exact ih.step (by omega) (by omega) (by omega) (by omega)
theorem Sw.out {a b : Nat} {X Y : Nat → Nat} (h : Sw a b X Y) : ∀ p, p < a ∨ b ≤ p → Y p = X p := by
  induction h with
  | refl => exact fun _ _ => rfl
  | step _ h1 h2 h3 h4 ih =>
    intro p hp
    rw [← ih p hp]
    unfold swp
    rw [if_neg (by omega), if_neg (by omega)]
theorem Sw.all {a b : Nat} {X Y : Nat → Nat} (h : Sw a b X Y) {P : Nat → Prop} (hX : ∀ p, a ≤ p → p < b → P (X p)) : ∀ p, a ≤ p → p < b → P (Y p) := by
  induction h with
  | refl => exact hX
  | @step Y i j _ h1 h2 h3 h4 ih =>
    intro p hp hp2
    unfold swp
    split
    · exact ih j h3 h4
    · split
      · exact ih i h1 h2
      · exact ih p hp hp2
def lst (X : Nat → Nat) (N : Nat) : List Nat := (List.range N).map X
theorem lst_len (X : Nat → Nat) (N : Nat) : (lst X N).length = N := by simp [lst]
theorem lst_get (X : Nat → Nat) (N i : Nat) (h : i < N) : (lst X N)[i]? = some (X i) := by simp [lst, h]
theorem lst_mem (X : Nat → Nat) (N x : Nat) : x ∈ lst X N ↔ ∃ i, i < N ∧ X i = x := by simp [lst]
def Inj (X : Nat → Nat) (N : Nat) : Prop := ∀ i j, i < N → j < N → X i = X j → i = j
theorem lst_nodup (X : Nat → Nat) (N : Nat) (h : Inj X N) : (lst X N).Nodup := by
  unfold lst List.Nodup
  rw [List.pairwise_map]
  refine List.nodup_range.imp_of_mem ?_
  intro i j hi hj hne e
  exact hne (h i j (List.mem_range.1 hi) (List.mem_range.1 hj) e)
theorem inj_of_nodup (X : Nat → Nat) (N : Nat) (h : (lst X N).Nodup) : Inj X N := by
  intro i j hi hj e
  have h1 := lst_get X N i hi
  have h2 := lst_get X N j hj
  rw [e] at h1
  exact (List.getElem?_inj (by rw [lst_len]; exact hi) h).1 (h1.trans h2.symm)
theorem Sw.inj {a b N : Nat} {X Y : Nat → Nat} (h : Sw a b X Y) (hb : b ≤ N) (hX : Inj X N) : Inj Y N := by
  induction h with
  | refl => exact hX
  | @step Y i j _ h1 h2 h3 h4 ih =>
    intro p q hp hq e
    unfold swp at e
    split at e <;> split at e <;> (try split at e) <;> (try split at e) <;> first
      | (have := ih _ _ (by omega) (by omega) e; omega)
      | omega
theorem Sw.mem {a b N : Nat} {X Y : Nat → Nat} (h : Sw a b X Y) (hb : b ≤ N) : ∀ x, x ∈ lst Y N ↔ x ∈ lst X N := by
  induction h with
  | refl => exact fun _ => Iff.rfl
  | @step Y i j _ h1 h2 h3 h4 ih =>
    intro x
    rw [← ih x, lst_mem, lst_mem]
    constructor
    · rintro ⟨p, hp, rfl⟩
      unfold swp
      split
      · exact ⟨j, by omega, rfl⟩
      · split
        · exact ⟨i, by omega, rfl⟩
        · exact ⟨p, hp, rfl⟩
    · rintro ⟨p, hp, rfl⟩
      by_cases e1 : p = i
      · refine ⟨j, by omega, ?_⟩
        unfold swp
        by_cases e2 : j = i
        · rw [if_pos e2, e1, e2]
        · rw [if_neg e2, if_pos rfl, e1]
      · by_cases e2 : p = j
        · exact ⟨i, by omega, by unfold swp; rw [if_pos rfl, e2]⟩
        · exact ⟨p, hp, by unfold swp; rw [if_neg e1, if_neg e2]⟩
/-- Rising from a up to b. -/
def Up (X : Nat → Nat) (a b : Nat) : Prop := ∀ p q, a ≤ p → p < q → q < b → X p ≤ X q
/-- Rising up to i, but for what stands at j. -/
def Ins (X : Nat → Nat) (a i j : Nat) : Prop := ∀ p q, a ≤ p → p < q → q ≤ i → q ≠ j → X p ≤ X q
theorem ins_start {X : Nat → Nat} {a i : Nat} (h : Up X a i) : Ins X a i i := fun p q h1 h2 h3 h4 => h p q h1 h2 (by omega)
theorem ins_swap {X : Nat → Nat} {a i j : Nat} (h : Ins X a i j) (ha : a < j) (hj : j ≤ i) (hlt : X j < X (j - 1)) : Ins (swp X j (j - 1)) a i (j - 1) := by
  intro p q h1 h2 h3 h4
  unfold swp
  by_cases e1 : q = j
  · rw [if_neg (by omega : p ≠ j), if_pos e1]
    by_cases e2 : p = j - 1
    · rw [if_pos e2]; omega
    · rw [if_neg e2]; exact h p (j - 1) h1 (by omega) (by omega) (by omega)
  · rw [if_neg e1, if_neg h4]
    by_cases e2 : p = j
    · rw [if_pos e2]
      exact h (j - 1) q (by omega) (by omega) h3 e1
    · rw [if_neg e2]
      by_cases e3 : p = j - 1
      · rw [if_pos e3]
        have := h (j - 1) q (by omega) (by omega) h3 e1
        omega
      · rw [if_neg e3]; exact h p q h1 h2 h3 e1
theorem ins_done {X : Nat → Nat} {a i j : Nat} (h : Ins X a i j) (ha : a ≤ j) (hj : j ≤ i) (hd : j = a ∨ X (j - 1) ≤ X j) : Up X a (i + 1) := by
  intro p q h1 h2 h3
  by_cases e : q = j
  · subst e
    rcases hd with hd | hd
    · omega
    · by_cases e2 : p = q - 1
      · rw [e2]; exact hd
      · have := h p (q - 1) h1 (by omega) (by omega) (by omega)
        omega
  · exact h p q h1 h2 (by omega) e
end SO

/-- Block g holds these numbers, and then the rest. -/
structure RW (w : World) (g N : Nat) (X : Nat → Nat) (rest : List Value) : Prop where
  blk : Blk w g 36 ((SO.lst X N).map nk ++ rest)
section
variable {w w' : World} {g N : Nat} {X : Nat → Nat} {rest : List Value}
theorem RW.cell (h : RW w g N X rest) (i : Nat) (hi : i < N) : w.cell? ⟨g, i, none⟩ = some (.int .u64 ((X i : Nat) : Int)) := by
  refine h.blk.cell ?_
  rw [List.getElem?_append_left (by simp [SO.lst_len, hi]), List.getElem?_map, SO.lst_get X N i hi]
  rfl
theorem RW.fz (h : RW w g N X rest) (i : Nat) : w.frozen? ⟨g, i, none⟩ = false := h.blk.fz i
theorem RW.lt (h : RW w g N X rest) : g < w.heap.size := h.blk.lt
theorem RW.drewN (h : RW w g N X rest) (t : Nat) : RW (w.drewN t) g N X rest := ⟨h.blk⟩
theorem RW.drew (h : RW w g N X rest) : RW w.drew g N X rest := ⟨h.blk⟩
theorem RW.alloc (h : RW w g N X rest) (o : Obj) : RW (w.alloc o) g N X rest := ⟨h.blk.alloc o⟩
theorem RW.far (h : RW w g N X rest) {p : Addr} (hp : g ≠ p.block) (u : Value) : RW (w.setCell p u) g N X rest := ⟨h.blk.far hp u⟩
theorem RW.keep (h : RW w g N X rest) (hb : Below w.heap.size w w') : RW w' g N X rest := ⟨h.blk.keep hb⟩
theorem RW.swap (h : RW w g N X rest) (i j : Nat) (hi : i < N) (hj : j < N) : RW ((w.setCell ⟨g, i, none⟩ (.int .u64 ((X j : Nat) : Int))).setCell ⟨g, j, none⟩ (.int .u64 ((X i : Nat) : Int))) g N (SO.swp X i j) rest := by
  refine ⟨?_⟩
  have h1 := (h.blk.set i (.int .u64 ((X j : Nat) : Int))).set j (.int .u64 ((X i : Nat) : Int))
  have e : (((SO.lst X N).map nk ++ rest).set i (.int .u64 ((X j : Nat) : Int))).set j (.int .u64 ((X i : Nat) : Int)) = (SO.lst (SO.swp X i j) N).map nk ++ rest := by
    rw [List.set_append_left _ _ (by simp [SO.lst_len, hi]), List.set_append_left _ _ (by simp [SO.lst_len, hj])]
    congr 1
    apply List.ext_getElem?
    intro p
    by_cases hp : p < N
    · rw [List.getElem?_map, SO.lst_get _ N p hp, List.getElem?_set, List.getElem?_set, List.getElem?_map, SO.lst_get X N p hp]
      simp only [List.length_set, List.length_map, SO.lst_len, hi, hj, if_true, Option.map_some]
      unfold SO.swp
      by_cases e1 : j = p
      · subst e1
        rw [if_pos rfl]
        by_cases e2 : j = i
        · subst e2; simp [nk]
        · rw [if_neg e2]; simp [nk]
      · rw [if_neg e1, if_neg (Ne.symm e1)]
        by_cases e2 : i = p
        · subst e2; simp [nk]
        · rw [if_neg e2, if_neg (Ne.symm e2)]
    · rw [List.getElem?_eq_none (by simp [SO.lst_len]; omega), List.getElem?_eq_none (by simp [SO.lst_len]; omega)]
  rw [e] at h1
  exact h1
end

set_option maxRecDepth 100000 in
set_option maxHeartbeats 1000000 in
theorem isNaN_any (x : Nat) (w : World) : Calls Tryz.prog 207 #[.int .u64 (x : Int)] w fun e w' => e = .returned (.bool false) ∧ w' = w := by
  go_enter Tryz.func207, Tryz.ntmps207
  go_wp2
  go_ret
  exact ⟨by simp, rfl⟩

set_option maxRecDepth 100000 in
set_option maxHeartbeats 1000000 in
theorem Less_any (x y : Nat) (w : World) : Calls Tryz.prog 196 #[.int .u64 (x : Int), .int .u64 (y : Int)] w fun e w' => e = .returned (.bool (decide (x < y))) ∧ w' = w := by
  have hN := fun x w => isNaN_any x w
  go_enter Tryz.func196, Tryz.ntmps196
  by_cases h : x < y
  · go_wp2_with (go_at_call 207; refine (hN x _).mono ?_; rintro e w' ⟨rfl, rfl⟩)
    go_ret
    exact ⟨by simp [h], rfl⟩
  · go_wp2_with (go_at_call 207; refine (hN x _).mono ?_; rintro e w' ⟨rfl, rfl⟩)
    go_ret
    exact ⟨by simp [h], rfl⟩

set_option maxRecDepth 100000 in
set_option maxHeartbeats 4000000 in
theorem insert_any (g N cap : Nat) (rest : List Value) (a b : Nat) (X : Nat → Nat) (w : World) (h : RW w g N X rest) (hab : a ≤ b) (hb : b ≤ N) (hN : N ≤ 65536) (hcap : N ≤ cap) (hX : ∀ i, i < N → X i < 18446744073709551616) :
    Calls Tryz.prog 190 #[.slice (some ⟨g, 0, none⟩) N cap, .int .i64 (a : Int), .int .i64 (b : Int)] w fun e w' => e = .returned (.tuple #[]) ∧ Two g g w w' ∧ ∃ Y, RW w' g N Y rest ∧ SO.Sw a b X Y ∧ SO.Up Y a b := by
  have h := W_hid h
  have hX := W_hid hX
  go_enter Tryz.func190, Tryz.ntmps190
  go_wp2_with fail
  go_loopw [6] (fun v wr => ∃ (i : Nat) (Y : Nat → Nat), v = .int .i64 (i : Int) ∧ a < i ∧ (i ≤ b ∨ i = a + 1) ∧ Hid (RW wr g N Y rest) ∧ Hid (SO.Sw a b X Y) ∧ Hid (SO.Up Y a i) ∧ Hid (Two g g w wr)) (fun v _ => b - (intOf v).toNat)
  case atStart => exact ⟨a + 1, X, by simp, by omega, .inr rfl, h, W_hid .refl, W_hid (fun p q h1 h2 h3 => by omega), W_hid (Two.refl _ _ _)⟩
  case round =>
    obtain ⟨i, Y, rfl, hai, hib, hR, hS, hU, hT⟩ := hrel
    by_cases hlt : i < b
    · go_wp2_with fail
      obtain ⟨wa, rfl⟩ : ∃ wa, wa = wr := ⟨wr, rfl⟩
      go_loopw [7] (fun v wr => ∃ (j : Nat) (Z : Nat → Nat), v = .int .i64 (j : Int) ∧ a ≤ j ∧ j ≤ i ∧ Hid (RW wr g N Z rest) ∧ Hid (SO.Sw a b X Z) ∧ Hid (SO.Ins Z a i j) ∧ Hid (Two g g w wr)) (fun v _ => (intOf v).toNat)
      case atStart => exact ⟨i, Y, rfl, by omega, by omega, hR, hS, W_hid (SO.ins_start hU.out), hT⟩
      case round =>
        obtain ⟨j, Z, rfl, haj, hji, hR2, hS2, hI, hT2⟩ := hrel
        by_cases hja : a < j
        · have cj := hR2.out.cell j (by omega)
          have cj1 := hR2.out.cell (j - 1) (by omega)
          have ej : (j : Int) - 1 = ((j - 1 : Nat) : Int) := by omega
          have fj := hR2.out.fz j
          have fj1 := hR2.out.fz (j - 1)
          have hL := W_hid (fun t => Calls.quiet_of_same (Less_any (Z j) (Z (j - 1)) (wr.drewN t)))
          by_cases hless : Z j < Z (j - 1)
          · have hd : decide (Z j < Z (j - 1)) = true := by simp [hless]
            have hI2 := W_hid (SO.ins_swap hI.out hja hji hless)
            have hS3 := W_hid (hS2.out.step (i := j) (j := j - 1) (by omega) (by omega) (by omega) (by omega))
            have hless := W_hid hless
            rw [hd] at hL
            generalize hzj : Z j = zj at *
            generalize hzk : Z (j - 1) = zk at *
            go_wp2_with fail
            go_quiet ((go_at_call 196; exact hL.out _))
            go_wp2_with fail
            obtain ⟨W, hW⟩ : ∃ W, wr.drewN nq = W := ⟨_, rfl⟩
            have hR3 : RW W g N Z rest := by rw [← hW]; exact hR2.out.drewN nq
            have hT3 : Two g g w W := by rw [← hW]; exact hT2.out.drew nq
            rw [hW]
            have dj := hR3.cell j (by omega)
            have dj1 := hR3.cell (j - 1) (by omega)
            rw [hzj] at dj
            rw [hzk] at dj1
            have gj := hR3.fz j
            have gj1 := hR3.fz (j - 1)
            have hR4 := W_hid (hR3.swap j (j - 1) (by omega) (by omega))
            rw [hzj, hzk] at hR4
            have hT4 := W_hid ((hT3.setCell (p := ⟨g, j, none⟩) (.inl rfl) (.int .u64 (zk : Int))).setCell (p := ⟨g, j - 1, none⟩) (.inl rfl) (.int .u64 (zj : Int)))
            clear hR3 hT3
            go_region
            go_wp2_with fail
            exact ⟨⟨j - 1, _, rfl, by omega, by omega, W_hid hR4.out.drew, hS3, hI2, W_hid ⟨hT4.out.os, hT4.out.tape, hT4.out.output, hT4.out.size, hT4.out.block⟩⟩, by simp [intOf]; omega⟩
          · have hd : decide (Z j < Z (j - 1)) = false := by simp [hless]
            have hU2 := W_hid (SO.ins_done hI.out haj hji (.inr (by omega)))
            have hless := W_hid hless
            rw [hd] at hL
            generalize hzj : Z j = zj at *
            generalize hzk : Z (j - 1) = zk at *
            go_wp2_with fail
            go_quiet ((go_at_call 196; exact hL.out _))
            go_wp2_with fail
            exact ⟨⟨i + 1, Z, by simp, by omega, .inl (by omega), W_hid (hR2.out.drewN nq), hS2, hU2, W_hid (hT2.out.drew nq)⟩, by simp [intOf]; omega⟩
        · have hU2 := W_hid (SO.ins_done hI.out haj hji (.inl (by omega)))
          go_wp2_with fail
          go_quiet (fail)
          go_wp2_with fail
          exact ⟨⟨i + 1, Z, by simp, by omega, .inl (by omega), W_hid (hR2.out.drewN nq), hS2, hU2, W_hid (hT2.out.drew nq)⟩, by simp [intOf]; omega⟩
    · have hU2 : SO.Up Y a b := fun p q h1 h2 h3 => hU.out p q h1 h2 (by omega)
      go_wp2_with fail
      go_end0
      exact ⟨rfl, hT.out, Y, hR.out, hS.out, hU2⟩
end Go.Proofs.YthdohimjcjkneaaGreatDoor

/- math/bits.Len: some number. -/
namespace Go.Proofs.YthdohimjcjkneaaGreatDoor
open Go.ChangeShapes Go.WideShapes Go.ChangeAt Go.RowKit
set_option linter.unusedVariables false
set_option linter.unusedSimpArgs false

theorem und_str : Tryz.prog.underlying 9 = some .string := by kernel_rfl
theorem str_at (s : ByteArray) (hs : s.size = 256) (k : Int) (hk : 0 ≤ k) (hk2 : k < 256) : ∃ t : Nat, t ≤ 255 ∧ ∀ w, (Instr.index 9 (.string s) (.int .u8 k)).run Tryz.prog w = .ok (.int .u8 (t : Int)) w := by
  have hlt : k.toNat < s.size := by omega
  refine ⟨(s[k.toNat]).toNat, by have := (s[k.toNat]).toNat_lt; omega, fun w => ?_⟩
  rw [run_index_string w _ s _ _ und_str, dif_pos ⟨by omega, by omega⟩]

set_option maxRecDepth 100000 in
set_option maxHeartbeats 4000000 in
theorem Len64_any (X : Int) (w : World) (h0 : 0 ≤ X) (hX : X < 65536) : Calls Tryz.prog 200 #[.int .u64 X] w fun e w' => (∃ k : Nat, e = .returned (.int .i64 (k : Int)) ∧ k ≤ 300) ∧ w' = w := by
  have d1 : X < 4294967296 := by omega
  go_enter Tryz.func200, Tryz.ntmps200
  generalize hT : Value.string _ = T
  have hI : ∀ k : Int, 0 ≤ k → k < 256 → ∃ t : Nat, t ≤ 255 ∧ ∀ w, (Instr.index 9 T (.int .u8 k)).run Tryz.prog w = .ok (.int .u8 (t : Int)) w := by
    intro k hk hk2
    rw [← hT]
    exact str_at _ (by rfl) k hk hk2
  clear hT
  by_cases h : 256 ≤ X
  · obtain ⟨t, ht, hi⟩ := hI (X / 256) (by omega) (by omega)
    clear hI
    have q0 : 0 ≤ X / 256 := by omega
    have q1 : X / 256 < 256 := by omega
    go_wp2_with fail
    go_ret
    exact ⟨⟨t + 8, by simp; omega, by omega⟩, rfl⟩
  · obtain ⟨t, ht, hi⟩ := hI X (by omega) (by omega)
    clear hI
    have h2 : X < 256 := by omega
    go_wp2_with fail
    go_ret
    exact ⟨⟨t, rfl, by omega⟩, rfl⟩

set_option maxRecDepth 100000 in
set_option maxHeartbeats 4000000 in
theorem Len_any (X : Int) (w : World) (h0 : 0 ≤ X) (hX : X < 65536) : Calls Tryz.prog 171 #[.int .u64 X] w fun e w' => (∃ k : Nat, e = .returned (.int .i64 (k : Int)) ∧ k ≤ 300) ∧ w' = w := by
  have c := Len64_any X w h0 hX
  go_enter Tryz.func171, Tryz.ntmps171
  go_wp2_with (go_at_call 200; refine c.mono ?_; rintro e w' ⟨⟨k, rfl, hk⟩, rfl⟩)
  go_ret
  exact ⟨⟨k, rfl, hk⟩, rfl⟩
end Go.Proofs.YthdohimjcjkneaaGreatDoor

/- slices.Sort of a dozen numbers at most. -/
namespace Go.Proofs.YthdohimjcjkneaaGreatDoor
open Go.ChangeShapes Go.WideShapes Go.ChangeAt Go.RowKit
set_option linter.unusedVariables false
set_option linter.unusedSimpArgs false

set_option maxRecDepth 100000 in
set_option maxHeartbeats 4000000 in
theorem pdq_small (g N cap k : Nat) (rest : List Value) (X : Nat → Nat) (w : World) (h : RW w g N X rest) (hN : N ≤ 12) (hcap : N ≤ cap) (hX : ∀ i, i < N → X i < 18446744073709551616) :
    Calls Tryz.prog 170 #[.slice (some ⟨g, 0, none⟩) N cap, .int .i64 0, .int .i64 (N : Int), .int .i64 (k : Int)] w fun e w' => e = .returned (.tuple #[]) ∧ Two g g w w' ∧ ∃ Y, RW w' g N Y rest ∧ SO.Sw 0 N X Y ∧ SO.Up Y 0 N := by
  have c := insert_any g N cap rest 0 N X w h (by omega) (by omega) (by omega) hcap hX
  go_enter Tryz.func170, Tryz.ntmps170
  go_wp2_with fail
  go_loopw [1, 2, 3, 8, 9] (fun a b l _ _ wr => a = .int .i64 0 ∧ b = .int .i64 (N : Int) ∧ l = .int .i64 (k : Int) ∧ wr = w) (fun _ _ _ _ _ _ => 0)
  case atStart => exact ⟨rfl, rfl, rfl, rfl⟩
  case round =>
    obtain ⟨rfl, rfl, rfl, rfl⟩ := hrel
    go_wp2_with (go_at_call 190; refine c.mono ?_; rintro e w' ⟨rfl, hT, Y, hR, hS, hU⟩)
    refine bodyPost_ret (results_none rfl _ _ _) rfl ?_
    exact ⟨rfl, hT, Y, hR, hS, hU⟩

set_option maxRecDepth 100000 in
set_option maxHeartbeats 4000000 in
theorem Sort_small (g N cap : Nat) (rest : List Value) (X : Nat → Nat) (w : World) (h : RW w g N X rest) (hN : N ≤ 12) (hcap : N ≤ cap) (hX : ∀ i, i < N → X i < 18446744073709551616) :
    Calls Tryz.prog 122 #[.slice (some ⟨g, 0, none⟩) N cap] w fun e w' => e = .returned (.tuple #[]) ∧ Two g g w w' ∧ ∃ Y, RW w' g N Y rest ∧ SO.Sw 0 N X Y ∧ SO.Up Y 0 N := by
  have cL := Len_any (N : Int) w (by omega) (by omega)
  have cP := W_hid (fun k : Nat => pdq_small g N cap k rest X w h hN hcap hX)
  clear h
  go_enter Tryz.func122, Tryz.ntmps122
  go_wp2_with (first
    | (go_at_call 171; refine cL.mono ?_; rintro e w' ⟨⟨k, rfl, hk⟩, rfl⟩)
    | (go_at_call 170; refine (cP.out _).mono ?_; rintro e w' ⟨rfl, hT, Y, hR, hS, hU⟩))
  go_end0
  exact ⟨rfl, hT, Y, hR, hS, hU⟩

/-- What Sort does to rows of so many numbers. -/
def Sorts (m : Nat) : Prop := ∀ (g N cap : Nat) (rest : List Value) (X : Nat → Nat) (w : World), N ≤ m → RW w g N X rest → N ≤ cap → (∀ i, i < N → X i < 18446744073709551616) →
  Calls Tryz.prog 122 #[.slice (some ⟨g, 0, none⟩) N cap] w fun e w' => e = .returned (.tuple #[]) ∧ Two g g w w' ∧ ∃ Y, RW w' g N Y rest ∧ SO.Sw 0 N X Y ∧ SO.Up Y 0 N
theorem sorts_small : Sorts 12 := fun g N cap rest X w hN h hcap hX => Sort_small g N cap rest X w h hN hcap hX

/-- A slice of the call's own that holds these numbers, rising. -/
structure Nlist (base : Nat) (w : World) (v : Value) (l : List Nat) : Prop where
  ex : ∃ (g cap : Nat) (rest : List Value), v = .slice (some ⟨g, 0, none⟩) l.length cap ∧ base ≤ g ∧ l.length ≤ cap ∧ Blk w g 36 (l.map nk ++ rest)
theorem Nlist.keep {base : Nat} {w w' : World} {v : Value} {l : List Nat} (h : Nlist base w v l) (hb : Below w.heap.size w w') : Nlist base w' v l := by
  obtain ⟨g, cap, rest, e, h1, h2, h3⟩ := h.ex
  exact ⟨⟨g, cap, rest, e, h1, h2, h3.keep hb⟩⟩

theorem lst_of (l : List Nat) : SO.lst (fun i => l.getD i 0) l.length = l := by
  apply List.ext_getElem?
  intro i
  by_cases h : i < l.length
  · rw [SO.lst_get _ _ _ h]; simp [List.getD, h]
  · rw [List.getElem?_eq_none (by rw [SO.lst_len]; omega), List.getElem?_eq_none (by omega)]

theorem up_pairwise {X : Nat → Nat} {N : Nat} (h : SO.Up X 0 N) : (SO.lst X N).Pairwise (· ≤ ·) := by
  unfold SO.lst
  rw [List.pairwise_map]
  rw [List.pairwise_iff_getElem]
  intro i j hi hj hij
  simp only [List.length_range] at hi hj
  simp only [List.getElem_range]
  exact h i j (by omega) hij hj

set_option maxRecDepth 100000 in
set_option maxHeartbeats 4000000 in
/-- slices.Sorted of what Keys handed back. -/
theorem Sorted_any (mx : Nat) (hs : Sorts mx) (Bm b : Nat) (M : Nat → Option (Nat → Nat)) (w : World) (hBm : Bm < w.heap.size) (hb : b < w.heap.size) (hm : w.cell? ⟨Bm, 0, none⟩ = some (.map (some b))) (hMB : MB w b M)
    (hsm : ∀ ss, Nums M ss → ss.length ≤ mx) (hne : ∃ f, M f ≠ none) :
    Calls Tryz.prog 66 #[.func (.func 123) #[] #[.pointer (some ⟨Bm, 0, none⟩)]] w fun e w' => ∃ (v : Value) (l : List Nat), e = .returned v ∧ Nums M l ∧ l.Pairwise (· ≤ ·) ∧ Nlist w.heap.size w' v l ∧ Below w.heap.size w w' := by
  have cC := Collect_any Bm b M w hBm hb hm hMB
  have hlt := fun ss (h : Nums M ss) => h.lt hMB
  have hs := W_hid hs
  clear hm
  go_enter Tryz.func66, Tryz.ntmps66
  go_wp2_with (go_at_call 121; refine cC.mono ?_; rintro e w1 ⟨v, ss, rfl, hN, hown, hnil, hB⟩)
  have hne0 : ss ≠ [] := by
    obtain ⟨f, hf⟩ := hne
    intro e
    have := (hN.2 f).2 hf
    rw [e] at this
    cases this
  rcases hown.2 with ⟨h0, -⟩ | ⟨g, cap, cur, rfl, hbase, hg, h1, h2, h3, h4⟩
  · exact absurd (hnil.1 h0) hne0
  have hrw : RW w1 g ss.length (fun i => ss.getD i 0) (cur.toList.drop ss.length) := by
    refine ⟨?_⟩
    unfold Blk
    rw [hg, lst_of]
    have e : ss.map nk ++ cur.toList.drop ss.length = cur.toList := by
      rw [Nat.mul_one] at h4
      rw [← h4, List.take_append_drop]
    rw [e]
  have cS := W_hid (hs.out g ss.length cap _ _ w1 (hsm ss hN) hrw (by omega) (fun i hi => by
    have := hlt ss hN (ss.getD i 0) (by rw [List.getD, List.getElem?_eq_getElem hi]; exact List.getElem_mem _)
    omega))
  clear hrw h4 h3 hg
  go_wp2_with (go_at_call 122; refine cS.out.mono ?_; rintro e w2 ⟨rfl, hT, Y, hR, hS, hU⟩)
  go_ret
  refine ⟨_, SO.lst Y ss.length, rfl, ⟨?_, fun f => ?_⟩, up_pairwise hU, ⟨⟨g, cap, _, by rw [SO.lst_len]; rfl, hbase, by rw [SO.lst_len]; exact h1, hR.blk⟩⟩, hB.trans (hT.below hB.size hbase hbase)⟩
  · refine SO.lst_nodup _ _ (hS.inj (Nat.le_refl _) (SO.inj_of_nodup _ _ ?_))
    rw [lst_of]; exact hN.1
  · rw [hS.mem (Nat.le_refl _), lst_of, hN.2 f]

set_option maxRecDepth 100000 in
set_option maxHeartbeats 4000000 in
theorem Tables_any (mx : Nat) (hs : Sorts mx) (g pg r b : Nat) (M : Nat → Option (Nat → Nat)) (w : World) (h : TM w g pg r b M) (hsm : ∀ ss, Nums M ss → ss.length ≤ mx) (hne : ∃ f, M f ≠ none) :
    Calls Tryz.prog 24 #[.pointer (some ⟨g, 0, none⟩)] w fun e w' => ∃ (v : Value) (l : List Nat), e = .returned v ∧ Nums M l ∧ l.Pairwise (· ≤ ·) ∧ Nlist w.heap.size w' v l ∧ Below w.heap.size w w' := by
  have cN := none_tree g pg r b M w h
  have c2 := h.box.cell (j := 2) rfl
  have cK := Keys_any b w
  have bm := h.mb.lt
  have hc := (Blk.new w 117 [.map (some b)] rfl).cell (j := 0) rfl
  have cS := W_hid (Sorted_any mx hs w.heap.size b M (w.alloc (.cells #[.map (some b)] 117)) (by simp) (by simp; omega) hc (h.mb.keep ((Below.refl _ w).alloc (Nat.le_refl _) _)) hsm hne)
  clear h hs
  go_enter Tryz.func24, Tryz.ntmps24
  go_wp2_with (first
    | (go_at_call 64; refine cN.mono ?_; rintro e w1 ⟨rfl, rfl⟩)
    | (go_at_call 67; refine cK.mono ?_; rintro e w1 ⟨rfl, rfl⟩)
    | (go_at_call 66; refine cS.out.mono ?_; rintro e w1 ⟨v, l, rfl, hN, hp, hl, hB⟩))
  go_ret
  have hB1 : Below w.heap.size w (w.alloc (.cells #[.map (some b)] 117)) := (Below.refl _ w).alloc (Nat.le_refl _) _
  refine ⟨v, l, rfl, hN, hp, ?_, hB1.trans (hB.mono hB1.size)⟩
  obtain ⟨x, cap, rest, e, h1, h2, h3⟩ := hl.ex
  exact ⟨⟨x, cap, rest, e, by simp at h1; omega, h2, h3⟩⟩
end Go.Proofs.YthdohimjcjkneaaGreatDoor

/- The law's helpers: opened, shown. -/
namespace Go.Proofs.YthdohimjcjkneaaGreatDoor
open Go.ChangeShapes Go.WideShapes Go.ChangeAt Go.RowKit
set_option linter.unusedVariables false
set_option linter.unusedSimpArgs false

theorem fresh_lt {n x : Nat} (h : x < n) : fresh n x = false := by
  unfold fresh FR.st
  simp
  omega
def T0 (n : Nat) : Nat → Bool := FR.st (fresh n) 0 1 true
theorem low_fresh (n : Nat) (h : 1 ≤ n) : FR.Low (fresh n) n 1 0 := by
  refine ⟨rfl, by omega, fun i hi => ?_, fun f' hf => by omega⟩
  exact fresh_lt (by omega)

set_option maxRecDepth 100000 in
set_option maxHeartbeats 2000000 in
theorem opened_any (n : Nat) (h1 : 1 ≤ n) (h2 : n ≤ 65536) (w : World) (hk : KT w) :
    Calls Tryz.prog 15 #[.int .i64 (n : Int)] w fun e w' => ∃ g pg pb b M, e = .returned (.tuple #[.pointer (some ⟨pg, 0, none⟩), .pointer (some ⟨g, 0, none⟩), .bool true]) ∧ w.heap.size ≤ g ∧ w.heap.size ≤ pg ∧ w.heap.size ≤ pb ∧ w.heap.size ≤ b ∧
      Full w' g pg pb n (words n) (T0 n) 0 b M (F0 0) G0 ∧ Below w.heap.size w w' := by
  have hP := W_hid (New_yes n h1 h2)
  have hN := W_hid (fun pg pb w hP hk q1 q2 => New_yesT pg pb n (words n) 0 (fresh n) w hP hk q1 q2 (low_fresh n h1))
  have hkl := hk.lt
  replace hk := W_hid hk
  have hne : ∀ g w, (binOp .neq 25 (.pointer (some ⟨g, 0, none⟩)) (.pointer none)).run Tryz.prog w = .ok (.bool true) w := fun g w => by kernel_rfl
  go_enter Tryz.func15, Tryz.ntmps15
  go_wp2_with fail
  refine (hP.out w).mono ?_
  rintro e w1 ⟨pg, rfl, hpg, hPL, bel1⟩
  have hc := W_hid (hN.out pg w.heap.size w1 hPL (hk.out.keep bel1) (by omega) (by omega))
  clear hPL hP hN
  go_wp2_with fail
  refine hc.out.mono ?_
  rintro e w2 ⟨g, b, M, rfl, hg, hb, hF, hB⟩
  have hres := W_hid (bel1.trans (hB.below (by simp; omega) bel1.size))
  have hs := bel1.size
  replace hF := W_hid hF
  clear hc hB bel1
  go_wp2
  go_ret3
  exact ⟨g, pg, w.heap.size, b, M, rfl, by omega, by omega, Nat.le_refl _, by omega, hF.out, hres.out⟩

theorem takes_shown : Takes (T0 8) 8 [1, 2, 3] := by
  have key : ∀ j, j < 3 → ([1, 2, 3] : List Nat).getD j 0 = j + 1 ∧ takeAll (T0 8) (([1, 2, 3] : List Nat).take j) (j + 1) = false ∧ ∀ f', f' < j + 1 → takeAll (T0 8) (([1, 2, 3] : List Nat).take j) f' = true := by decide
  intro j hj
  simp only [List.length_cons, List.length_nil] at hj
  obtain ⟨e, h1, h2⟩ := key j (by omega)
  have e' : ([1, 2, 3] : List Nat)[j] = j + 1 := by
    rw [← e, List.getD, List.getElem?_eq_getElem (by simpa using hj)]; rfl
  rw [e']
  refine ⟨Nat.mod_one _, by omega, fun i hi => ?_, fun f' hf _ h => ?_⟩
  · obtain rfl : i = 0 := by omega
    exact h1
  · have := h 0 (by omega)
    rw [Nat.add_zero, h2 f' hf] at this
    cases this

def FS : RX.Tabs := RX.addT (F0 0) 4096 4 [1, 2, 3]
def GS : RX.Pags := RX.updG G0 1 (4096 / EN.sz (1 - 1)) (some (9, 3))
theorem right_39 : EN.right false false 3 9 (lv false : Nat) := ⟨by decide, by decide, by decide, .inr ⟨rfl, .inr (.inl rfl), .inl ⟨rfl, rfl⟩⟩⟩
theorem mapR_shown : MapR (F0 0) G0 (T0 8) 8 4096 1 9 3 0 FS GS (takeAll (T0 8) [1, 2, 3]) := by
  refine .done 4 (fun k => if k = 4 then 0 else 0) ⟨⟨by omega, by omega, fun k h1 h2 => ?_, fun k hk => by rw [if_neg (by omega)]⟩, by omega, .inr ?_⟩ ?_ [1, 2, 3] rfl takes_shown
  · obtain rfl : k = 4 := by omega
    rfl
  · rfl
  · rfl
theorem fs_some {l j f : Nat} (h : FS l j = some f) : f < 4 := by
  simp only [FS, RX.addT, RX.updF, F0] at h
  repeat' (split at h)
  all_goals first
    | (simp only [Option.some.injEq] at h; omega)
    | (simp at h)
theorem fs_has (f : Nat) (h : f < 4) : ∃ l j, FS l j = some f := by
  have : f = 0 ∨ f = 1 ∨ f = 2 ∨ f = 3 := by omega
  rcases this with rfl | rfl | rfl | rfl
  · exact ⟨4, 0, by rfl⟩
  · exact ⟨3, 0, by rfl⟩
  · exact ⟨2, 0, by rfl⟩
  · exact ⟨1, 0, by rfl⟩
theorem nums_shown {M : Nat → Option (Nat → Nat)} (R : RX.Rep M FS GS) : (∃ f, M f ≠ none) ∧ ∀ ss, Nums M ss → ss.length = 4 := by
  have hi : ∀ f, M f ≠ none ↔ f < 4 := by
    intro f
    constructor
    · intro h
      apply Classical.byContradiction
      intro h4
      exact h (R.no (fun l j e => h4 (fs_some e)))
    · intro h
      obtain ⟨l, j, e⟩ := fs_has f h
      obtain ⟨ws, hM, -⟩ := R.yes e
      rw [hM]; simp
  refine ⟨⟨0, (hi 0).2 (by omega)⟩, fun ss h => ?_⟩
  have hp : ss.Perm (List.range 4) := (List.perm_ext_iff_of_nodup h.1 List.nodup_range).2 (fun f => by rw [h.2 f, hi f, List.mem_range])
  simpa using hp.length_eq

theorem walkA_shown : walkA GS 4100 1 = 36868 := by rfl
theorem walkC_shown : walkC GS 4100 1 = 0 := by rfl

set_option maxRecDepth 100000 in
set_option maxHeartbeats 2000000 in
theorem shown_any (w : World) (hk : KT w) : Calls Tryz.prog 14 #[] w fun e w' => e = .returned (.bool true) ∧ Below w.heap.size w w' := by
  have cO := opened_any 8 (by omega) (by omega) w hk
  have hMp := W_hid (fun g pg pb b M w (h : Full w g pg pb 8 (words 8) (T0 8) 0 b M (F0 0) G0) => Map_yes g pg pb 8 (words 8) 0 b 4096 9 false 3 0 (T0 8) _ M (F0 0) FS G0 GS w h (by omega) right_39 (by rfl) mapR_shown)
  have hWk := W_hid (fun g pg pb b M T w (h : Full w g pg pb 8 (words 8) T 0 b M FS GS) => Walk_yes g pg pb 8 (words 8) 0 b 4100 1 T M FS GS w h (by rfl))
  rw [walkA_shown, walkC_shown] at hWk
  have hTb := W_hid (fun g pg pb b M T w (h : Full w g pg pb 8 (words 8) T 0 b M FS GS) => Tables_any 12 sorts_small g pg 0 b M w h.tt.tm (fun ss hs => by have := (nums_shown h.rep).2 ss hs; omega) (nums_shown h.rep).1)
  clear hk
  go_enter Tryz.func14, Tryz.ntmps14
  go_wp2_with fail
  refine cO.mono ?_
  rintro e w1 ⟨g, pg, pb, b, M, rfl, hg, hpg, hpb, hb, hF, bel1⟩
  replace hMp := W_hid (hMp.out g pg pb b M w1 hF)
  clear cO hF
  go_wp2_with fail
  refine hMp.out.mono ?_
  rintro e w2 ⟨rfl, ⟨M2, hF2⟩, hB⟩
  have bel2 := bel1.trans (hB.below (by simp; omega) bel1.size)
  replace hWk := W_hid (hWk.out g pg pb b M2 _ w2 hF2)
  have HF2 := W_hid hF2
  clear hMp hB bel1 hF2
  go_wp2_with fail
  refine hWk.out.mono ?_
  rintro e w3 ⟨rfl, bel⟩
  have hF3 := HF2.out.keep bel
  have hres := bel2.trans (bel.mono bel2.size)
  have hn := (nums_shown hF3.rep).2
  replace hTb := W_hid (hTb.out g pg pb b M2 _ w3 hF3)
  clear HF2 hWk bel bel2 hF3
  go_wp2_with fail
  refine hTb.out.mono ?_
  rintro e w4 ⟨v, l, rfl, hN, hp, hl, belT⟩
  obtain ⟨x, cap, rest, rfl, h1, h2, h3⟩ := hl.ex
  rw [hn l hN]
  replace hres := W_hid (hres.trans (belT.mono hres.size))
  clear hTb hl hn hN hp belT h3
  go_wp2
  go_ret
  exact ⟨rfl, hres.out⟩
end Go.Proofs.YthdohimjcjkneaaGreatDoor

/- The table of kinds as the rows list it: its cells; and the heap that the program's own initialisers leave meets the condition. -/
namespace Go.Proofs.YthdohimjcjkneaaGreatDoor
open Go.ChangeShapes Go.WideShapes Go.ChangeAt Go.RowKit
set_option linter.unusedVariables false
set_option linter.unusedSimpArgs false

theorem own_knob : ownKnob Tryz.prog.godebug = none := by kernel_rfl
theorem kinds_named : Tryz.prog.globalNamed "hayward/entry.kinds" = some 0 := by kernel_rfl
theorem kinds_type : (Tryz.prog.globals[0]?).map (·.type) = some 212 := by kernel_rfl

theorem cell_bool {H : Type} {enc : TypeId × Value → H} {W : World} {m b0 : Nat} {s : Nat → Bool} {hl : Bool} {v : Value} {b : Bool} {x : DataW H × List MemPlace} (h : DataW.trod enc Tryz.prog W b0 s hl m 4 [v] = some x) (hx : x.1 = .lit (.bool b)) : v = .bool b := by
  obtain ⟨z, e, rfl⟩ := DataW.trod_bool Tryz.underlying4 h
  simp at hx; subst hx; simpa using e
theorem cell_int {H : Type} {enc : TypeId × Value → H} {W : World} {m b0 : Nat} {s : Nat → Bool} {hl : Bool} {v : Value} {b : Int} {x : DataW H × List MemPlace} (h : DataW.trod enc Tryz.prog W b0 s hl m 3 [v] = some x) (hx : x.1 = .lit (.int .i64 b)) : v = .int .i64 b := by
  obtain ⟨z, e, rfl, -⟩ := DataW.trod_int Tryz.underlying3 h
  simp at hx; subst hx; simpa using e
theorem cell_u64 {H : Type} {enc : TypeId × Value → H} {W : World} {m b0 : Nat} {s : Nat → Bool} {hl : Bool} {v : Value} {b : Int} {x : DataW H × List MemPlace} (h : DataW.trod enc Tryz.prog W b0 s hl m 36 [v] = some x) (hx : x.1 = .lit (.int .u64 b)) : v = .int .u64 b := by
  obtain ⟨z, e, rfl, -⟩ := DataW.trod_int Tryz.underlying36 h
  simp at hx; subst hx; simpa using e

/-- One kind's six cells. -/
theorem kind_cells {H : Type} {enc : TypeId × Value → H} {W : World} {m b0 : Nat} {s : Nat → Bool} {hl : Bool} {v0 v1 v2 v3 v4 v5 : Value} {a b : Bool} {lo hi F S : Int} {x : DataW H × List MemPlace}
    (h : DataW.trod enc Tryz.prog W b0 s hl m 211 [v0, v1, v2, v3, v4, v5] = some x) (hx : x.1 = .agg [.lit (.bool a), .lit (.bool b), .lit (.int .i64 lo), .lit (.int .i64 hi), .lit (.int .u64 F), .lit (.int .u64 S)]) :
    [v0, v1, v2, v3, v4, v5] = [.bool a, .bool b, .int .i64 lo, .int .i64 hi, .int .u64 F, .int .u64 S] := by
  obtain ⟨xs, n, -, rfl, -, hlen, hf⟩ := DataW.trod_struct Tryz.underlying211 h
  match xs, hlen with
  | [y0, y1, y2, y3, y4, y5], _ =>
    have t0 : Tryz.prog.cellsOf 4 = 1 := by kernel_rfl
    have t1 : Tryz.prog.cellsOf 36 = 1 := by kernel_rfl
    have t2 : Tryz.prog.cellsOf 3 = 1 := by kernel_rfl
    have g0 := hf 0 _ rfl
    have g1 := hf 1 _ rfl
    have g2 := hf 2 _ rfl
    have g3 := hf 3 _ rfl
    have g4 := hf 4 _ rfl
    have g5 := hf 5 _ rfl
    simp [t0, t1, t2] at g0 g1 g2 g3 g4 g5
    simp at hx
    obtain ⟨e0, e1, e2, e3, e4, e5⟩ := hx
    rw [cell_bool g0 e0, cell_bool g1 e1, cell_int g2 e2, cell_int g3 e3, cell_u64 g4 e4, cell_u64 g5 e5]

theorem eighteen {l : List Value} (h : l.length = 18) : ∃ a0 a1 a2 a3 a4 a5 b0 b1 b2 b3 b4 b5 c0 c1 c2 c3 c4 c5, l = [a0, a1, a2, a3, a4, a5, b0, b1, b2, b3, b4, b5, c0, c1, c2, c3, c4, c5] := by
  match l, h with
  | [a0, a1, a2, a3, a4, a5, b0, b1, b2, b3, b4, b5, c0, c1, c2, c3, c4, c5], _ => exact ⟨_, _, _, _, _, _, _, _, _, _, _, _, _, _, _, _, _, _, rfl⟩

/-- What the condition gives the walks. -/
theorem kt_of_laid {W : World} (h : laidMetH Tryz.prog [("hayward/entry.kinds", Rows.laid_hayward_entry_kinds)] W) : KT W := by
  rw [MakeChecks.laidMetH_plain _ _ _ (by kernel_rfl)] at h
  obtain ⟨ps, ⟨g0, t0, cs0, f0, p0, q0, hg0, ht0, hv0, hd0, -⟩, -⟩ := h
  obtain rfl := Option.some.inj (kinds_named.symm.trans hg0)
  obtain rfl := Option.some.inj (kinds_type.symm.trans ht0)
  obtain ⟨l⟩ := cs0
  obtain ⟨xs, m1, -, hx1, hlen, hn, hel⟩ := DataW.trod_array Tryz.underlying212 hd0
  rw [show Tryz.prog.cellsOf 212 = 18 from by kernel_rfl] at hlen
  rw [show Tryz.prog.cellsOf 211 = 6 from by kernel_rfl] at hel
  obtain ⟨a0, a1, a2, a3, a4, a5, b0, b1, b2, b3, b4, b5, c0, c1, c2, c3, c4, c5, rfl⟩ := eighteen hlen
  match xs, hn, hx1, hel with
  | [x0, x1, x2], _, hx1, hel =>
    simp only [Prod.mk.injEq] at hx1
    have hx2 := hx1.1
    unfold Rows.laid_hayward_entry_kinds at hx2
    simp only [List.map_cons, List.map_nil, DataW.agg.injEq, List.cons.injEq, and_true] at hx2
    obtain ⟨e0, e1, e2⟩ := hx2
    have k0 := kind_cells (hel 0 (by decide)) e0.symm
    have k1 := kind_cells (hel 1 (by decide)) e1.symm
    have k2 := kind_cells (hel 2 (by decide)) e2.symm
    simp only [List.cons.injEq, and_true] at k0 k1 k2
    obtain ⟨rfl, rfl, rfl, rfl, rfl, rfl⟩ := k0
    obtain ⟨rfl, rfl, rfl, rfl, rfl, rfl⟩ := k1
    obtain ⟨rfl, rfl, rfl, rfl, rfl, rfl⟩ := k2
    unfold World.var? at hv0
    rw [kinds_named] at hv0
    simp only [Option.bind_some] at hv0
    split at hv0
    · rename_i cs t fr heq
      cases hv0
      exact ⟨t, fr, heq⟩
    · cases hv0

/-- The heap that the program's own initialisers leave meets the condition. -/
theorem kinds_met (os : Os) (args : Array Value) : laidMetH Tryz.prog [("hayward/entry.kinds", Rows.laid_hayward_entry_kinds)] ((World.doorLaid Tryz.prog 400 os).forCall (fun _ _ => 0) ⟨#[], args, []⟩).memory :=
  laidMetH_of_parts3 (fuel := 8) (laidMet_of_run' 8 (by kernel_rfl) (by kernel_rfl)) (by kernel_rfl) (by kernel_rfl)

end Go.Proofs.YthdohimjcjkneaaGreatDoor

/- The laws of layer 8, continued: what those with calls share (open_ops8), and RadixLeads: for every input it returns true, and its arguments read as before. What the row lists of package variables is tied to the program's text by the card; no further condition. -/
namespace Go.Proofs.YthdohimjcjkneaaGreatDoor
open Go.ChangeShapes Go.WideShapes Go.ChangeAt Go.RowKit
set_option linter.unusedVariables false
set_option linter.unusedSimpArgs false

/-- A call: kind, address, frame, permissions, large. -/
abbrev OpT := Int × Nat × Nat × Int × Bool
def OpFit (x : OpT) : Prop := -9223372036854775808 ≤ x.1 ∧ x.1 ≤ 9223372036854775807 ∧ x.2.1 < 18446744073709551616 ∧ x.2.2.1 < 18446744073709551616 ∧ -9223372036854775808 ≤ x.2.2.2.1 ∧ x.2.2.2.1 ≤ 9223372036854775807
/-- What the walk is told of a slice of calls that came in. -/
def OS8 (w : World) (a : Option Addr) (len cap : Nat) (l : List OpT) : Prop :=
  len ≤ maxLen ∧ l.length = len ∧ ∀ j (hj : j < l.length), ∃ blk off, a = some ⟨blk, off, none⟩ ∧ blk < w.heap.size ∧ w.cell? ⟨blk, off + j * 5, none⟩ = some (.int .i64 l[j].1) ∧
    w.cell? ⟨blk, off + j * 5 + 1, none⟩ = some (.int .u64 (l[j].2.1 : Int)) ∧ w.cell? ⟨blk, off + j * 5 + 2, none⟩ = some (.int .u64 (l[j].2.2.1 : Int)) ∧ w.cell? ⟨blk, off + j * 5 + 3, none⟩ = some (.int .i64 l[j].2.2.2.1) ∧ w.cell? ⟨blk, off + j * 5 + 4, none⟩ = some (.bool l[j].2.2.2.2) ∧ OpFit l[j]

set_option maxRecDepth 100000 in
theorem open_ops8 {H : Type} {enc : TypeId × Value → H} {W : World} {r : Reach} {b0 : Nat} {v : Value} {d : DataW H} {p : List MemPlace} (hv : Value.okWide Tryz.prog W r b0 22 v)
    (h : DataW.Trod enc Tryz.prog W 0 (fun _ => true) true 22 v d p) :
    ∃ (ao : Option Addr) (n cap : Nat) (l : List OpT), v = .slice ao n cap ∧ OS8 W ao n cap l := by
  obtain ⟨a, len, cap, rfl⟩ := okWide_slice Tryz.underlying22 hv
  obtain ⟨fuel, hf⟩ := h
  rcases Deep.open_slice Tryz.underlying22 hf with ⟨e1, -⟩ | ⟨x, len', cap', m, n, D, Pl, e1, hb, hl, hm, hmm, -, hx⟩
  · simp [Value.cells] at e1
    obtain ⟨rfl, rfl, rfl⟩ := e1
    exact ⟨none, 0, 0, [], rfl, Nat.zero_le _, rfl, fun j hj => by simp at hj⟩
  · simp [Value.cells] at e1
    obtain ⟨rfl, rfl, rfl⟩ := e1
    have hlm : len ≤ m := by rw [hmm]; split <;> omega
    have each : ∀ i, i < len → ∃ q : OpT, W.cell? (x.add (i * 5)) = some (.int .i64 q.1) ∧ W.cell? (x.add (i * 5 + 1)) = some (.int .u64 (q.2.1 : Int)) ∧ W.cell? (x.add (i * 5 + 2)) = some (.int .u64 (q.2.2.1 : Int)) ∧ W.cell? (x.add (i * 5 + 3)) = some (.int .i64 q.2.2.2.1) ∧ W.cell? (x.add (i * 5 + 4)) = some (.bool q.2.2.2.2) ∧ OpFit q := by
      intro i hi
      obtain ⟨cs', h1, h2⟩ := hx i (by omega)
      rw [show Tryz.prog.cellsOf 40 = 5 from by kernel_rfl] at h1
      obtain ⟨_, hlen, hcell⟩ := World.cells?_some h1
      obtain ⟨xs, k, hk, hxy, _, hxl, hff⟩ := DataW.trod_struct Tryz.underlying40 h2
      match xs, hxl, cs', hlen with
      | [x0, x1], _, [v0, v1, v2, v3, v4], _ =>
        have g0 := hff 0 _ rfl
        have gg := hff 1 _ rfl
        have t0 : Tryz.prog.cellsOf 4 = 1 := by kernel_rfl
        have t1 : Tryz.prog.cellsOf 36 = 1 := by kernel_rfl
        have t2 : Tryz.prog.cellsOf 3 = 1 := by kernel_rfl
        have t3 : Tryz.prog.cellsOf 38 = 4 := by kernel_rfl
        simp [t2, t3] at g0 gg
        obtain ⟨xs2, k2, hk2, hxy2, _, hxl2, hff2⟩ := DataW.trod_struct Tryz.underlying38 gg
        match xs2, hxl2 with
        | [y1, y2, y3, y4], _ =>
        have g1 := hff2 0 _ rfl
        have g2 := hff2 1 _ rfl
        have g3 := hff2 2 _ rfl
        have g4 := hff2 3 _ rfl
        simp [t0, t1, t2] at g1 g2 g3 g4
        have e0 := hcell 0 (by omega)
        have e1 := hcell 1 (by omega)
        have e2 := hcell 2 (by omega)
        have e3 := hcell 3 (by omega)
        have e4 := hcell 4 (by omega)
        rw [Deep.add_add] at e0 e1 e2 e3 e4
        obtain ⟨z0, q0, -, b0⟩ := DataW.trod_int Tryz.underlying3 g0
        obtain ⟨z1, q1, -, b1⟩ := DataW.trod_int Tryz.underlying36 g1
        obtain ⟨z2, q2, -, b2⟩ := DataW.trod_int Tryz.underlying36 g2
        obtain ⟨z3, q3, -, b3⟩ := DataW.trod_int Tryz.underlying3 g3
        obtain ⟨z4, q4, -⟩ := DataW.trod_bool Tryz.underlying4 g4
        have b0' := bounds_i64 b0
        have b1' := bounds_u64 b1
        have b2' := bounds_u64 b2
        have b3' := bounds_i64 b3
        simp at q0 q1 q2 q3 q4
        subst q0 q1 q2 q3 q4
        obtain ⟨y, rfl⟩ : ∃ y : Nat, z1 = y := ⟨z1.toNat, by omega⟩
        obtain ⟨z, rfl⟩ : ∃ z : Nat, z2 = z := ⟨z2.toNat, by omega⟩
        exact ⟨(z0, y, z, z3, z4), by simpa using e0, by simpa using e1, by simpa using e2, by simpa using e3, by simpa using e4, b0'.1, b0'.2, (by show y < _; omega), (by show z < _; omega), b3'.1, b3'.2⟩
    have key : ∀ k, k ≤ len → ∃ l : List OpT, l.length = k ∧ ∀ j (hj : j < l.length), W.cell? (x.add (j * 5)) = some (.int .i64 l[j].1) ∧ W.cell? (x.add (j * 5 + 1)) = some (.int .u64 (l[j].2.1 : Int)) ∧ W.cell? (x.add (j * 5 + 2)) = some (.int .u64 (l[j].2.2.1 : Int)) ∧ W.cell? (x.add (j * 5 + 3)) = some (.int .i64 l[j].2.2.2.1) ∧ W.cell? (x.add (j * 5 + 4)) = some (.bool l[j].2.2.2.2) ∧ OpFit l[j] := by
      intro k
      induction k with
      | zero => exact fun _ => ⟨[], rfl, fun j hj => by simp at hj⟩
      | succ k ih =>
        intro hk
        obtain ⟨l, h1, h2⟩ := ih (by omega)
        obtain ⟨q, hq⟩ := each k (by omega)
        refine ⟨l ++ [q], by simp [h1], fun j hj => ?_⟩
        by_cases hjl : j < l.length
        · rw [List.getElem_append_left hjl]; exact h2 j hjl
        · have : j = k := by simp at hj; omega
          subst this
          rw [List.getElem_append_right (by omega)]
          simpa [h1] using hq
    obtain ⟨l, h1, h2⟩ := key len (Nat.le_refl _)
    refine ⟨some x, len, cap, l, rfl, Nat.le_trans hl hm, h1, fun j hj => ?_⟩
    obtain ⟨c0, c1, c2, c3, c4, hbn⟩ := h2 j hj
    obtain ⟨b, off, spot⟩ := x
    have h0 := (h2 0 (by omega)).1
    have hs : spot = none := by simpa [Addr.add] using World.cell?_spot h0
    subst hs
    rw [Addr.add_lit] at c0 c1 c2 c3 c4
    exact ⟨b, off, rfl, cell_lt c0, c0, by rw [← Nat.add_assoc] at c1; exact c1, by rw [← Nat.add_assoc] at c2; exact c2, by rw [← Nat.add_assoc] at c3; exact c3, by rw [← Nat.add_assoc] at c4; exact c4, hbn⟩

/-- Both trees, new. -/
theorem ds_new {w w' : World} {g pg pb n m b g2 pg2 pb2 : Nat} {M : Nat → Option (Nat → Nat)} {tv : Value} {D : List Nat} (hn : 1 ≤ n) (hF : Full w g pg pb n m (T0 n) 0 b M (F0 0) G0) (hd : DM w' D g2 pg2 pb2 n (FR.st (fresh n) 0 1 true) (.slice none 0 0) tv [] [(0, 4, 0)])
    (hb : Below w.heap.size w w') (hD : ∀ x ∈ D, w.heap.size ≤ x) : ∃ D2, (∀ x ∈ D2, w.heap.size ≤ x) ∧ DS w' g pg pb n m 0 b D2 g2 pg2 pb2 (T0 n) (T0 n) (F0 0) (F0 0) G0 G0 0 := by
  obtain ⟨D2, a1, a2, a3⟩ := hd.own_lt
  have hl := hF.lts
  have hf : ∀ {l j f}, F0 0 l j = some f → l = 4 ∧ j = 0 ∧ f = 0 := by
    intro l j f h
    unfold F0 at h
    split at h
    · rename_i hc
      simp only [Option.some.injEq] at h
      omega
    · cases h
  refine ⟨D2, fun x hx => hD x (a1 x hx), ⟨M, hF.keep hb⟩, ⟨_, _, _, _, a3, ⟨List.Pairwise.nil, fun x => ⟨fun h => by simp at h, ?_⟩⟩, ⟨rfl, by simp, fun x => ⟨fun h => ?_, ?_⟩⟩, Nat.zero_le _, Nat.le_refl _⟩, ⟨fun l j f h hl => by have := hf h; omega, fun f hfn hT => ⟨4, 0, ?_⟩⟩, fun x hx => ?_, a2⟩
  · rintro ⟨k, -, -, hI⟩
    have := hI.1
    simp [G0] at this
  · simp only [List.mem_singleton] at h
    subst h
    exact ⟨0, rfl, by simp⟩
  · rintro ⟨j, h1, h2⟩
    obtain ⟨e1, e2, e3⟩ := hf h1
    obtain ⟨x1, x2, x3⟩ := x
    simp only at e1 e2 e3 h2
    subst e1 e2 e3
    simp [h2]
  · have : f = 0 := by
      apply Classical.byContradiction
      intro hne
      have e : T0 n f = fresh n f := by unfold T0 FR.st; rw [if_neg (by omega)]
      rw [e, fresh_lt hfn] at hT
      cases hT
    rw [this]; rfl
  · have := hD x (a1 x hx)
    omega

/-- The page of an address in a page. -/
theorem pg_is {F : RX.Tabs} {G : RX.Pags} {r n k va : Nat} {x : RX.Pg} (I : RX.Inv F G r n) (h : RX.Is G k x) (hk : 1 ≤ k ∧ k ≤ 2) (hv : va / EN.sz (k - 1) = x.1 / EN.sz (k - 1)) : RX.pg G va = some (k, x.2.1, x.2.2.1) := by
  have h0 := h.1
  rw [← hv] at h0
  have : k = 1 ∨ k = 2 := by omega
  rcases this with rfl | rfl
  · unfold RX.pg; rw [show (1 : Nat) - 1 = 0 from rfl] at h0; rw [h0]
  · rw [show (2 : Nat) - 1 = 1 from rfl] at h0
    have h1 : G 1 (va / EN.sz 0) = none := by
      cases hc : G 1 (va / EN.sz 0) with
      | none => rfl
      | some z =>
        obtain ⟨y, hy⟩ := I.way hc
        have e := RX.sz_down va 1 (Nat.le_refl _)
        rw [show (1 : Nat) - 1 = 0 from rfl] at e
        rw [e, I.apart h0] at hy
        cases hy
    unfold RX.pg
    rw [h1]
    simp only [h0]
/-- A page of the list: the page of its last address is that page. -/
theorem wk_last {F : RX.Tabs} {G : RX.Pags} {r n : Nat} {x : RX.Pg} (I : RX.Inv F G r n) (hx : x ∈ RX.und F G 4 0) : x.1 + RX.psz x.2.2.2 - 1 < 140737488355328 ∧ x.1 < 140737488355328 ∧ x.2.1 < 68719476736 ∧ wkB G (x.1 + RX.psz x.2.2.2 - 1) = true ∧ wkM G (x.1 + RX.psz x.2.2.2 - 1) = pgc x := by
  obtain ⟨k, k1, k2, hI, -⟩ := (RX.mem_und I 4 0 (Nat.le_refl _) ⟨r, I.root⟩ x).1 hx
  obtain ⟨t1, t2, t3, t4, t5⟩ := RX.is_top I hI
  have hps : RX.psz x.2.2.2 = EN.sz (k - 1) := by rw [hI.2.1]; exact RX.psz_lv k ⟨t1, t2⟩
  have hs := EN.sz_pos (k - 1)
  have hq : (x.1 + RX.psz x.2.2.2 - 1) / EN.sz (k - 1) = x.1 / EN.sz (k - 1) := by
    rw [hps]
    obtain ⟨q, hq⟩ : ∃ q, x.1 / EN.sz (k - 1) = q := ⟨_, rfl⟩
    rw [hq] at t5 ⊢
    rw [← t5, show q * EN.sz (k - 1) + EN.sz (k - 1) - 1 = (EN.sz (k - 1) - 1) + q * EN.sz (k - 1) by omega, Nat.add_mul_div_right _ _ hs, Nat.div_eq_of_lt (by omega), Nat.zero_add]
  have hp := pg_is I hI ⟨t1, t2⟩ hq
  have hlt : x.1 + RX.psz x.2.2.2 - 1 < 140737488355328 := by
    have hm := hI.2.2
    rw [hps]
    have : k = 1 ∨ k = 2 := by omega
    rcases this with rfl | rfl
    · have e : EN.sz (1 - 1) = 4096 := by decide
      rw [e] at hm ⊢; omega
    · have e : EN.sz (2 - 1) = 2097152 := by decide
      rw [e] at hm ⊢; omega
  have hmd : x.1 + RX.psz x.2.2.2 - 1 - (x.1 + RX.psz x.2.2.2 - 1) % EN.sz (k - 1) = x.1 := by
    have := Nat.div_add_mod (x.1 + RX.psz x.2.2.2 - 1) (EN.sz (k - 1))
    rw [hq, Nat.mul_comm, t5] at this
    omega
  refine ⟨hlt, t3, (I.page hI.1).2.2.1.2.2.1, by unfold wkB; rw [hp]; rfl, ?_⟩
  unfold wkM
  rw [hp]
  simp only [hmd]
  unfold mapL pgc
  rw [hI.2.1]

end Go.Proofs.YthdohimjcjkneaaGreatDoor

namespace Go.Proofs.YthdohimjcjkneaaGreatDoor
open Go.ChangeShapes Go.WideShapes Go.ChangeAt Go.RowKit
set_option linter.unusedVariables false
set_option linter.unusedSimpArgs false

theorem page_perms {F : RX.Tabs} {G : RX.Pags} {r n k c f : Nat} {p : Int} (I : RX.Inv F G r n) (h : G k c = some (f, p)) : EN.perms p := by
  have := (I.page h).2.2.1.2.2.2
  rcases this with ⟨h, -⟩ | ⟨-, h, -⟩
  · cases h
  · exact h
/-- An address of no page, of a page: what walked and Walk say. -/
theorem wk_cases {F : RX.Tabs} {G : RX.Pags} {r n : Nat} (I : RX.Inv F G r n) (va : Nat) :
    (wkB G va = false ∧ wkM G va = noMap ∧ walkC G va 0 = 26) ∨
    ∃ (q f : Nat) (p : Int) (hu : Bool), q ≤ va ∧ f < 68719476736 ∧ va - q < 2097152 ∧ wkB G va = true ∧ wkM G va = mapL q f p hu ∧ walkC G va 0 = 0 ∧ walkA G va 0 = 4096 * f + (va - q) := by
  have hx : ∀ {k f : Nat} {p : Int}, RX.pg G va = some (k, f, p) → ∃ c, G k c = some (f, p) := by
    intro k f p h
    unfold RX.pg at h
    split at h
    · rename_i f' p' hc
      simp only [Option.some.injEq, Prod.mk.injEq] at h
      obtain ⟨rfl, rfl, rfl⟩ := h
      exact ⟨_, hc⟩
    · split at h
      · rename_i f' p' hc
        simp only [Option.some.injEq, Prod.mk.injEq] at h
        obtain ⟨rfl, rfl, rfl⟩ := h
        exact ⟨_, hc⟩
      · cases h
  cases hp : RX.pg G va with
  | none => exact .inl ⟨by unfold wkB; rw [hp]; rfl, by unfold wkM; rw [hp], by unfold walkC; rw [hp]⟩
  | some t =>
    obtain ⟨k, f, p⟩ := t
    obtain ⟨c, hc⟩ := hx hp
    have hpp := page_perms I hc
    have hbt : (bits BinOp.andNot IntKind.i64 0 p != 0) = false := by
      unfold EN.perms at hpp
      rcases hpp with rfl | rfl | rfl | rfl <;> decide
    have hI := I.page hc
    have hs := EN.sz_pos (k - 1)
    have hml := Nat.mod_lt va hs
    have hle := Nat.mod_le va (EN.sz (k - 1))
    have hsz : EN.sz (k - 1) ≤ 2097152 := by
      have : k = 1 ∨ k = 2 := by omega
      rcases this with rfl | rfl <;> decide
    refine .inr ⟨va - va % EN.sz (k - 1), f, p, decide (k = 2), by omega, hI.2.2.1.2.2.1, by omega, by unfold wkB; rw [hp]; rfl, by unfold wkM; rw [hp], by unfold walkC; rw [hp]; simp only [hbt]; rfl, ?_⟩
    unfold walkA
    rw [hp]
    simp only [hbt]
    rw [show va - (va - va % EN.sz (k - 1)) = va % EN.sz (k - 1) by omega]
    rfl

/-- A page's cells in a row of pages. -/
theorem row_page {w : World} {base : Nat} {v : Value} {L : List RX.Pg} (h : w.ownsRow base 38 4 v L.length (pcl L)) {i : Nat} (hi : i < L.length) : ∃ b o cap, v = .slice (some ⟨b, o, none⟩) L.length cap ∧
    w.cell? ⟨b, o + i * 4, none⟩ = some (.int .u64 (L[i].1 : Int)) ∧ w.cell? ⟨b, o + i * 4 + 1, none⟩ = some (.int .u64 (L[i].2.1 : Int)) ∧ w.cell? ⟨b, o + i * 4 + 2, none⟩ = some (.int .i64 L[i].2.2.1) ∧ w.cell? ⟨b, o + i * 4 + 3, none⟩ = some (.bool L[i].2.2.2) := by
  obtain ⟨b, o, cap, hv, h1, h2, -, -, hc, -⟩ := own_cells h (by omega)
  have key : ∀ m v, m < 4 → (pgc L[i])[m]? = some v → w.cell? ⟨b, o + (i * 4 + m), none⟩ = some v := fun m v hm hv => hc _ _ ((flat_get pgc 4 pgc_len L i m hi hm).trans hv)
  exact ⟨b, o, cap, hv, key 0 _ (by omega) rfl, key 1 _ (by omega) rfl, key 2 _ (by omega) rfl, key 3 _ (by omega) rfl⟩
/-- The world of a call, told by its form alone (with_reducible refine: fails at once where the form is another). -/
theorem at_drew {P : Program} {f : FuncId} {a : Array Value} {W : World} {Q : Ending → World → Prop} (h : Calls P f a W.drew Q) : Calls P f a W.drew Q := h
theorem at_alloc {P : Program} {f : FuncId} {a : Array Value} {W : World} {o : Obj} {Q : Ending → World → Prop} (h : Calls P f a (W.alloc o) Q) : Calls P f a (W.alloc o) Q := h
theorem psz_b (h : Bool) : 1 ≤ RX.psz h ∧ RX.psz h ≤ 2097152 := by cases h <;> decide

end Go.Proofs.YthdohimjcjkneaaGreatDoor

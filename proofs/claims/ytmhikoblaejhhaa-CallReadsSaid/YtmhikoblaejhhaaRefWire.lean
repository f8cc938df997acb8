/- Contracts of the document's own answers of layer 2 (package haywardref02): for all arguments; memory that was there is unchanged. -/
import Derived.Test.YtmhikoblaejhhaaWire
import Derived.Maps.AppendAt
namespace Go.Proofs.Ytmhikoblaejhhaa
open Go.ChangeShapes Go.WideShapes Go.ChangeAt Go.RowKit
set_option linter.unusedVariables false

theorem left_yes (ao : Option Addr) (n cap : Nat) (x m : Nat) (mi : Int) (hmi : mi = m) (w : World) (hn : n ≤ 9223372036854775807) (hx : x + m ≤ n) :
    Calls Try.prog 36 #[.slice ao n cap, .int .i64 x, .int .i64 mi] w fun e w' => e = .returned (.bool true) ∧ w = w' := by
  subst hmi
  have hd : decide ((m : Int) ≤ (n : Int) - (x : Int)) = true := by simp; omega
  go_enter Try.func36, Try.ntmps36
  go_wp2
  go_ret
  exact ⟨rfl, rfl⟩

theorem left_no (ao : Option Addr) (n cap : Nat) (x : Int) (m : Nat) (mi : Int) (hmi : mi = m) (w : World) (hn : n ≤ 9223372036854775807) (hno : x < 0 ∨ (n : Int) < x ∨ (n : Int) - x < m) :
    Calls Try.prog 36 #[.slice ao n cap, .int .i64 x, .int .i64 mi] w fun e w' => e = .returned (.bool false) ∧ w = w' := by
  subst hmi
  rcases (by omega : x < 0 ∨ (0 ≤ x ∧ (n : Int) < x) ∨ (0 ≤ x ∧ x ≤ (n : Int) ∧ (n : Int) - x < m)) with h | h | h
  · go_enter Try.func36, Try.ntmps36
    go_wp2
    go_ret
    exact ⟨rfl, rfl⟩
  · go_enter Try.func36, Try.ntmps36
    go_wp2
    go_ret
    exact ⟨rfl, rfl⟩
  · have hd : decide ((m : Int) ≤ (n : Int) - x) = false := by simp; omega
    go_enter Try.func36, Try.ntmps36
    go_wp2
    go_ret
    exact ⟨rfl, rfl⟩

theorem ret_u64' {a b : Int} (h : a = b) : Ending.returned (.int .u64 a) = .returned (.int .u64 b) := by rw [h]

theorem num_drop (l : List UInt8) (j : Nat) (hj : j < l.length) : num (l.drop j) = (l[j]?.getD 0).toNat + 256 * num (l.drop (j + 1)) := by
  rw [List.drop_eq_getElem_cons hj]
  simp [num, List.getElem?_eq_getElem hj]

theorem said_any (ao : Option Addr) (m c : Nat) (l : List UInt8) (w : World) (hb : BS w ao m c l) (hm : m ≤ 8) :
    Calls Try.prog 37 #[.slice ao m c] w fun e w' => e = .returned (.int .u64 ((num l : Nat) : Int)) ∧ w = w' := by
  have hl := hb.1
  by_cases h0 : m = 0
  · subst h0
    have : l = [] := List.eq_nil_of_length_eq_zero hl
    subst this
    go_enter Try.func37, Try.ntmps37
    go_wp2
    refine wp_loop_rounds 1 ?_
    rw [rounds_succ]
    go_wp2
    go_ret
    exact ⟨ret_u64' (by simp [num]), rfl⟩
  · obtain ⟨b, off, hao, hcell⟩ : ∃ b off, ao = some ⟨b, off, none⟩ ∧ ∀ j, j < m → w.cell? ⟨b, off + j, none⟩ = some (.int .u8 ((l[j]?.getD 0).toNat : Int)) := by
      cases hao : ao with
      | none => have := hb.none hao; omega
      | some a =>
        have hc : ∀ j, j < m → w.cell? (a.add j) = some (.int .u8 ((l[j]?.getD 0).toNat : Int)) := fun j hj => hb.2.2.2.2 a hao j _ (by rw [cel_get, List.getElem?_eq_getElem (by omega)]; rfl)
        obtain ⟨b, off, spot⟩ := a
        have hs : spot = none := by simpa [Addr.add] using World.cell?_spot (hc 0 (by omega))
        subst hs
        exact ⟨b, off, rfl, fun j hj => by have := hc j hj; rwa [Addr.add_lit] at this⟩
    subst hao
    clear h0
    have Hl : Hid _ := hl
    clear hl
    go_enter Try.func37, Try.ntmps37
    go_wp2
    go_loop [3, 4] (fun v i => ∃ k : Nat, k ≤ m ∧ i = .int .i64 ((k : Int) - 1) ∧ v = .int .u64 ((num (l.drop k) : Nat) : Int)) (fun _ i => (intOf i + 1).toNat)
    case atStart => exact ⟨m, Nat.le_refl _, rfl, by rw [List.drop_eq_nil_of_le (by rw [Hl.out]; exact Nat.le_refl _)]; rfl⟩
    case round =>
      obtain ⟨k, hk, rfl, rfl⟩ := hrel
      cases k with
      | zero =>
        go_wp2
        go_ret
        exact ⟨rfl, rfl⟩
      | succ j =>
        have e : ((j + 1 : Nat) : Int) - 1 = (j : Int) := by omega
        rw [e]
        have hc := hcell j (by omega)
        have hn : Hid _ := num_drop l j (by rw [Hl.out]; omega)
        have hlt : num (l.drop (j + 1)) < 72057594037927936 := by
          have h1 := num_lt (l.drop (j + 1))
          have h2 : 256 ^ (l.drop (j + 1)).length ≤ 256 ^ 7 := Nat.pow_le_pow_right (by omega) (by rw [List.length_drop, Hl.out]; omega)
          omega
        have hd := (l[j]?.getD 0).toNat_lt
        generalize num (l.drop (j + 1)) = N at *
        generalize (l[j]?.getD 0).toNat = D at *
        clear e
        go_wp2
        go_round
        case rel => exact ⟨j, by omega, rfl, by rw [hn.out]; go_num⟩
        case measure => simp [intOf]

set_option maxRecDepth 100000 in
set_option maxHeartbeats 400000 in
theorem low_any (ao : Option Addr) (n cap : Nat) (l : List UInt8) (kk m : Nat) (mi : Int) (hmi : mi = m) (hk : kk < 18446744073709551616) (w : World) (hb : BS w ao n cap l) (hs : n + m ≤ 281474976710656) :
    Calls Try.prog 32 #[.slice ao n cap, .int .u64 kk, .int .i64 mi] w fun e w' => ∃ g, e = .returned (.slice (some ⟨g, 0, none⟩) (n + m) (n + m)) ∧
      w'.ownsRow w.heap.size 5 1 (.slice (some ⟨g, 0, none⟩) (n + m) (n + m)) (n + m) (cel (l ++ le m kk)) ∧ Below w.heap.size w w' := by
  subst hmi
  obtain ⟨i0, hi, hz0, hz1, hz2⟩ := info_parts info_u8
  have hmx : n + m ≤ maxLen := by unfold maxLen; omega
  have hlen := hb.1
  go_enter Try.func32, Try.ntmps32
  go_wp2_with (first
    | (at_make; refine wpList_make_own _ rfl _ _ 50 rfl w.heap.size 5 i0 (.int .u8 0) 1 Try.underlying50 hi hz0 hz1 .i64 .i64 _ (n + m) rfl rfl (by omega) (by rw [hz2]; omega) hmx (Nat.le_refl _) ?_; intro w1 hown1 hgrow1)
    | (at_builtin; refine wpList_append_fits_any _ rfl (.tmp 13) (.tmp 14) 50 rfl w.heap.size 5 i0 1 Try.underlying50 hi hz1 _ 0 (n + m) [] rfl hown1 ao n cap (cel l) rfl (by rw [cel_length]; omega) hb.none (hb.below ((Below.refl _ _).grown hgrow1 (Nat.le_refl _) (fun k h => by cases h)) (Nat.le_refl _)).2.2.2.2 (cel_one l) (by omega) ?_; intro w2 hown2 hgrow2))
  simp only [Nat.zero_add, List.nil_append] at hown2
  have bel2 : Below w.heap.size w w2 := ((Below.refl _ _).grown hgrow1 (Nat.le_refl _) (fun k h => by cases h)).grown hgrow2 hgrow1.size (fun k h => by cases h; exact Nat.le_refl _)
  clear hown1 hgrow1 hgrow2
  go_loopw [1, 7, 8] (fun q o i wr => ∃ k : Nat, k ≤ m ∧ i = .int .i64 k ∧ q = .int .u64 ((kk / 256 ^ k : Nat) : Int) ∧ o = .slice (some ⟨w.heap.size, 0, none⟩) (n + k) (n + m) ∧
      wr.ownsRow w.heap.size 5 1 (.slice (some ⟨w.heap.size, 0, none⟩) (n + k) (n + m)) (n + k) (cel (l ++ le k kk)) ∧ Below w.heap.size w wr)
    (fun _ _ i _ => m - (intOf i).toNat)
  case atStart => exact ⟨0, Nat.zero_le _, rfl, by simp, rfl, by simpa [le] using hown2, bel2⟩
  case round =>
    obtain ⟨k, hkm, rfl, rfl, rfl, hown, bel⟩ := hrel
    by_cases hlt : k < m
    · have hq : kk / 256 ^ k < 18446744073709551616 := Nat.lt_of_le_of_lt (Nat.div_le_self _ _) hk
      obtain ⟨q, hqe⟩ : ∃ q, q = kk / 256 ^ k := ⟨_, rfl⟩
      rw [← hqe] at hq ⊢
      have Hq : Hid _ := hqe
      clear hqe
      go_wp2_with (at_builtin; refine wpList_append_fits _ rfl (.tmp 21) (.tmp 25) 50 rfl w.heap.size 5 i0 1 Try.underlying50 hi hz1 w.heap.size (n + k) (n + m) (cel (l ++ le k kk)) rfl (hown.alloc _) ⟨wr.heap.size, 0, none⟩ 1 1 [.int .u8 ((q : Int) % 256)] rfl rfl (cell_one_new _ _ _) (by intro u hu; simp at hu; subst hu; rfl) (by omega) ?_; intro w3 hown3 hgrow3)
      have e3 : cel (l ++ le k kk) ++ [.int .u8 ((q : Int) % 256)] = cel (l ++ le (k + 1) kk) := by
        rw [le_snoc, ← Hq.out, ← List.append_assoc, cel_append _ [_]]
        simp [cel]
      rw [e3] at hown3
      have e4 : q / 256 = kk / 256 ^ (k + 1) := by rw [Hq.out, Nat.div_div_eq_div_mul, ← Nat.pow_succ]
      have E4 : Hid _ := e4
      have bel3 : Below w.heap.size w w3 := (bel.alloc bel.size _).grown hgrow3 (by simp; have := bel.size; omega) (fun k h => by cases h; exact Nat.le_refl _)
      clear e3 e4 hgrow3
      go_wp2
      go_roundw
      case rel => exact ⟨k + 1, by omega, by go_num, by rw [← E4.out]; simp, rfl, hown3, bel3⟩
      case measure => simp [intOf]; omega
    · have e : k = m := by omega
      subst e
      go_wp2
      go_ret
      exact ⟨_, rfl, hown, bel⟩

end Go.Proofs.Ytmhikoblaejhhaa

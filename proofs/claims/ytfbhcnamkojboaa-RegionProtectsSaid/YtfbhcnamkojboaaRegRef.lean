/- The document's Same, Size. -/
import Derived.Test.YtfbhcnamkojboaaReg2
import Derived.Deep.QuietTactic
namespace Go.Proofs.Ytfbhcnamkojboaa
open Go.ChangeShapes Go.WideShapes Go.ChangeAt Go.RowKit
set_option linter.unusedVariables false
set_option linter.unusedSimpArgs false
open RG (Rg)

/-- Regions are compared field by field. -/
theorem reg_neq (f t f' t' : Nat) (p k p' k' : Int) (b : Bool) (hb : b = true ↔ ¬ (f = f' ∧ t = t' ∧ p = p' ∧ k = k')) (w : World) :
    (binOp .neq 25 (.agg #[.int .u64 (f : Int), .int .u64 (t : Int), .int .i64 p, .int .i64 k]) (.agg #[.int .u64 (f' : Int), .int .u64 (t' : Int), .int .i64 p', .int .i64 k'])).run Try.prog w = .ok (.bool b) w := by
  have e : b = !(decide (f = f' ∧ t = t' ∧ p = p' ∧ k = k')) := by
    rw [Bool.eq_iff_iff, hb, Bool.not_eq_true', decide_eq_false_iff_not]
  rw [e]
  by_cases c0 : f = f'
  · by_cases c1 : t = t'
    · by_cases c2 : p = p'
      · by_cases c3 : k = k' <;> simp [go_sem, c0, c1, c2, c3]
      · simp [go_sem, c0, c1, c2]
    · have c1' : ¬ (t : Int) = t' := by omega
      simp [go_sem, c0, c1, c1']
  · have c0' : ¬ (f : Int) = f' := by omega
    simp [go_sem, c0, c0']
theorem reg_eql (f t f' t' : Nat) (p k p' k' : Int) (b : Bool) (hb : b = true ↔ (f = f' ∧ t = t' ∧ p = p' ∧ k = k')) (w : World) :
    (binOp .eql 25 (.agg #[.int .u64 (f : Int), .int .u64 (t : Int), .int .i64 p, .int .i64 k]) (.agg #[.int .u64 (f' : Int), .int .u64 (t' : Int), .int .i64 p', .int .i64 k'])).run Try.prog w = .ok (.bool b) w := by
  have e : b = (decide (f = f' ∧ t = t' ∧ p = p' ∧ k = k')) := by
    rw [Bool.eq_iff_iff, hb, decide_eq_true_iff]
  rw [e]
  by_cases c0 : f = f'
  · by_cases c1 : t = t'
    · by_cases c2 : p = p'
      · by_cases c3 : k = k' <;> simp [go_sem, c0, c1, c2, c3]
      · simp [go_sem, c0, c1, c2]
    · have c1' : ¬ (t : Int) = t' := by omega
      simp [go_sem, c0, c1, c1']
  · have c0' : ¬ (f : Int) = f' := by omega
    simp [go_sem, c0, c0']
theorem rtake {α : Type} (l : List α) (k : Nat) (h : k < l.length) : l.take (k + 1) = l.take k ++ [l[k]] := List.take_succ_eq_append_getElem h

set_option maxRecDepth 100000 in
set_option maxHeartbeats 2000000 in
theorem RSame_any (x1 x2 : Option Addr) (n1 c1 n2 c2 : Nat) (l1 l2 : List Rg) (w : World) (h1 : RS w x1 n1 c1 l1) (h2 : RS w x2 n2 c2 l2) :
    Calls Try.prog 10 #[.slice x1 n1 c1, .slice x2 n2 c2] w fun e w' => e = .returned (.bool (decide (l1 = l2))) ∧ Below w.heap.size w w' := by
  have m1 : n1 ≤ 9223372036854775807 := by have := h1.2.1; have := h1.2.2.1; unfold maxLen at *; omega
  have m2 : n2 ≤ 9223372036854775807 := by have := h2.2.1; have := h2.2.2.1; unfold maxLen at *; omega
  by_cases hn : n1 = n2
  · subst hn
    have L1 := W_hid h1.1
    have L2 := W_hid h2.1
    have H1 := W_hid h1
    have H2 := W_hid h2
    clear h1 h2
    go_enter Try.func10, Try.ntmps10
    go_wp2
    go_loopw [5] (fun i wr => ∃ k : Nat, k ≤ n1 ∧ i = .int .i64 k ∧ Hid (l1.take k = l2.take k) ∧ Below w.heap.size w wr) (fun i _ => n1 - (intOf i).toNat)
    case atStart => exact ⟨0, Nat.zero_le _, rfl, rfl, Below.refl _ _⟩
    case round =>
      obtain ⟨k, hk, rfl, heq, bel⟩ := hrel
      by_cases hlt : k < n1
      · obtain ⟨b1, o1, rfl, hb1, g1⟩ := (H1.out.below bel (Nat.le_refl _)).at_ (by omega)
        obtain ⟨b2, o2, rfl, hb2, g2⟩ := (H2.out.below bel (Nat.le_refl _)).at_ (by omega)
        have k1 : k < l1.length := by rw [L1.out]; exact hlt
        have k2 : k < l2.length := by rw [L2.out]; exact hlt
        obtain ⟨e1, e2, e3, e4⟩ := g1 k hlt
        obtain ⟨f1, f2, f3, f4⟩ := g2 k hlt
        have hT1 : Hid (l1.take (k + 1) = l1.take k ++ [l1[k]]) := rtake l1 k k1
        have hT2 : Hid (l2.take (k + 1) = l2.take k ++ [l2[k]]) := rtake l2 k k2
        have hD : Hid (l1 = l2 → l1[k] = l2[k]) := by intro h; subst h; rfl
        obtain ⟨⟨a, b, c, d⟩, hx⟩ : ∃ x, l1[k] = x := ⟨_, rfl⟩
        obtain ⟨⟨a', b', c', d'⟩, hy⟩ : ∃ x, l2[k] = x := ⟨_, rfl⟩
        simp only [hx] at e1 e2 e3 e4
        simp only [hy] at f1 f2 f3 f4
        rw [hx] at hT1 hD
        rw [hy] at hT2 hD
        clear hx hy g1 g2
        by_cases he : a = a' ∧ b = b' ∧ c = c' ∧ d = d'
        · have hq := reg_neq a b a' b' c d c' d' false (by simp [he])
          obtain ⟨rfl, rfl, rfl, rfl⟩ := he
          have hnext : Hid (l1.take (k + 1) = l2.take (k + 1)) := by
            show _ = _
            rw [hT1.out, hT2.out, heq.out]
          clear heq hT1 hT2 hD
          go_wp2
          go_quiet (fail)
          go_wp2
          go_roundw
          case rel => exact ⟨k + 1, by omega, by go_num, hnext, below_drewN bel _⟩
          case measure => simp [intOf]; omega
        · have hq := reg_neq a b a' b' c d c' d' true (by simp [he])
          have hh : Hid (decide (l1 = l2) = false) := by
            show _ = _
            exact decide_eq_false (fun h => he (by have := hD.out h; simp only [RG.Rg.mk.injEq] at this; exact this))
          clear heq hT1 hT2 hD he
          go_wp2
          go_quiet (fail)
          go_wp2
          go_ret
          exact ⟨by rw [hh.out]; rfl, below_drewN bel _⟩
      · obtain rfl : k = n1 := by omega
        have hh : Hid (decide (l1 = l2) = true) := by
          have e := heq.out
          rw [List.take_of_length_le (by rw [L1.out]; exact Nat.le_refl _), List.take_of_length_le (by rw [L2.out]; exact Nat.le_refl _)] at e
          exact decide_eq_true e
        clear heq
        go_wp2
        go_ret
        exact ⟨by rw [hh.out]; rfl, bel⟩
  · have hh : Hid (decide (l1 = l2) = false) := by
      have : l1 ≠ l2 := fun e => hn (by rw [← h1.1, ← h2.1, e])
      exact decide_eq_false this
    have e : ((n1 : Int) != (n2 : Int)) = true := by simp; omega
    clear hn h1 h2
    go_enter Try.func10, Try.ntmps10
    go_wp2
    go_ret
    exact ⟨by rw [hh.out]; rfl, Below.refl _ _⟩

set_option maxRecDepth 100000 in
set_option maxHeartbeats 2000000 in
theorem RSize_any (ao : Option Addr) (n cap : Nat) (l : List Rg) (w : World) (h : RS w ao n cap l) (hle : ∀ r ∈ l, r.f ≤ r.t ∧ r.t < 18446744073709551616) (hs : RG.Sz l ≤ 9223372036854775807) :
    Calls Try.prog 32 #[.slice ao n cap] w fun e w' => e = .returned (.int .u64 ((RG.Sz l : Nat) : Int)) ∧ Below w.heap.size w w' := by
  have hn : n ≤ 9223372036854775807 := by have := h.2.1; have := h.2.2.1; unfold maxLen at *; omega
  have L := W_hid h.1
  have H := W_hid h
  have hb := W_hid (fun k => Nat.le_trans (RG.Sz_take l k) hs)
  have hL := W_hid hle
  clear h hs hle
  go_enter Try.func32, Try.ntmps32
  go_wp2
  go_loopw [3, 4] (fun s i wr => ∃ k z : Nat, k ≤ n ∧ i = .int .i64 k ∧ s = .int .u64 (z : Int) ∧ Hid (RG.Sz (l.take k) = z) ∧ Below w.heap.size w wr) (fun _ i _ => n - (intOf i).toNat)
  case atStart => exact ⟨0, 0, Nat.zero_le _, rfl, rfl, rfl, Below.refl _ _⟩
  case round =>
    obtain ⟨k, z, hk, rfl, rfl, hz, bel⟩ := hrel
    by_cases hlt : k < n
    · obtain ⟨b1, o1, rfl, hb1, g1⟩ := (H.out.below bel (Nat.le_refl _)).at_ (by omega)
      have k1 : k < l.length := by rw [L.out]; exact hlt
      obtain ⟨e1, e2, e3, e4⟩ := g1 k hlt
      have hft := hL.out l[k] (List.getElem_mem k1)
      have hnx : Hid (RG.Sz (l.take (k + 1)) = z + (l[k].t - l[k].f)) := by
        show _ = _
        rw [rtake l k k1, RG.Sz_append, hz.out]; simp [RG.Sz]
      have hbb := hb.out (k + 1)
      rw [hnx.out] at hbb
      obtain ⟨⟨f, t, p, q⟩, hx⟩ : ∃ x, l[k] = x := ⟨_, rfl⟩
      simp only [hx] at e1 e2 hft hnx hbb
      obtain ⟨d, hd⟩ : ∃ d, t - f = d := ⟨_, rfl⟩
      have hdi : (t : Int) - (f : Int) = (d : Int) := by omega
      rw [hd] at hnx hbb
      clear hx g1 hd hz
      go_wp2
      go_quiet (fail)
      go_wp2
      go_roundw
      case rel => exact ⟨k + 1, z + d, by omega, by go_num, by go_num, hnx, below_drewN bel _⟩
      case measure => simp [intOf]; omega
    · obtain rfl : k = n := by omega
      have hh : Hid (RG.Sz l = z) := by
        have e := hz.out
        rwa [List.take_of_length_le (by rw [L.out]; exact Nat.le_refl _)] at e
      clear hz
      go_wp2
      go_ret
      exact ⟨by rw [hh.out]; rfl, bel⟩
end Go.Proofs.Ytfbhcnamkojboaa

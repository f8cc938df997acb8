/- The document's part, Parts. -/
import Derived.Test.YtfbhcnamkojboaaRegRef2
import Derived.Test.YtfbhcnamkojboaaRegApi2
import Derived.Test.YtfbhcnamkojboaaOwn2
namespace Go.Proofs.Ytfbhcnamkojboaa
open Go.ChangeShapes Go.WideShapes Go.ChangeAt Go.RowKit
open SQ
set_option linter.unusedVariables false
set_option linter.unusedSimpArgs false
open RG (Rg)

theorem reg_info : Own.Info Try.prog 25 (.agg #[.int .u64 0, .int .u64 0, .int .i64 0, .int .i64 0]) 4 32 := Own.info_of info_reg rfl (by decide)
/-- A list in memory as a source of cells. -/
theorem RS.src {w : World} {ao : Option Addr} {n cap : Nat} {l : List Rg} (h : RS w ao n cap l) : Own.Src w 4 (.slice ao n cap) n (rcl l) := by
  obtain ⟨h1, h2, h3, h4, h5⟩ := h
  cases ao with
  | none =>
    obtain rfl := h4 rfl
    obtain rfl : n = 0 := by omega
    obtain rfl := List.eq_nil_of_length_eq_zero h1
    exact .inl ⟨rfl, rfl, rfl⟩
  | some a => exact .inr ⟨a, cap, rfl, by rw [rcl_length, h1], h5 a rfl⟩

theorem four_at (w : World) (g : Nat) (hg : g = w.heap.size) (a b c d : Value) (t : TypeId) (s : Nat × Nat) : ∀ j u, [a, b, c, d][j]? = some u → (w.alloc (.cells #[a, b, c, d] t s)).cell? ((⟨g, 0, none⟩ : Addr).add j) = some u := by
  subst hg
  exact four_new w a b c d t s
/-- A row that is not empty lies in one block. -/
theorem own_lies {w : World} {base N c : Nat} {x : Option Addr} {xs : List Value} (h : w.ownsRow base 25 4 (.slice x N c) N xs) (hn : 0 < N) : ∃ g, x = some ⟨g, 0, none⟩ ∧ base ≤ g ∧ g < w.heap.size := by
  rcases h.2 with ⟨_, h0⟩ | ⟨g, cap, cur, h1, h2, h3, _⟩
  · omega
  · simp only [Value.slice.injEq, true_and] at h1
    exact ⟨g, h1.1, h2, (Array.getElem?_eq_some_iff.1 h3).1⟩

set_option maxRecDepth 100000 in
set_option maxHeartbeats 1000000 in
theorem rpart_any (f t : Nat) (p k : Int) (lo hi : Nat) (w : World) :
    Calls Try.prog 38 #[.agg #[.int .u64 (f : Int), .int .u64 (t : Int), .int .i64 p, .int .i64 k], .int .u64 (lo : Int), .int .u64 (hi : Int)] w
      fun e w' => ∃ v, e = .returned v ∧ Own.Src w' 4 v (RG.parts lo hi [⟨f, t, p, k⟩]).length (rcl (RG.parts lo hi [⟨f, t, p, k⟩])) ∧ Below w.heap.size w w' := by
  obtain ⟨A, hA⟩ : ∃ A : Int, (if (f : Int) < lo then (lo : Int) else f) = A := ⟨_, rfl⟩
  obtain ⟨B, hB⟩ : ∃ B : Int, (if (hi : Int) < t then (hi : Int) else t) = B := ⟨_, rfl⟩
  have HA : A = ((max f lo : Nat) : Int) := by rw [← hA]; split <;> omega
  have HB : B = ((min t hi : Nat) : Int) := by rw [← hB]; split <;> omega
  have hP : RG.parts lo hi [⟨f, t, p, k⟩] = if max f lo < min t hi then [⟨max f lo, min t hi, p, k⟩] else [] := by
    rw [RG.parts_cons]; rfl
  have b1 : Below w.heap.size w (w.alloc (.cells #[.int .u64 (f : Int), .int .u64 (t : Int), .int .i64 p, .int .i64 k] 25)) := (Below.refl _ _).alloc (Nat.le_refl _) _
  have b2 := b1.alloc b1.size (.cells #[.int .u64 A, .int .u64 B, .int .i64 p, .int .i64 k] 25)
  have b3 := b2.alloc b2.size (.cells #[.int .u64 A, .int .u64 B, .int .i64 p, .int .i64 k] 25)
  simp only [Int.ofNat_lt] at hA hB
  by_cases c : B ≤ A
  · rw [if_neg (by omega)] at hP
    rw [hP]
    replace HA := W_hid HA
    replace HB := W_hid HB
    replace hP := W_hid hP
    replace b1 := W_hid b1
    replace b2 := W_hid b2
    replace b3 := W_hid b3
    go_enter Try.func38, Try.ntmps38
    go_wp2_with fail
    go_ret
    exact ⟨_, rfl, .inl ⟨rfl, rfl, rfl⟩, b2.out⟩
  · rw [if_pos (by omega)] at hP
    have hrv : rv ⟨max f lo, min t hi, p, k⟩ = [.int .u64 A, .int .u64 B, .int .i64 p, .int .i64 k] := by
      rw [HA, HB]; rfl
    rw [hP, rcl_single, hrv]
    replace HA := W_hid HA
    replace HB := W_hid HB
    replace hP := W_hid hP
    replace hrv := W_hid hrv
    replace b1 := W_hid b1
    replace b2 := W_hid b2
    replace b3 := W_hid b3
    go_enter Try.func38, Try.ntmps38
    go_wp2_with fail
    go_ret
    exact ⟨_, rfl, .inr ⟨_, _, rfl, rfl, four_at _ _ (by simp) _ _ _ _ _ _⟩, b3.out⟩

set_option maxRecDepth 100000 in
set_option maxHeartbeats 4000000 in
theorem rParts_any (ao : Option Addr) (n cap : Nat) (l : List Rg) (lo hi : Nat) (w : World) (h : RS w ao n cap l) (hlen : l.length ≤ 34359738368) :
    GvL 24 #[.slice ao n cap, .int .u64 (lo : Int), .int .u64 (hi : Int)] (RG.parts lo hi l) w := by
  have hn : n ≤ 34359738368 := by rw [← h.1]; exact hlen
  have hpl : ∀ m : List Rg, (RG.parts lo hi m).length ≤ m.length := fun m => by rw [parts_len]; exact List.length_filter_le _ _
  have L := W_hid h.1
  have H := W_hid h
  have hP := W_hid (fun f t p k w => rpart_any f t p k lo hi w)
  replace hpl := W_hid hpl
  clear h hlen
  unfold GvL
  go_enter Try.func24, Try.ntmps24
  go_wp2_with fail
  go_loopw [7, 8] (fun o i wr => ∃ k : Nat, k ≤ n ∧ i = .int .i64 k ∧ Hid (wr.ownsRow w.heap.size 25 4 o (RG.parts lo hi (l.take k)).length (rcl (RG.parts lo hi (l.take k)))) ∧ Below w.heap.size w wr) (fun _ i _ => n - (intOf i).toNat)
  case atStart => exact ⟨0, Nat.zero_le _, rfl, World.ownsRow_nil _ _ _ _, Below.refl _ _⟩
  case round =>
    obtain ⟨k, hk, rfl, hown, bel⟩ := hrel
    obtain ⟨oa, oc, rfl⟩ := Own.form hown.out
    by_cases hlt : k < n
    · obtain ⟨b1, o1, rfl, hb1, g1⟩ := (H.out.below bel (Nat.le_refl _)).at_ (by omega)
      have k1 : k < l.length := by rw [L.out]; exact hlt
      obtain ⟨e1, e2, e3, e4⟩ := g1 k hlt
      have hT : l.take (k + 1) = l.take k ++ [l[k]] := rtake l k k1
      have hnx : RG.parts lo hi (l.take (k + 1)) = RG.parts lo hi (l.take k) ++ RG.parts lo hi [l[k]] := by rw [hT, RG.parts_append]
      have hz : (RG.parts lo hi (l.take k)).length + (RG.parts lo hi [l[k]]).length ≤ 34359738368 := by
        rw [← List.length_append, ← hnx]
        have := hpl.out (l.take (k + 1))
        rw [List.length_take] at this
        omega
      have hnl : (RG.parts lo hi (l.take (k + 1))).length = (RG.parts lo hi (l.take k)).length + (RG.parts lo hi [l[k]]).length := by rw [hnx, List.length_append]
      have hnc : rcl (RG.parts lo hi (l.take (k + 1))) = rcl (RG.parts lo hi (l.take k)) ++ rcl (RG.parts lo hi [l[k]]) := by rw [hnx, rcl_append]
      obtain ⟨⟨f, t, p, q⟩, hx⟩ : ∃ x, l[k] = x := ⟨_, rfl⟩
      simp only [hx] at e1 e2 e3 e4 hz hnl hnc
      generalize RG.parts lo hi (l.take k) = M at *
      replace hP := W_hid (hP.out f t p q)
      obtain ⟨x2, hx2⟩ : ∃ x2, RG.parts lo hi [⟨f, t, p, q⟩] = x2 := ⟨_, rfl⟩
      rw [hx2] at hP hz hnl hnc
      replace hnl := W_hid hnl
      replace hnc := W_hid hnc
      replace hz := W_hid hz
      clear hx hx2 hT hnx g1
      go_wp2_with fail
      refine (hP.out _).mono ?_
      rintro e w2 ⟨v, rfl, hs, bel2⟩
      have hown2 := W_hid (Own.below hown.out bel2)
      replace bel2 := W_hid (bel.trans (bel2.mono bel.size))
      replace hs := W_hid hs
      go_wp2_with (at_builtin; apply Hid.out)
      refine W_hid ?_
      refine Own.wpList_app rfl (.tmp 15) (.tmp 22) 22 rfl Try.underlying22 reg_info _ v rfl rfl hown2.out bel2.out.size hs.out (rcl_one _) (by have := hz.out; unfold maxLen; omega) (by have := hz.out; omega) ?_
      intro v' w3 hown3 hg3 _
      obtain ⟨oa3, oc3, rfl⟩ := Own.form hown3
      have bel3 := bel2.out.grown hg3 bel2.out.size (fun g hg => Own.ge hown2.out g hg)
      replace hown3 := W_hid hown3
      go_wp2_with fail
      go_roundw
      case rel => exact ⟨k + 1, by omega, by go_num, by rw [hnl.out, hnc.out]; exact hown3, bel3⟩
      case measure => simp [intOf]; omega
    · obtain rfl : k = n := by omega
      rw [List.take_of_length_le (by rw [L.out]; exact Nat.le_refl _)] at hown ⊢
      go_wp2
      go_ret
      exact ⟨_, rfl, hown.out, bel⟩
end Go.Proofs.Ytfbhcnamkojboaa

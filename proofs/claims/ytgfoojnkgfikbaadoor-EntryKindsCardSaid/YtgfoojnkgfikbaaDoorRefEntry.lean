/- Contracts of the document's own Right, Encode and Decode (package haywardref07): for every entry, word and level. -/
import Derived.Test.YtgfoojnkgfikbaaDoorEntryCode
import Derived.Test.YtgfoojnkgfikbaaDoorRefWord
namespace Go.Proofs.YtgfoojnkgfikbaaDoor
open Go.ChangeShapes Go.WideShapes Go.ChangeAt Go.RowKit
set_option linter.unusedVariables false
set_option linter.unusedSimpArgs false

set_option maxRecDepth 100000 in
set_option maxHeartbeats 1000000 in
theorem rRight_out (T H : Bool) (P : Int) (F : Nat) (L : Int) (h : ¬ (1 ≤ L ∧ L ≤ 4 ∧ F < 68719476736)) (w : World) :
    Calls Tryd.prog 13 #[.agg #[.bool T, .bool H, .int .i64 P, .int .u64 F], .int .i64 L] w fun e w' => e = .returned (.bool false) ∧ Below w.heap.size w w' := by
  by_cases c1 : 1 ≤ L
  · have d1 : decide (L < 1) = false := by simp; omega
    by_cases c4 : L ≤ 4
    · have d4 : decide (4 < L) = false := by simp; omega
      have dF : decide (68719476736 ≤ (F : Int)) = true := by simp; omega
      clear h c1 c4
      go_enter Tryd.func13, Tryd.ntmps13
      go_wp2
      go_ret
      exact ⟨rfl, (Below.refl _ _).alloc (Nat.le_refl _) _⟩
    · have d4 : decide (4 < L) = true := by simp; omega
      clear h c1 c4
      go_enter Tryd.func13, Tryd.ntmps13
      go_wp2
      go_ret
      exact ⟨rfl, (Below.refl _ _).alloc (Nat.le_refl _) _⟩
  · have d1 : decide (L < 1) = true := by simp; omega
    clear h c1
    go_enter Tryd.func13, Tryd.ntmps13
    go_wp2
    go_ret
    exact ⟨rfl, (Below.refl _ _).alloc (Nat.le_refl _) _⟩

set_option maxRecDepth 100000 in
set_option maxHeartbeats 1000000 in
theorem rRight_table (H b : Bool) (P : Int) (F : Nat) (L : Int) (h1 : 1 ≤ L) (h4 : L ≤ 4) (hF : F < 68719476736) (hb : b = true ↔ 2 ≤ L ∧ H = false ∧ P = 7) (w : World) :
    Calls Tryd.prog 13 #[.agg #[.bool true, .bool H, .int .i64 P, .int .u64 F], .int .i64 L] w fun e w' => e = .returned (.bool b) ∧ Below w.heap.size w w' := by
  have d1 : decide (L < 1) = false := by simp; omega
  have d4 : decide (4 < L) = false := by simp; omega
  have dF : decide (68719476736 ≤ (F : Int)) = false := by simp; omega
  clear h1 h4 hF
  by_cases c2 : 2 ≤ L
  · have d2 : decide (2 ≤ L) = true := by simp; omega
    cases H
    · have dP : (P == 7) = b := by rw [Bool.eq_iff_iff, hb, beq_iff_eq]; exact ⟨fun h => ⟨c2, rfl, h⟩, fun h => h.2.2⟩
      clear hb c2
      go_enter Tryd.func13, Tryd.ntmps13
      go_wp2
      go_ret
      exact ⟨rfl, (Below.refl _ _).alloc (Nat.le_refl _) _⟩
    · obtain rfl : b = false := by
        cases b
        · rfl
        · exact absurd (hb.1 rfl).2.1 (by decide)
      clear hb c2
      go_enter Tryd.func13, Tryd.ntmps13
      go_wp2
      go_ret
      exact ⟨rfl, (Below.refl _ _).alloc (Nat.le_refl _) _⟩
  · have d2 : decide (2 ≤ L) = false := by simp; omega
    obtain rfl : b = false := by
      cases b
      · rfl
      · exact absurd (hb.1 rfl).1 c2
    clear hb c2
    go_enter Tryd.func13, Tryd.ntmps13
    go_wp2
    go_ret
    exact ⟨rfl, (Below.refl _ _).alloc (Nat.le_refl _) _⟩

set_option maxRecDepth 100000 in
set_option maxHeartbeats 1000000 in
theorem rRight_bad (H : Bool) (P : Int) (F : Nat) (L : Int) (h1 : 1 ≤ L) (h4 : L ≤ 4) (hF : F < 68719476736) (hP : ¬ EN.perms P) (w : World) :
    Calls Tryd.prog 13 #[.agg #[.bool false, .bool H, .int .i64 P, .int .u64 F], .int .i64 L] w fun e w' => e = .returned (.bool false) ∧ Below w.heap.size w w' := by
  have d1 : decide (L < 1) = false := by simp; omega
  have d4 : decide (4 < L) = false := by simp; omega
  have dF : decide (68719476736 ≤ (F : Int)) = false := by simp; omega
  unfold EN.perms at hP
  have p1 : (P != 1) = true := by rw [bne_iff_ne]; omega
  have p3 : (P != 3) = true := by rw [bne_iff_ne]; omega
  have p5 : (P != 5) = true := by rw [bne_iff_ne]; omega
  have p7 : (P != 7) = true := by rw [bne_iff_ne]; omega
  clear h1 h4 hF hP
  go_enter Tryd.func13, Tryd.ntmps13
  go_wp2
  go_ret
  exact ⟨rfl, (Below.refl _ _).alloc (Nat.le_refl _) _⟩

set_option maxRecDepth 100000 in
set_option maxHeartbeats 1000000 in
theorem rRight_small (b : Bool) (P : Int) (F : Nat) (L : Int) (h1 : 1 ≤ L) (h4 : L ≤ 4) (hF : F < 68719476736) (hP : EN.perms P) (hb : b = true ↔ L = 1) (w : World) :
    Calls Tryd.prog 13 #[.agg #[.bool false, .bool false, .int .i64 P, .int .u64 F], .int .i64 L] w fun e w' => e = .returned (.bool b) ∧ Below w.heap.size w w' := by
  have d1 : decide (L < 1) = false := by simp; omega
  have d4 : decide (4 < L) = false := by simp; omega
  have dF : decide (68719476736 ≤ (F : Int)) = false := by simp; omega
  have dL : (L == 1) = b := by rw [Bool.eq_iff_iff, hb, beq_iff_eq]
  clear h1 h4 hF hb
  cases b <;> rcases hP with rfl | rfl | rfl | rfl
  all_goals
    go_enter Tryd.func13, Tryd.ntmps13
    go_wp2
    go_ret
    exact ⟨rfl, (Below.refl _ _).alloc (Nat.le_refl _) _⟩

set_option maxRecDepth 100000 in
set_option maxHeartbeats 2000000 in
theorem rRight_huge (b : Bool) (P : Int) (F : Nat) (L : Int) (h1 : 1 ≤ L) (h4 : L ≤ 4) (hF : F < 68719476736) (hP : EN.perms P) (hb : b = true ↔ L = 2 ∧ F % 512 = 0) (w : World) :
    Calls Tryd.prog 13 #[.agg #[.bool false, .bool true, .int .i64 P, .int .u64 F], .int .i64 L] w fun e w' => e = .returned (.bool b) ∧ Below w.heap.size w w' := by
  have d1 : decide (L < 1) = false := by simp; omega
  have d4 : decide (4 < L) = false := by simp; omega
  have dF : decide (68719476736 ≤ (F : Int)) = false := by simp; omega
  clear h1 h4 hF
  by_cases c2 : L = 2
  · have dL : (L == 2) = true := by rw [beq_iff_eq]; exact c2
    have dM : ((F : Int) % 512 == 0) = b := by rw [Bool.eq_iff_iff, hb, beq_iff_eq]; omega
    clear c2 hb
    cases b <;> rcases hP with rfl | rfl | rfl | rfl
    all_goals
      go_enter Tryd.func13, Tryd.ntmps13
      go_wp2
      go_ret
      exact ⟨rfl, (Below.refl _ _).alloc (Nat.le_refl _) _⟩
  · have dL : (L == 2) = false := by rw [beq_eq_false_iff_ne]; exact c2
    obtain rfl : b = false := by
      cases b
      · rfl
      · exact absurd (hb.1 rfl).1 c2
    clear c2 hb
    rcases hP with rfl | rfl | rfl | rfl
    all_goals
      go_enter Tryd.func13, Tryd.ntmps13
      go_wp2
      go_ret
      exact ⟨rfl, (Below.refl _ _).alloc (Nat.le_refl _) _⟩

theorem rRight_any (T H b : Bool) (P : Int) (F : Nat) (L : Int) (hb : b = true ↔ EN.right T H P F L) (w : World) :
    Calls Tryd.prog 13 #[.agg #[.bool T, .bool H, .int .i64 P, .int .u64 F], .int .i64 L] w fun e w' => e = .returned (.bool b) ∧ Below w.heap.size w w' := by
  unfold EN.right at hb
  by_cases c : 1 ≤ L ∧ L ≤ 4 ∧ F < 68719476736
  · obtain ⟨h1, h4, hF⟩ := c
    cases T
    · by_cases hP : EN.perms P
      · cases H
        · exact rRight_small b P F L h1 h4 hF hP (hb.trans ⟨fun h => by rcases h.2.2.2 with ⟨e, -⟩ | ⟨-, -, e⟩; exact absurd e (by decide); rcases e with ⟨-, e⟩ | ⟨e, -⟩; exact e; exact absurd e (by decide), fun h => ⟨h1, h4, hF, .inr ⟨rfl, hP, .inl ⟨rfl, h⟩⟩⟩⟩) w
        · exact rRight_huge b P F L h1 h4 hF hP (hb.trans ⟨fun h => by rcases h.2.2.2 with ⟨e, -⟩ | ⟨-, -, e⟩; exact absurd e (by decide); rcases e with ⟨e, -⟩ | ⟨-, e⟩; exact absurd e (by decide); exact e, fun h => ⟨h1, h4, hF, .inr ⟨rfl, hP, .inr ⟨rfl, h⟩⟩⟩⟩) w
      · obtain rfl : b = false := by
          cases b
          · rfl
          · rcases (hb.1 rfl).2.2.2 with ⟨e, -⟩ | ⟨-, e, -⟩
            · exact absurd e (by decide)
            · exact absurd e hP
        exact rRight_bad H P F L h1 h4 hF hP w
    · exact rRight_table H b P F L h1 h4 hF (hb.trans ⟨fun h => by rcases h.2.2.2 with ⟨-, e⟩ | ⟨e, -⟩; exact e; exact absurd e (by decide), fun h => ⟨h1, h4, hF, .inl ⟨rfl, h⟩⟩⟩) w
  · obtain rfl : b = false := by
      cases b
      · rfl
      · exact absurd ⟨(hb.1 rfl).1, (hb.1 rfl).2.1, (hb.1 rfl).2.2.1⟩ c
    exact rRight_out T H P F L c w

end Go.Proofs.YtgfoojnkgfikbaaDoor

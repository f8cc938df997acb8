/- Contracts of package share, and of the document's own answers of layer 3, that reckon nothing: classes, the order, clamping. -/
import Derived.Test.YtmikgkelmdgckaaRows
import Derived.Test.YtmikgkelmdgckaaFloatWalk
import Derived.WalkKit
import Derived.ProofKit
import Derived.OpenShut
import Derived.Outline
import Derived.WalkLawsBesides
import Derived.Deep.QuietTactic
import Derived.BigQuiet
import Derived.IntWalk
import Derived.Deep.RegionWith
import Derived.Laws.BitsAllLaws
namespace Go.Proofs.Ytmikgkelmdgckaa
open Go.ChangeShapes Go.WideShapes Go.ChangeAt Go.RowKit
open FM
set_option linter.unusedVariables false


/-- How a word that is no NaN stands to another one, in the words of the walk. -/
theorem neq_self (x : Nat) (hx : x < 18446744073709551616) (h : isNan x = false) : (FloatKind.f64.format.order x x != some .eq) = false := by
  show (!(D.order x x == some .eq)) = false
  rw [eq_key x x hx hx h h]; simp
theorem is_lt (x y : Nat) (hx : x < 18446744073709551616) (hy : y < 18446744073709551616) (h : isNan x = false) (hn : isNan y = false) {b : Bool} (e : decide (key x < key y) = b) : (FloatKind.f64.format.order x y == some .lt) = b := by
  show (D.order x y == some .lt) = b
  rw [lt_key x y hx hy h hn, e]
theorem is_gt (x y : Nat) (hx : x < 18446744073709551616) (hy : y < 18446744073709551616) (h : isNan x = false) (hn : isNan y = false) {b : Bool} (e : decide (key y < key x) = b) : (FloatKind.f64.format.order x y == some .gt) = b := by
  show (D.order x y == some .gt) = b
  rw [gt_key x y hx hy h hn, e]

theorem class_any (x : Nat) (hx : x < 18446744073709551616) (w : World) :
    Calls Try.prog 66 #[fl x] w fun e w' => e = .returned (.int .i64 (cls x : Nat)) ∧ w = w' := by
  cases hn : isNan x with
  | true =>
    have h1 : (FloatKind.f64.format.order x x != some .eq) = true := by show (D.order x x != some .eq) = true; rw [order_nan x x (.inl hn)]; rfl
    have hc : cls x = 7 := by simp [cls, hn]
    rw [hc]
    clear hn hc
    go_enter Try.func66, Try.ntmps66
    go_wp2
    go_ret
    exact ⟨rfl, rfl⟩
  | false =>
    have h1 := neq_self x hx hn
    have k1 : key 18442240474082181119 = -9218868437227405311 := by decide
    have k2 : key 0 = 0 := by decide
    have k3 : key 9218868437227405311 = 9218868437227405311 := by decide
    have l1 := is_lt x 18442240474082181119 hx (by decide) hn (by decide) rfl
    have l2 := is_lt x 0 hx (by decide) hn (by decide) rfl
    have l3 := is_gt x 9218868437227405311 hx (by decide) hn (by decide) rfl
    have l4 := is_gt x 0 hx (by decide) hn (by decide) rfl
    rw [k1] at l1; rw [k2] at l2 l4; rw [k3] at l3
    have hn' : x % 9223372036854775808 ≤ 9218868437227405312 := by simpa [isNan] using hn
    have hkey : key x = if x < 9223372036854775808 then (x : Int) else -((x % 9223372036854775808 : Nat) : Int) := rfl
    by_cases c1 : x = 18442240474082181120
    · subst c1
      have hc : cls 18442240474082181120 = 1 := by decide
      rw [hc]
      rw [decide_eq_true (by rw [hkey]; decide)] at l1
      clear hn hc l2 l3 l4 hkey k1 k2 k3 hn'
      go_enter Try.func66, Try.ntmps66
      go_wp2
      go_ret
      exact ⟨rfl, rfl⟩
    have n1 : ¬ key x < -9218868437227405311 := by rw [hkey]; split <;> omega
    rw [decide_eq_false n1] at l1
    by_cases c2 : key x < 0
    · have hc : cls x = 2 := by simp [cls, hn, c1, c2]
      rw [hc]
      rw [decide_eq_true c2] at l2
      clear hn hc l3 l4 hkey k1 k2 k3 hn' c1 n1 c2
      go_enter Try.func66, Try.ntmps66
      go_wp2
      go_ret
      exact ⟨rfl, rfl⟩
    rw [decide_eq_false c2] at l2
    by_cases c3 : x = 9223372036854775808
    · subst c3
      have hc : cls 9223372036854775808 = 3 := by decide
      rw [hc]
      rw [decide_eq_false (by rw [hkey]; decide)] at l3
      rw [decide_eq_false (by rw [hkey]; decide)] at l4
      have d1 : floatBits .quo .f64 4607182418800017408 9223372036854775808 = some 18442240474082181120 := by decide
      have d2 : (FloatKind.f64.format.order 18442240474082181120 0 == some .lt) = true := by decide
      clear hn hc hkey k1 k2 k3 hn' c1 c2 n1
      go_enter Try.func66, Try.ntmps66
      go_wp2_with (with_reducible show wpList _ _ _ _ _ _; refine wpList_float_some rfl rfl (.inr (.inr rfl)) rfl rfl d1 ?_)
      go_ret
      exact ⟨rfl, rfl⟩
    by_cases c4 : x = 0
    · subst c4
      have hc : cls 0 = 4 := by decide
      rw [hc]
      rw [decide_eq_false (by rw [hkey]; decide)] at l3
      rw [decide_eq_false (by rw [hkey]; decide)] at l4
      have d1 : floatBits .quo .f64 4607182418800017408 0 = some 9218868437227405312 := by decide
      have d2 : (FloatKind.f64.format.order 9218868437227405312 0 == some .lt) = false := by decide
      clear hn hc hkey k1 k2 k3 hn' c1 c2 n1 c3
      go_enter Try.func66, Try.ntmps66
      go_wp2_with (with_reducible show wpList _ _ _ _ _ _; refine wpList_float_some rfl rfl (.inr (.inr rfl)) rfl rfl d1 ?_)
      go_ret
      exact ⟨rfl, rfl⟩
    by_cases c5 : x = 9218868437227405312
    · subst c5
      have hc : cls 9218868437227405312 = 6 := by decide
      rw [hc]
      rw [decide_eq_true (by rw [hkey]; decide)] at l3
      clear hn hc hkey k1 k2 k3 hn' c1 c2 n1 c3 c4 l4
      go_enter Try.func66, Try.ntmps66
      go_wp2
      go_ret
      exact ⟨rfl, rfl⟩
    have hc : cls x = 5 := by simp [cls, hn, c1, c2, c3, c4, c5]
    rw [hc]
    rw [decide_eq_false (by rw [hkey] at c2 ⊢; split <;> omega)] at l3
    rw [decide_eq_true (by rw [hkey] at c2 ⊢; split at c2 <;> omega)] at l4
    clear hn hc hkey k1 k2 k3 hn' c1 c2 n1 c3 c4 c5
    go_enter Try.func66, Try.ntmps66
    go_wp2
    go_ret
    exact ⟨rfl, rfl⟩

theorem cls_parts (x s E R : Nat) (h : x = s * 9223372036854775808 + E * 4503599627370496 + R) (hs : s < 2) (hE : E < 2048) (hR : R < 4503599627370496) :
    cls x = if E = 2047 ∧ R ≠ 0 then 7 else if E = 2047 ∧ s = 1 then 1 else if E = 2047 then 6 else if E = 0 ∧ R = 0 ∧ s = 1 then 3 else if E = 0 ∧ R = 0 then 4 else if s = 1 then 2 else 5 := by
  have hn : isNan x = decide (E = 2047 ∧ R ≠ 0) := by
    unfold isNan
    rw [decide_eq_decide]; omega
  have hk : key x < 0 ↔ s = 1 ∧ (E ≠ 0 ∨ R ≠ 0) := by
    unfold key
    split <;> omega
  have g1 : x = 18442240474082181120 ↔ s = 1 ∧ E = 2047 ∧ R = 0 := by omega
  have g2 : x = 9223372036854775808 ↔ s = 1 ∧ E = 0 ∧ R = 0 := by omega
  have g3 : x = 0 ↔ s = 0 ∧ E = 0 ∧ R = 0 := by omega
  have g4 : x = 9218868437227405312 ↔ s = 0 ∧ E = 2047 ∧ R = 0 := by omega
  unfold cls
  simp only [hn, decide_eq_true_eq, hk, g1, g2, g3, g4]
  clear h hn hk g1 g2 g3 g4 hE hR
  (repeat' split) <;> omega

theorem bits_and_low (x k m : Nat) (hx : x < 18446744073709551616) (hm : m = 2 ^ k - 1) (hk : k < 64) : bits BinOp.and .u64 (x : Int) (m : Int) = ((x % 2 ^ k : Nat) : Int) := by
  have h1 : 2 ^ k ≤ 2 ^ 63 := Nat.pow_le_pow_right (by omega) (by omega)
  have h2 : 2 ^ 63 = 9223372036854775808 := by decide
  rw [u64_and_nat x m hx (by omega), hm, Nat.and_two_pow_sub_one_eq_mod]

set_option maxRecDepth 100000 in
set_option maxHeartbeats 1000000 in
theorem rclass_any (x : Nat) (hx : x < 18446744073709551616) (w : World) :
    Calls Try.prog 60 #[fl x] w fun e w' => e = .returned (.int .i64 (cls x : Nat)) ∧ w = w' := by
  obtain ⟨s, E, R, h, hs, hE, hR⟩ : ∃ s E R : Nat, x = s * 9223372036854775808 + E * 4503599627370496 + R ∧ s < 2 ∧ E < 2048 ∧ R < 4503599627370496 :=
    ⟨x / 9223372036854775808, x % 9223372036854775808 / 4503599627370496, x % 4503599627370496, by omega, by omega, by omega, by omega⟩
  have hc : Hid _ := cls_parts x s E R h hs hE hR
  have hbits := run_bits x
  have e1 : (x : Int) / 9223372036854775808 = (s : Int) := by omega
  have e2 : bits BinOp.and .u64 ((x : Int) / 4503599627370496) 2047 = (E : Int) := by
    have h1 : (x : Int) / 4503599627370496 = ((x / 4503599627370496 : Nat) : Int) := by omega
    have h2 := bits_and_low (x / 4503599627370496) 11 2047 (by omega) (by decide) (by decide)
    rw [h1]
    refine h2.trans ?_
    have : x / 4503599627370496 % 2 ^ 11 = E := by show x / 4503599627370496 % 2048 = E; omega
    rw [this]
  have e3 : bits BinOp.and .u64 (x : Int) 4503599627370495 = (R : Int) := by
    refine (bits_and_low x 52 4503599627370495 hx (by decide) (by decide)).trans ?_
    have : x % 2 ^ 52 = R := by show x % 4503599627370496 = R; omega
    rw [this]
  generalize cls x = c at *
  clear h
  rcases (by omega : s = 0 ∨ s = 1) with h0 | h0 <;> subst h0 <;> rcases (by omega : E = 2047 ∨ E = 0 ∨ (E ≠ 2047 ∧ E ≠ 0)) with h1 | h1 | ⟨h1, h2⟩ <;> (try subst h1) <;> rcases (by omega : R = 0 ∨ R ≠ 0) with h3 | h3 <;> (try subst h3)
  all_goals
    go_enter Try.func60, Try.ntmps60
    go_wp2
    go_ret
    have hc := hc.out
    simp_all


/-- How two words stand in the order of all words. -/
def cmp (a b : Nat) : Int := if rank a < rank b then -1 else if rank b < rank a then 1 else 0

/-- How a contract's bool turns out. -/
theorem rank_nan (b : Nat) (hb : b < 18446744073709551616) : ((cls b : Nat) : Int) = 7 ↔ 9218868437227405312 < rank b := by
  rw [cls_rank b hb]
  have := rank_le b hb
  unfold clsR
  (repeat' split) <;> omega
theorem cls_eq7 (b : Nat) (hb : b < 18446744073709551616) (h : 9218868437227405312 < rank b) : cls b = 7 := by
  have := (rank_nan b hb).2 h
  omega
theorem cls_ne7 (b : Nat) (hb : b < 18446744073709551616) (h : ¬ 9218868437227405312 < rank b) : cls b ≠ 7 := by
  have := (rank_nan b hb).1
  omega

/-- What clamping gives: the number, or that there is none. -/
def clamp (x lo hi : Nat) : Nat × Int :=
  if 9218868437227405312 < rank lo ∨ 9218868437227405312 < rank hi ∨ rank hi < rank lo then (0, 2)
  else if 9218868437227405312 < rank x ∨ rank x < rank lo then (lo, 0) else if rank hi < rank x then (hi, 0) else (x, 0)

theorem class_nanB (b : Nat) (hb : b < 18446744073709551616) : ∃ (k : Nat) (n : Bool), cls b = k ∧ decide (9218868437227405312 < rank b) = n ∧ ((k : Int) == 7) = n := by
  refine ⟨cls b, _, rfl, rfl, ?_⟩
  by_cases h : 9218868437227405312 < rank b
  · rw [cls_eq7 b hb h, decide_eq_true h]; rfl
  · have := cls_ne7 b hb h
    rw [decide_eq_false h]; simp; omega

def clampB (x lo hi : Nat) (n1 n2 n3 b1 b2 b3 : Bool) : Nat × Int :=
  if n1 || n2 || b1 then (0, 2) else if n3 || b2 then (lo, 0) else if b3 then (hi, 0) else (x, 0)
theorem clamp_B (x lo hi : Nat) : clamp x lo hi = clampB x lo hi (decide (9218868437227405312 < rank lo)) (decide (9218868437227405312 < rank hi)) (decide (9218868437227405312 < rank x)) (decide (rank hi < rank lo)) (decide (rank x < rank lo)) (decide (rank hi < rank x)) := by
  unfold clamp clampB
  simp only [Bool.or_eq_true, decide_eq_true_eq, or_assoc]

theorem clamp_ways (n1 n2 n3 b1 b2 b3 : Bool) : n1 = true ∨ (n1 = false ∧ n2 = true) ∨ (n1 = false ∧ n2 = false ∧ b1 = true) ∨ (n1 = false ∧ n2 = false ∧ b1 = false ∧ n3 = true) ∨ (n1 = false ∧ n2 = false ∧ b1 = false ∧ n3 = false ∧ b2 = true) ∨
    (n1 = false ∧ n2 = false ∧ b1 = false ∧ n3 = false ∧ b2 = false ∧ b3 = true) ∨ (n1 = false ∧ n2 = false ∧ b1 = false ∧ n3 = false ∧ b2 = false ∧ b3 = false) := by
  cases n1 <;> cases n2 <;> cases n3 <;> cases b1 <;> cases b2 <;> cases b3 <;> simp

end Go.Proofs.Ytmikgkelmdgckaa

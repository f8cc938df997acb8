/- Steps of a walk over double floats: what an operation gives, a NaN's bits left open. -/
import Derived.Test.YtmikgkelmdgckaaHid
import Derived.Test.YtmikgkelmdgckaaFloatMath
import Derived.WalkKit
import Derived.ProofKit
import Derived.OpenShut
import Derived.Outline
import Derived.WalkLawsBesides
import Derived.Deep.QuietTactic
import Derived.BigQuiet
import Derived.IntWalk
import Derived.Deep.RegionWith
import Derived.Laws.BitsAllLaws
import Derived.Laws.Externs
namespace Go.Proofs.Ytmikgkelmdgckaa
open Go.ChangeShapes Go.WideShapes Go.ChangeAt Go.RowKit
open FM Ieee
set_option linter.unusedVariables false


abbrev fl (b : Nat) : Value := .float .f64 b
abbrev ford (a b : Nat) : Option Ordering := FloatKind.f64.format.order a b


theorem write_num (s : Bool) (m : Nat) (p : Int) : isNan (D.nearest s m p) = false := by
  unfold Format.nearest
  simp only [Format.word, inf, sw]
  unfold isNan
  split
  · cases s <;> decide
  · apply decide_eq_false
    generalize Toward.even.cut s (m <<< _) _ = k
    generalize (_ : Int).toNat * D.binade = j
    cases s <;> simp <;> omega

theorem write_any (d : Datum) (h : ∀ s t, d ≠ .nan s t) : isNan (D.write d) = false := by
  cases d with
  | number s m p => exact write_num s m p
  | infinity s => cases s <;> decide
  | nan s t => exact absurd rfl (h s t)

/-- A float as a value: none, where it is a NaN. -/
def val (b : Nat) : Option Nat := if isNan b = true then none else some b
def vop (op : BinOp) (a b : Option Nat) : Option Nat := a.bind fun x => b.bind fun y => floatBits op .f64 x y

theorem sum_num (a b : Datum) : ∀ s t, a.sum b ≠ some (.nan s t) := by
  intro s t h
  cases a <;> cases b <;> simp only [Datum.sum] at h <;> (try split at h) <;> cases h
theorem product_num (a b : Datum) : ∀ s t, a.product b ≠ some (.nan s t) := by
  intro s t h
  cases a <;> cases b <;> simp only [Datum.product] at h <;> (try split at h) <;> cases h
theorem quotient_num (n : Nat) (a b : Datum) : ∀ s t, a.quotient n b ≠ some (.nan s t) := by
  intro s t h
  cases a <;> cases b <;> simp only [Datum.quotient] at h <;> (try split at h) <;> (try split at h) <;> cases h
theorem map_num {o : Option Datum} (h : ∀ s t, o ≠ some (.nan s t)) {r : Nat} (e : o.map D.write = some r) : isNan r = false := by
  cases o with
  | none => cases e
  | some d => cases e; exact write_any d fun s t hd => h s t (by rw [hd])

theorem floatBits_num (op : BinOp) (ho : op = .add ∨ op = .mul ∨ op = .quo) {x y r : Nat} (h : floatBits op .f64 x y = some r) : isNan r = false ∧ r < 18446744073709551616 := by
  have hw := floatBits_wf h
  have hl : r < 18446744073709551616 := by simpa [Lit.wf] using hw
  refine ⟨?_, hl⟩
  rcases ho with rfl | rfl | rfl
  · exact map_num (sum_num _ _) h
  · exact map_num (product_num _ _) h
  · exact map_num (quotient_num _ _ _) h

theorem isNan_read (x : Nat) (h : isNan x = true) : ∃ s t, D.read x = .nan s t := read_nan x (by simpa [isNan] using h)
theorem floatBits_nan (op : BinOp) (ho : op = .add ∨ op = .mul ∨ op = .quo) (x y : Nat) (h : isNan x = true ∨ isNan y = true) : floatBits op .f64 x y = none := by
  rcases h with h | h
  · obtain ⟨s, t, e⟩ := isNan_read x h
    rcases ho with rfl | rfl | rfl
    · show (((D.read x).sum (D.read y)).map D.write) = none; rw [e]; rfl
    · show (((D.read x).product (D.read y)).map D.write) = none; rw [e]; rfl
    · show (((D.read x).quotient _ (D.read y)).map D.write) = none; rw [e]; rfl
  · obtain ⟨s, t, e⟩ := isNan_read y h
    rcases ho with rfl | rfl | rfl
    · show (((D.read x).sum (D.read y)).map D.write) = none; rw [e]; cases D.read x <;> rfl
    · show (((D.read x).product (D.read y)).map D.write) = none; rw [e]; cases D.read x <;> rfl
    · show (((D.read x).quotient _ (D.read y)).map D.write) = none; rw [e]; cases D.read x <;> rfl

theorem val_op (op : BinOp) (ho : op = .add ∨ op = .mul ∨ op = .quo) (x y : Nat) : vop op (val x) (val y) = floatBits op .f64 x y := by
  unfold vop val
  cases hx : isNan x with
  | true => rw [floatBits_nan op ho x y (.inl hx)]; rfl
  | false =>
    cases hy : isNan y with
    | true => rw [floatBits_nan op ho x y (.inr hy)]; rfl
    | false => rfl

theorem nan_cut (x y t : Nat) : isNan ((Question.nanBits .f64 x y).cut t) = true ∧ (Question.nanBits .f64 x y).cut t < 18446744073709551616 := by
  have e : (Question.nanBits .f64 x y).cut t = (t % 2) * 9223372036854775808 + 9218868437227405312 + 1 + (t / 2) % 4503599627370495 := rfl
  rw [e]
  unfold isNan
  have h := Nat.mod_lt (t / 2) (show 0 < 4503599627370495 by decide)
  generalize t / 2 % 4503599627370495 = q at *
  refine ⟨decide_eq_true ?_, by omega⟩
  rcases (by omega : t % 2 = 0 ∨ t % 2 = 1) with h2 | h2 <;> rw [h2] <;> omega

/-- What an operation on two floats gives: its value; the world draws where a NaN's bits are left open. -/
theorem run_float_any {P : Program} (w : World) (op : BinOp) (ho : op = .add ∨ op = .mul ∨ op = .quo) (t : TypeId) (x y : Nat) :
    ∃ r n, (binOp op t (fl x) (fl y)).run P w = .ok (fl r) (w.drewN n) ∧ r < 18446744073709551616 ∧ val r = vop op (val x) (val y) := by
  rw [val_op op ho]
  cases h : floatBits op .f64 x y with
  | some r =>
    have := floatBits_num op ho h
    exact ⟨r, 0, run_float_arith w op t .f64 x y r h, this.2, by simp [val, this.1]⟩
  | none =>
    have hc := nan_cut x y (w.tape w.drawn (.nanBits .f64 x y))
    refine ⟨_, 1, ?_, hc.2, by simp [val, hc.1]⟩
    rcases ho with rfl | rfl | rfl
    all_goals
      unfold floatBits at h
      simp only at h
      simp [binOp, Op.floatArith, h, Question.forced, Result.andThen]
      rfl

/-- The step of a walk over an operation on two floats. -/
theorem wpList_float {P : Program} {w : World} {ops : Array Oper} {rest : List Oper} {o : Oper} {a : Act} {Q : Exit → Act → World → Prop} (hg : o.guard = none) {op : BinOp} {t u : TypeId} {x y : Operand} (hop : o.op = Op.binOp op t x y u)
    (ho : op = .add ∨ op = .mul ∨ op = .quo) {p q : Nat} (hx : a.eval x = fl p) (hy : a.eval y = fl q)
    (hK : ∀ r n, r < 18446744073709551616 → val r = vop op (val p) (val q) → wpList P ops Q rest (a.put o.dst (fl r)) (w.drewN n)) :
    wpList P ops Q (o :: rest) a w := by
  obtain ⟨r, n, hrun, h1, h2⟩ := run_float_any (P := P) w op ho t p q
  refine wpList_plain hg fun K hK' => ?_
  unfold Oper.wp
  have hguard : (eqGuard op t x y (fl p) (fl q)).run P w = .ok () w := by
    rcases ho with rfl | rfl | rfl <;> rfl
  simp [execOp, hop, hx, hy, hrun, hguard, Sem.run_bind, Result.andThen, Oper.upon]
  exact hK' _ _ (hK r n h1 h2)

/-- The same where the operation gives a number. -/
theorem wpList_float_some {P : Program} {w : World} {ops : Array Oper} {rest : List Oper} {o : Oper} {a : Act} {Q : Exit → Act → World → Prop} (hg : o.guard = none) {op : BinOp} {t u : TypeId} {x y : Operand} (hop : o.op = Op.binOp op t x y u)
    (ho : op = .add ∨ op = .mul ∨ op = .quo) {p q r : Nat} (hx : a.eval x = fl p) (hy : a.eval y = fl q) (hr : floatBits op .f64 p q = some r)
    (hK : wpList P ops Q rest (a.put o.dst (fl r)) w) :
    wpList P ops Q (o :: rest) a w := by
  have hrun := run_float_arith (P := P) w op t .f64 p q r hr
  refine wpList_plain hg fun K hK' => ?_
  unfold Oper.wp
  have hguard : (eqGuard op t x y (fl p) (fl q)).run P w = .ok () w := by
    rcases ho with rfl | rfl | rfl <;> rfl
  simp [execOp, hop, hx, hy, hrun, hguard, Sem.run_bind, Result.andThen, Oper.upon]
  exact hK' _ _ hK

/-! A float's bits and back. -/
theorem run_bits (b : Nat) (w : World) : (callFunc 63 #[fl b]).run Try.prog w = .ok (.value (.int .u64 b)) w := by
  rw [run_callFunc_extern Try.func63 (by kernel_rfl) (by kernel_rfl) (by kernel_rfl) (e := Extern.MathFloatBits.float64bits) (by kernel_rfl) _ w]
  rfl
theorem run_frombits (b : Nat) (w : World) : (callFunc 36 #[.int .u64 b]).run Try.prog w = .ok (.value (fl b)) w := by
  rw [run_callFunc_extern Try.func36 (by kernel_rfl) (by kernel_rfl) (by kernel_rfl) (e := Extern.MathFloatBits.float64frombits) (by kernel_rfl) _ w]
  rfl

end Go.Proofs.Ytmikgkelmdgckaa

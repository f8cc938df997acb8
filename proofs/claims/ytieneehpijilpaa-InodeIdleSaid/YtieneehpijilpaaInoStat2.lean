/- Contracts of package inode's Stat, New, of stores that are there. -/
import Derived.Test.YtieneehpijilpaaInoStat
namespace Go.Proofs.Ytieneehpijilpaa
open Go.ChangeShapes Go.WideShapes Go.ChangeAt Go.RowKit Go.Maps
set_option linter.unusedVariables false
set_option linter.unusedSimpArgs false
namespace IN

def stV (S : Int → Option Nd) (n : Int) : List Value := match S n with
  | none => zl
  | some d => stl n d
section
variable {base sg mb I L B k : Nat} {M : Int → Option Nat} {S : Int → Option Nd}
set_option maxRecDepth 100000 in
set_option maxHeartbeats 4000000 in
theorem Stat_any (n : Int) (w : World) (h : PS base w sg mb M I L B k S) (hn : IS.I64 n) :
    Calls Try.prog 24 #[.pointer (some ⟨sg, 0, none⟩), .int .i64 n] w fun e w' => e = .returned (.tuple #[.agg (stV S n).toArray, .int .i64 (opR S n)]) ∧ Below w.heap.size w w' := by
  have hmf : ∀ (fn : Fn) (first cap : Array Value) (w : World), (Instr.makeFunc fn first cap).run Try.prog w = .ok (.func fn first cap) w := fun _ _ _ _ => rfl
  obtain ⟨W0, hW0⟩ : ∃ W0, w.alloc (.cells #[.int .i64 0, .int .i64 0, .int .i64 0, .int .i64 0, .int .i64 0, .int .i64 0] 41) = W0 := ⟨_, rfl⟩
  have hb0 : Below w.heap.size w W0 := by rw [← hW0]; exact (Below.refl _ _).alloc (Nat.le_refl _) _
  have hr0 : Blk W0 w.heap.size 41 zl := by rw [← hW0]; exact Blk.new w _ zl rfl
  have h0 := h.keep hb0
  have cA := ask_two n h0.pm hn
  have e1 : (askR S n fun _ => 0) = opR S n := rfl
  rw [e1] at cA
  have hs0 : w.heap.size ≤ W0.heap.size := hb0.size
  cases hS : S n with
  | none =>
    have e2 : opR S n = 11 := by simp [opR, askR, hS]
    have e3 : stV S n = zl := by simp [stV, hS]
    rw [e2, e3]
    rw [e2] at cA
    replace cA := W_hid cA
    replace hb0 := W_hid hb0
    replace hr0 := W_hid hr0
    clear h h0 e1 e2 e3 hS
    go_enter Try.func24, Try.ntmps24
    go_wp2_with fail
    refine cA.out.mono ?_
    rintro e w1 ⟨rfl, b1⟩
    have hr1 := hr0.out.keep b1
    have f1 := hr1.fz
    have r0 := hr1.cell (j := 0) rfl
    have r1 := hr1.cell (j := 1) rfl
    have r2 := hr1.cell (j := 2) rfl
    have r3 := hr1.cell (j := 3) rfl
    have r4 := hr1.cell (j := 4) rfl
    have r5 := hr1.cell (j := 5) rfl
    have hfin := W_hid (six_blk hr1 0 0 0 0 0 0)
    have hbl := W_hid (six_below (hb0.out.trans (b1.mono hs0)) (Nat.le_refl _) 0 0 0 0 0 0)
    clear hr1 b1
    go_wp2_with fail
    exact bodyPost_ret (res_two rfl _ _ rfl hfin.out) rfl ⟨rfl, hbl.out⟩
  | some d =>
    have e2 : opR S n = 0 := by simp [opR, askR, hS]
    have e3 : stV S n = stl n d := by simp [stV, hS]
    rw [e2, e3]
    rw [e2] at cA
    have cS := W_hid (fun w' (hb : Below W0.heap.size W0 w') => stat_any n d w' (h0.keep hb).pm hn hS (h.fn.good n d hS).ok)
    replace cA := W_hid cA
    replace hb0 := W_hid hb0
    replace hr0 := W_hid hr0
    clear h h0 e1 e2 e3 hS
    go_enter Try.func24, Try.ntmps24
    go_wp2_with fail
    refine cA.out.mono ?_
    rintro e w1 ⟨rfl, b1⟩
    have cS1 := W_hid (cS.out w1 b1)
    have b1 := W_hid b1
    go_wp2_with fail
    refine cS1.out.mono ?_
    rintro e w2 ⟨rfl, b2⟩
    have b2 := b1.out.trans (b2.mono b1.out.size)
    have hr1 := hr0.out.keep b2
    have f1 := hr1.fz
    have r0 := hr1.cell (j := 0) rfl
    have r1 := hr1.cell (j := 1) rfl
    have r2 := hr1.cell (j := 2) rfl
    have r3 := hr1.cell (j := 3) rfl
    have r4 := hr1.cell (j := 4) rfl
    have r5 := hr1.cell (j := 5) rfl
    have hfin := W_hid (six_blk hr1 n d.kind d.links d.opens d.size (EM.cnt d.l : Int))
    have hbl := W_hid (six_below (hb0.out.trans (b2.mono hs0)) (Nat.le_refl _) n d.kind d.links d.opens d.size (EM.cnt d.l : Int))
    unfold stl
    clear hr1 b2 b1
    go_wp2_with fail
    exact bodyPost_ret (res_two rfl _ _ rfl hfin.out) rfl ⟨rfl, hbl.out⟩
end

/-! New. -/
def cap7 (a b c d e f g : Int) : Value := .agg #[.int .i64 a, .int .i64 b, .int .i64 c, .int .i64 d, .int .i64 e, .int .i64 f, .int .i64 g]
def Right (a b c : Int) : Prop := 1 ≤ a ∧ a ≤ 4096 ∧ 0 ≤ b ∧ b ≤ 16777216 ∧ 1 ≤ c ∧ c ≤ 32768

set_option maxRecDepth 100000 in
set_option maxHeartbeats 4000000 in
theorem New_yes (a b c d e f g : Int) (w : World) (hr : Right a b c) :
    Calls Try.prog 10 #[cap7 a b c d e f g] w fun r w' => ∃ sg mb M, r = .returned (.tuple #[.pointer (some ⟨sg, 0, none⟩), .int .i64 0]) ∧ PS w.heap.size w' sg mb M a.toNat c.toNat b.toNat 0 (fun _ => none) ∧ Below w.heap.size w w' := by
  have hmm := @run_makeMap Try.prog
  obtain ⟨h1, h2, h3, h4, h5, h6⟩ := hr
  unfold cap7
  go_enter Try.func10, Try.ntmps10
  go_wp2_with fail
  go_ret2
  have ht : tot (fun _ => none) a.toNat = 0 := by have := (Fine.empty a.toNat c.toNat 0).tot; omega
  refine ⟨_, _, fun _ => none, rfl, ⟨⟨?_, (IS.MB.new _).alloc _, fun _ => ⟨fun _ => rfl, fun _ => rfl⟩, fun _ _ _ h => (by cases h), fun _ _ _ h => (by cases h), ⟨by (try simp) <;> omega, by (try simp) <;> omega, fun _ _ h => by cases h⟩⟩, Fine.empty _ _ _, by omega⟩, ?_⟩
  · rw [ht, Int.toNat_of_nonneg h3, Int.toNat_of_nonneg (by omega : 0 ≤ a), Int.toNat_of_nonneg (by omega : 0 ≤ c)]
    simp only [Int.ofNat_zero, Int.sub_zero]
    have hsz : ∀ (o : Obj), (w.alloc o).heap.size = w.heap.size + 1 := fun o => by simp
    rw [hsz]
    exact Blk.new _ 57 [.map (some (w.heap.size + 1)), .int .i64 a, .int .i64 c, .int .i64 b] (by simp)
  · exact (((Below.refl _ w).alloc (Nat.le_refl _) _).alloc (by simp) _).alloc (by simp; omega) _

set_option maxRecDepth 100000 in
set_option maxHeartbeats 4000000 in
theorem New_no (a b c d e f g : Int) (w : World) (hr : ¬ Right a b c) :
    Calls Try.prog 10 #[cap7 a b c d e f g] w fun r w' => r = .returned (.tuple #[.pointer none, .int .i64 2]) ∧ Below w.heap.size w w' := by
  unfold cap7
  have hr : a < 1 ∨ ¬ a < 1 ∧ (4096 < a ∨ ¬ 4096 < a ∧ (b < 0 ∨ ¬ b < 0 ∧ (16777216 < b ∨ ¬ 16777216 < b ∧ (c < 1 ∨ ¬ c < 1 ∧ 32768 < c)))) := by unfold Right at hr; omega
  go_enter Try.func10, Try.ntmps10
  rcases hr with hr | ⟨q1, hr | ⟨q2, hr | ⟨q3, hr | ⟨q4, hr | ⟨q5, hr⟩⟩⟩⟩⟩ <;>
  · go_wp2_with fail
    go_ret2
    exact ⟨rfl, (Below.refl _ w).alloc (Nat.le_refl _) _⟩
end IN
end Go.Proofs.Ytieneehpijilpaa

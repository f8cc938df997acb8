/- Contracts of package inode's first, which asks checks one behind the other. -/
import Derived.Test.YtieneehpijilpaaInoFirst
import Derived.Test.YtieneehpijilpaaInoMath
namespace Go.Proofs.Ytieneehpijilpaa
open Go.ChangeShapes Go.WideShapes Go.ChangeAt Go.RowKit Go.Maps
set_option linter.unusedVariables false
set_option linter.unusedSimpArgs false
namespace IN

set_option maxRecDepth 100000 in
set_option maxHeartbeats 4000000 in
theorem first_one (p : Value) (k1 : Nat) (r1 : Int) (n : Int) (b : Nat) (w : World) (hB : Blk w b 45 [.func (.func k1) #[p] #[]])
    (e1 : ∀ w, (callFunc k1 #[p, .int .i64 n]).run Try.prog w = .ok (.enter k1 #[p, .int .i64 n]) w)
    (h1 : ∀ W, Below w.heap.size w W → Calls Try.prog k1 #[p, .int .i64 n] W (Ans r1 W)) :
    Calls Try.prog 35 #[.int .i64 n, .slice (some ⟨b, 0, none⟩) 1 1] w (Ans (fst [r1]) w) := by
  have c0 := hB.cell (j := 0) rfl
  have hlt := hB.lt
  have HB := W_hid hB
  have h1 := W_hid h1
  clear hB
  go_enter Try.func35, Try.ntmps35
  go_wp2_with fail
  refine wp_loop_rounds 2 ?_
  rw [rounds_succ]
  go_wp2_with fail
  refine (h1.out w (Below.refl _ _)).mono ?_
  rintro e w1 ⟨rfl, b1⟩
  by_cases hr1 : r1 = 0
  · subst hr1
    go_wp2_with fail
    rw [rounds_succ]
    go_wp2_with fail
    go_ret
    exact ⟨rfl, b1⟩
  · go_wp2_with fail
    go_ret
    exact ⟨by simp [fst, hr1], b1⟩

set_option maxRecDepth 100000 in
set_option maxHeartbeats 4000000 in
theorem first_two (p : Value) (k1 k2 : Nat) (r1 r2 : Int) (n : Int) (b : Nat) (w : World) (hB : Blk w b 45 [.func (.func k1) #[p] #[], .func (.func k2) #[p] #[]])
    (e1 : ∀ w, (callFunc k1 #[p, .int .i64 n]).run Try.prog w = .ok (.enter k1 #[p, .int .i64 n]) w) (e2 : ∀ w, (callFunc k2 #[p, .int .i64 n]).run Try.prog w = .ok (.enter k2 #[p, .int .i64 n]) w)
    (h1 : ∀ W, Below w.heap.size w W → Calls Try.prog k1 #[p, .int .i64 n] W (Ans r1 W)) (h2 : ∀ W, r1 = 0 → Below w.heap.size w W → Calls Try.prog k2 #[p, .int .i64 n] W (Ans r2 W)) :
    Calls Try.prog 35 #[.int .i64 n, .slice (some ⟨b, 0, none⟩) 2 2] w (Ans (fst [r1, r2]) w) := by
  have c0 := hB.cell (j := 0) rfl
  have hlt := hB.lt
  have HB := W_hid hB
  have h1 := W_hid h1
  have h2 := W_hid h2
  clear hB
  go_enter Try.func35, Try.ntmps35
  go_wp2_with fail
  refine wp_loop_rounds 3 ?_
  rw [rounds_succ]
  go_wp2_with fail
  refine (h1.out w (Below.refl _ _)).mono ?_
  rintro e w1 ⟨rfl, b1⟩
  by_cases hr1 : r1 = 0
  · subst hr1
    have c1 := (HB.out.keep b1).cell (j := 1) rfl
    have B1 := W_hid b1
    clear b1
    go_wp2_with fail
    rw [rounds_succ]
    go_wp2_with fail
    refine (h2.out w1 (by simp) B1.out).mono ?_
    rintro e w2 ⟨rfl, b2⟩
    have b2 := B1.out.trans (b2.mono B1.out.size)
    by_cases hr2 : r2 = 0
    · subst hr2
      go_wp2_with fail
      rw [rounds_succ]
      go_wp2_with fail
      go_ret
      exact ⟨rfl, b2⟩
    · go_wp2_with fail
      go_ret
      exact ⟨by simp [fst, hr2], b2⟩
  · go_wp2_with fail
    go_ret
    exact ⟨by simp [fst, hr1], b1⟩

set_option maxRecDepth 100000 in
set_option maxHeartbeats 4000000 in
theorem first_three (p : Value) (k1 k2 k3 : Nat) (r1 r2 r3 : Int) (n : Int) (b : Nat) (w : World) (hB : Blk w b 45 [.func (.func k1) #[p] #[], .func (.func k2) #[p] #[], .func (.func k3) #[p] #[]])
    (e1 : ∀ w, (callFunc k1 #[p, .int .i64 n]).run Try.prog w = .ok (.enter k1 #[p, .int .i64 n]) w) (e2 : ∀ w, (callFunc k2 #[p, .int .i64 n]).run Try.prog w = .ok (.enter k2 #[p, .int .i64 n]) w) (e3 : ∀ w, (callFunc k3 #[p, .int .i64 n]).run Try.prog w = .ok (.enter k3 #[p, .int .i64 n]) w)
    (h1 : ∀ W, Below w.heap.size w W → Calls Try.prog k1 #[p, .int .i64 n] W (Ans r1 W)) (h2 : ∀ W, r1 = 0 → Below w.heap.size w W → Calls Try.prog k2 #[p, .int .i64 n] W (Ans r2 W)) (h3 : ∀ W, r1 = 0 → r2 = 0 → Below w.heap.size w W → Calls Try.prog k3 #[p, .int .i64 n] W (Ans r3 W)) :
    Calls Try.prog 35 #[.int .i64 n, .slice (some ⟨b, 0, none⟩) 3 3] w (Ans (fst [r1, r2, r3]) w) := by
  have c0 := hB.cell (j := 0) rfl
  have hlt := hB.lt
  have HB := W_hid hB
  have h1 := W_hid h1
  have h2 := W_hid h2
  have h3 := W_hid h3
  clear hB
  go_enter Try.func35, Try.ntmps35
  go_wp2_with fail
  refine wp_loop_rounds 4 ?_
  rw [rounds_succ]
  go_wp2_with fail
  refine (h1.out w (Below.refl _ _)).mono ?_
  rintro e w1 ⟨rfl, b1⟩
  by_cases hr1 : r1 = 0
  · subst hr1
    have c1 := (HB.out.keep b1).cell (j := 1) rfl
    have B1 := W_hid b1
    clear b1
    go_wp2_with fail
    rw [rounds_succ]
    go_wp2_with fail
    refine (h2.out w1 (by simp) B1.out).mono ?_
    rintro e w2 ⟨rfl, b2⟩
    have b2 := B1.out.trans (b2.mono B1.out.size)
    by_cases hr2 : r2 = 0
    · subst hr2
      have c2 := (HB.out.keep b2).cell (j := 2) rfl
      have B2 := W_hid b2
      clear b2
      go_wp2_with fail
      rw [rounds_succ]
      go_wp2_with fail
      refine (h3.out w2 (by simp) (by simp) B2.out).mono ?_
      rintro e w3 ⟨rfl, b3⟩
      have b3 := B2.out.trans (b3.mono B2.out.size)
      by_cases hr3 : r3 = 0
      · subst hr3
        go_wp2_with fail
        rw [rounds_succ]
        go_wp2_with fail
        go_ret
        exact ⟨rfl, b3⟩
      · go_wp2_with fail
        go_ret
        exact ⟨by simp [fst, hr3], b3⟩
    · go_wp2_with fail
      go_ret
      exact ⟨by simp [fst, hr2], b2⟩
  · go_wp2_with fail
    go_ret
    exact ⟨by simp [fst, hr1], b1⟩

set_option maxRecDepth 100000 in
set_option maxHeartbeats 4000000 in
theorem first_make (p : Value) (k1 k2 k3 : Nat) (r1 r2 r3 : Int) (n : Int) (b : Nat) (w : World) (hB : Blk w b 45 [.func (.func k1) #[p] #[], .func (.func k2) #[] #[], .func (.func k3) #[p] #[]])
    (e1 : ∀ w, (callFunc k1 #[p, .int .i64 n]).run Try.prog w = .ok (.enter k1 #[p, .int .i64 n]) w) (e2 : ∀ w, (callFunc k2 #[.int .i64 n]).run Try.prog w = .ok (.enter k2 #[.int .i64 n]) w) (e3 : ∀ w, (callFunc k3 #[p, .int .i64 n]).run Try.prog w = .ok (.enter k3 #[p, .int .i64 n]) w)
    (h1 : ∀ W, Below w.heap.size w W → Calls Try.prog k1 #[p, .int .i64 n] W (Ans r1 W)) (h2 : ∀ W, r1 = 0 → Below w.heap.size w W → Calls Try.prog k2 #[.int .i64 n] W (Ans r2 W)) (h3 : ∀ W, r1 = 0 → r2 = 0 → Below w.heap.size w W → Calls Try.prog k3 #[p, .int .i64 n] W (Ans r3 W)) :
    Calls Try.prog 35 #[.int .i64 n, .slice (some ⟨b, 0, none⟩) 3 3] w (Ans (fst [r1, r2, r3]) w) := by
  have c0 := hB.cell (j := 0) rfl
  have hlt := hB.lt
  have HB := W_hid hB
  have h1 := W_hid h1
  have h2 := W_hid h2
  have h3 := W_hid h3
  clear hB
  go_enter Try.func35, Try.ntmps35
  go_wp2_with fail
  refine wp_loop_rounds 4 ?_
  rw [rounds_succ]
  go_wp2_with fail
  refine (h1.out w (Below.refl _ _)).mono ?_
  rintro e w1 ⟨rfl, b1⟩
  by_cases hr1 : r1 = 0
  · subst hr1
    have c1 := (HB.out.keep b1).cell (j := 1) rfl
    have B1 := W_hid b1
    clear b1
    go_wp2_with fail
    rw [rounds_succ]
    go_wp2_with fail
    refine (h2.out w1 (by simp) B1.out).mono ?_
    rintro e w2 ⟨rfl, b2⟩
    have b2 := B1.out.trans (b2.mono B1.out.size)
    by_cases hr2 : r2 = 0
    · subst hr2
      have c2 := (HB.out.keep b2).cell (j := 2) rfl
      have B2 := W_hid b2
      clear b2
      go_wp2_with fail
      rw [rounds_succ]
      go_wp2_with fail
      refine (h3.out w2 (by simp) (by simp) B2.out).mono ?_
      rintro e w3 ⟨rfl, b3⟩
      have b3 := B2.out.trans (b3.mono B2.out.size)
      by_cases hr3 : r3 = 0
      · subst hr3
        go_wp2_with fail
        rw [rounds_succ]
        go_wp2_with fail
        go_ret
        exact ⟨rfl, b3⟩
      · go_wp2_with fail
        go_ret
        exact ⟨by simp [fst, hr3], b3⟩
    · go_wp2_with fail
      go_ret
      exact ⟨by simp [fst, hr2], b2⟩
  · go_wp2_with fail
    go_ret
    exact ⟨by simp [fst, hr1], b1⟩

/-- What made, has and a third check say. -/
def askR (S : Int → Option Nd) (n : Int) (r : Nd → Int) : Int := match S n with | none => 11 | some d => r d

theorem ask_made (k : Nat) (hk : k = 36) (p : Value) (n : Int) (w : World) : (callFunc k #[p, .int .i64 n]).run Try.prog w = .ok (.enter k #[p, .int .i64 n]) w := by subst hk; kernel_rfl
section
variable {base sg mb : Nat} {M : Int → Option Nat} {I L left : Int} {S : Int → Option Nd}
/-- The slice of checks, made last. -/
theorem chk_blk (w : World) (l : List Value) (x : Nat) (hx : x = w.heap.size) : Blk (w.alloc (.cells l.toArray 45)) x 45 l := Blk.new w _ l hx
end
end IN
end Go.Proofs.Ytieneehpijilpaa

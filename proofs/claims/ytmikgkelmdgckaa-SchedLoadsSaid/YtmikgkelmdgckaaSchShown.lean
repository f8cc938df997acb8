/- Layer 15: shown. -/
import Derived.Test.YtmikgkelmdgckaaSchNice
import Derived.Test.YtmikgkelmdgckaaSchNext
namespace Go.Proofs.Ytmikgkelmdgckaa
open Go.ChangeShapes Go.WideShapes Go.ChangeAt Go.RowKit
set_option linter.unusedVariables false
set_option linter.unusedSimpArgs false
set_option maxRecDepth 100000
namespace SD
open IN (Keeps lt_of_some)
def s1 : Qs := (addR ⟨[], []⟩ 1 0).2
def s2 : Qs := (addR s1 2 0).2
def s3 : Qs := (nextR s2).2
def s4 : Qs := (nextR s3).2
theorem e1 : addR ⟨[], []⟩ 1 0 = (0, s1) := by kernel_rfl
theorem e2 : addR s1 2 0 = (0, s2) := by kernel_rfl
theorem e3 : nextR s2 = ((1, 0), s3) := by kernel_rfl
theorem e4 : nextR s3 = ((2, 0), s4) := by kernel_rfl
theorem e5 : loadR s4 1 = (4598175219545276416, 0) := by kernel_rfl
theorem g1 : Good 1 s1 := good_add (Good.new 0) (p := 1) (n := 0) (by decide) rfl rfl
theorem g2 : Good 2 s2 := good_add g1 (p := 2) (n := 0) (by decide) rfl rfl
theorem g3 : Good 2 s3 := good_next g2 (p := 1) (by decide)
theorem g4 : Good 2 s4 := good_next g3 (p := 2) (by decide)
/-- A queue all of whose blocks are newer than a world. -/
def SW (w0 : World) (qb : Nat) (S : Qs) (w : World) : Prop := ∃ X, QW w0.heap.size w qb S X ∧ Below w0.heap.size w0 w
theorem SW.next {w0 : World} {qb : Nat} {S S' : Qs} {w w' : World} {X : Nat → Prop} (hb : Below w0.heap.size w0 w) (h : QO w0.heap.size w qb S' X w') : SW w0 qb S' w' := by
  obtain ⟨X', h1, h2, h3⟩ := h
  exact ⟨X', h1, hb.trans (h2.below (Nat.le_refl _))⟩
theorem SW.new (w : World) : Calls Try.prog 9 #[] w fun e w' => ∃ qb, e = .returned (ptr qb) ∧ SW w qb ⟨[], []⟩ w' := by
  refine (New_any w).mono ?_
  rintro e w' ⟨qb, X, h1, h2, h3⟩
  exact ⟨qb, h1, X, h2, h3⟩
theorem SW.add {w0 : World} {qb c : Nat} {S : Qs} {w : World} (h : SW w0 qb S w) (hG : Good c S) (hc : c ≤ 49000) (p n : Int) : Calls Try.prog 10 #[ptr qb, .int .i64 p, .int .i64 n] w fun e w' => e = .returned (.int .i64 (addR S p n).1) ∧ SW w0 qb (addR S p n).2 w' := by
  obtain ⟨X, h1, h2⟩ := h
  refine (Add_any h1 hG hc p n).mono ?_
  rintro e w' ⟨h3, h4⟩
  exact ⟨h3, SW.next (S := S) h2 h4⟩
theorem SW.nxt {w0 : World} {qb c : Nat} {S : Qs} {w : World} (h : SW w0 qb S w) (hG : Good c S) (hc : c ≤ 49000) : Calls Try.prog 11 #[ptr qb] w fun e w' => e = .returned (.tuple #[.int .i64 (nextR S).1.1, .int .i64 (nextR S).1.2]) ∧ SW w0 qb (nextR S).2 w' := by
  obtain ⟨X, h1, h2⟩ := h
  refine (Next_any h1 hG (by omega)).mono ?_
  rintro e w' ⟨h3, h4⟩
  exact ⟨h3, SW.next (S := S) h2 h4⟩
theorem SW.load {w0 : World} {qb c : Nat} {S : Qs} {w : World} (h : SW w0 qb S w) (hG : Good c S) (hc : c ≤ 49000) (p : Int) : Calls Try.prog 6 #[ptr qb, .int .i64 p] w fun e w' => e = .returned (.tuple #[.float .f64 (loadR S p).1, .int .i64 (loadR S p).2]) ∧ SW w0 qb S w' := by
  obtain ⟨X, h1, h2⟩ := h
  refine (Load_any h1 hG (by omega) p).mono ?_
  rintro e w' ⟨h3, h4⟩
  exact ⟨h3, SW.next (S := S) h2 h4⟩
set_option maxRecDepth 100000 in
set_option maxHeartbeats 4000000 in
theorem shown15 (w : World) : Calls Try.prog 4 #[] w fun e w' => e = .returned (.bool true) ∧ Below w.heap.size w w' := by
  have cN := W_hid (SW.new w)
  have c1 := W_hid (fun qb w1 (h : SW w qb ⟨[], []⟩ w1) => by have := h.add (Good.new 0) (by omega) 1 0; rw [e1] at this; exact this)
  have c2 := W_hid (fun qb w1 (h : SW w qb s1 w1) => by have := h.add g1 (by omega) 2 0; rw [e2] at this; exact this)
  have c3 := W_hid (fun qb w1 (h : SW w qb s2 w1) => by have := h.nxt g2 (by omega); rw [e3] at this; exact this)
  have c4 := W_hid (fun qb w1 (h : SW w qb s3 w1) => by have := h.nxt g3 (by omega); rw [e4] at this; exact this)
  have c5 := W_hid (fun qb w1 (h : SW w qb s4 w1) => by have := h.load g4 (by omega) 1; rw [e5] at this; exact this)
  go_enter Try.func4, Try.ntmps4
  go_wp2_with fail
  refine cN.out.mono ?_
  rintro e w1 ⟨qb, rfl, h1⟩
  have d1 := W_hid (c1.out _ _ h1)
  clear h1
  go_wp2_with fail
  refine d1.out.mono ?_
  rintro e w2 ⟨rfl, h2⟩
  have d2 := W_hid (c2.out _ _ h2)
  clear h2
  go_wp2_with fail
  refine d2.out.mono ?_
  rintro e w3 ⟨rfl, h3⟩
  have d3 := W_hid (c3.out _ _ h3)
  clear h3
  go_wp2_with fail
  refine d3.out.mono ?_
  rintro e w4 ⟨rfl, h4⟩
  have d4 := W_hid (c4.out _ _ h4)
  clear h4
  go_wp2_with fail
  refine d4.out.mono ?_
  rintro e w5 ⟨rfl, h5⟩
  have d5 := W_hid (c5.out _ _ h5)
  clear h5
  go_wp2_with fail
  refine d5.out.mono ?_
  rintro e w6 ⟨rfl, h6⟩
  have h6 := W_hid h6
  go_wp2_with fail
  go_ret
  obtain ⟨X, -, hb⟩ := h6.out
  exact ⟨rfl, hb⟩
end SD
end Go.Proofs.Ytmikgkelmdgckaa

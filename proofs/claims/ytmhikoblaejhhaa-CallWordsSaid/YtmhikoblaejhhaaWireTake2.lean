/- Contracts of TakeNumber and TakeText of package wire. -/
import Derived.Test.YtmhikoblaejhhaaWireTake
namespace Go.Proofs.Ytmhikoblaejhhaa
open Go.ChangeShapes Go.WideShapes Go.ChangeAt Go.RowKit
set_option linter.unusedVariables false

/-- Two new blocks of one cell each. -/
theorem two_boxes (w : World) (u v : Value) (tu tv : Nat) :
    ((w.alloc (.cells #[u] tu)).alloc (.cells #[v] tv)).cell? ⟨w.heap.size + 1, 0, none⟩ = some v ∧ ((w.alloc (.cells #[u] tu)).alloc (.cells #[v] tv)).frozen? ⟨w.heap.size + 1, 0, none⟩ = false ∧
      ((w.alloc (.cells #[u] tu)).alloc (.cells #[v] tv)).cell? ⟨w.heap.size, 0, none⟩ = some u := by
  have h1 : ((w.alloc (.cells #[u] tu)).alloc (.cells #[v] tv)).heap[w.heap.size + 1]? = some (.cells #[v] tv (0, 0)) := by
    have := heap_alloc_new (w.alloc (.cells #[u] tu)) (.cells #[v] tv)
    simpa using this
  have h0 : ((w.alloc (.cells #[u] tu)).alloc (.cells #[v] tv)).heap[w.heap.size]? = some (.cells #[u] tu (0, 0)) := by
    rw [Below.heap_alloc _ _ _ (by simp)]; exact heap_alloc_new _ _
  refine ⟨?_, frozen_of_row _ _ _ _ _ h1, ?_⟩
  · rw [cell_of_row _ _ 0 _ _ _ h1]; rfl
  · rw [cell_of_row _ _ 0 _ _ _ h0]; rfl

theorem carried {w w' : World} (h : Below w.heap.size w w') {a : Addr} {v : Value} (hc : w.cell? a = some v) : w'.cell? a = some v := by
  rw [h.cell (World.block_lt_of_cell? w _ hc)]; exact hc
theorem carried_frozen {w w' : World} (h : Below w.heap.size w w') {a : Addr} {v : Value} (hc : w.cell? a = some v) (hf : w.frozen? a = false) : w'.frozen? a = false := by
  rw [h.frozen (World.block_lt_of_cell? w _ hc)]; exact hf

set_option maxRecDepth 100000 in
set_option maxHeartbeats 400000 in
theorem TakeNumber_yes (ao : Option Addr) (n cap : Nat) (l : List UInt8) (x : Nat) (w : World) (hb : BS w ao n cap l) (hx : x + 8 ≤ n) :
    Calls Try.prog 33 #[.slice ao n cap, .int .i64 x] w fun e w' =>
      e = .returned (.tuple #[.int .u64 ((num ((l.drop x).take 8) : Nat) : Int), .int .i64 ((x : Int) + 8), .int .i64 0]) ∧ Below w.heap.size w w' := by
  have bel0 : Below w.heap.size w ((w.alloc (.cells #[.slice ao n cap] 50)).alloc (.cells #[.int .i64 x] 3)) := ((Below.refl _ _).alloc (Nat.le_refl _) _).alloc (by simp) _
  obtain ⟨c1, f1, c0⟩ := two_boxes w (.slice ao n cap) (.int .i64 x) 50 3
  go_enter Try.func33, Try.ntmps33
  go_wp2_with (first
    | (go_at_call 38; go_in)
    | (go_at_call 40; refine (taken_yes (w.heap.size + 1) ao n cap l x 8 8 rfl w _ hb (by omega) bel0 hx c1 f1 w.heap.size c0 (by omega)).mono ?_; rintro e w1 ⟨ao1, rfl, hb1, bel1, c1', f1', c0'⟩)
    | (go_at_call 39; refine (gather_any ao1 8 (cap - x) _ w1 (hb1.below bel1 (Nat.le_refl _)) (Nat.le_refl _)).mono ?_; rintro e w2 ⟨rfl, bel2⟩))
  go_ret3
  exact ⟨rfl, bel1.trans (bel2.mono bel1.size)⟩

theorem TakeNumber_no (ao : Option Addr) (n cap : Nat) (l : List UInt8) (x : Int) (w : World) (hb : BS w ao n cap l) (hx0 : -9223372036854775808 ≤ x) (hx1 : x ≤ 9223372036854775807) (hno : x < 0 ∨ (n : Int) < x ∨ (n : Int) - x < 8) :
    Calls Try.prog 33 #[.slice ao n cap, .int .i64 x] w fun e w' => e = .returned (.tuple #[.int .u64 0, .int .i64 0, .int .i64 100]) ∧ Below w.heap.size w w' := by
  have bel0 : Below w.heap.size w ((w.alloc (.cells #[.slice ao n cap] 50)).alloc (.cells #[.int .i64 x] 3)) := ((Below.refl _ _).alloc (Nat.le_refl _) _).alloc (by simp) _
  obtain ⟨c1, f1, c0⟩ := two_boxes w (.slice ao n cap) (.int .i64 x) 50 3
  go_enter Try.func33, Try.ntmps33
  go_wp2_with (first
    | (go_at_call 38; go_in)
    | (go_at_call 40; refine (taken_no (w.heap.size + 1) ao n cap l x 8 w _ hb hx0 hx1 hno c1 w.heap.size c0).mono ?_; rintro e w1 ⟨rfl, rfl⟩))
  go_ret3
  exact ⟨rfl, bel0⟩

/-- TakeText: no length is there. -/
theorem TakeText_no1 (ao : Option Addr) (n cap : Nat) (l : List UInt8) (x most : Int) (w : World) (hb : BS w ao n cap l) (hx0 : -9223372036854775808 ≤ x) (hx1 : x ≤ 9223372036854775807) (hno : x < 0 ∨ (n : Int) < x ∨ (n : Int) - x < 4) :
    Calls Try.prog 35 #[.slice ao n cap, .int .i64 x, .int .i64 most] w fun e w' => e = .returned (.tuple #[.string ByteArray.empty, .int .i64 0, .int .i64 100]) ∧ Below w.heap.size w w' := by
  have bel0 : Below w.heap.size w ((w.alloc (.cells #[.slice ao n cap] 50)).alloc (.cells #[.int .i64 x] 3)) := ((Below.refl _ _).alloc (Nat.le_refl _) _).alloc (by simp) _
  obtain ⟨c1, f1, c0⟩ := two_boxes w (.slice ao n cap) (.int .i64 x) 50 3
  go_enter Try.func35, Try.ntmps35
  go_wp2_with (first
    | (go_at_call 38; go_in)
    | (go_at_call 40; refine (taken_no (w.heap.size + 1) ao n cap l x 4 w _ hb hx0 hx1 hno c1 w.heap.size c0).mono ?_; rintro e w1 ⟨rfl, rfl⟩))
  go_ret3
  exact ⟨rfl, bel0⟩

set_option maxRecDepth 100000 in
set_option maxHeartbeats 400000 in
/-- TakeText: the length is more than is wanted. -/
theorem TakeText_no2 (ao : Option Addr) (n cap : Nat) (l : List UInt8) (x z : Nat) (most : Int) (w : World) (hb : BS w ao n cap l) (hx : x + 4 ≤ n) (hz : Hid (num ((l.drop x).take 4) = z)) (hzl : z < 4294967296) (hno : most < z) :
    Calls Try.prog 35 #[.slice ao n cap, .int .i64 x, .int .i64 most] w fun e w' => e = .returned (.tuple #[.string ByteArray.empty, .int .i64 0, .int .i64 100]) ∧ Below w.heap.size w w' := by
  have bel0 : Below w.heap.size w ((w.alloc (.cells #[.slice ao n cap] 50)).alloc (.cells #[.int .i64 x] 3)) := ((Below.refl _ _).alloc (Nat.le_refl _) _).alloc (by simp) _
  obtain ⟨c1, f1, c0⟩ := two_boxes w (.slice ao n cap) (.int .i64 x) 50 3
  have gath : ∀ ao1 wx, BS wx ao1 4 (cap - x) ((l.drop x).take 4) → Calls Try.prog 39 #[.slice ao1 4 (cap - x)] wx fun e w' => e = .returned (.int .u64 (z : Int)) ∧ Below wx.heap.size wx w' := fun ao1 wx h => by
    have := gather_any ao1 4 (cap - x) _ wx h (by omega)
    rwa [hz.out] at this
  go_enter Try.func35, Try.ntmps35
  go_wp2_with (first
    | (go_at_call 38; go_in)
    | (go_at_call 40; refine (taken_yes (w.heap.size + 1) ao n cap l x 4 4 rfl w _ hb (by omega) bel0 hx c1 f1 w.heap.size c0 (by omega)).mono ?_; rintro e w1 ⟨ao1, rfl, hb1, bel1, c1', f1', c0'⟩)
    | (go_at_call 39; refine (gath ao1 w1 (hb1.below bel1 (Nat.le_refl _))).mono ?_; rintro e w2 ⟨rfl, bel2⟩))
  go_ret3
  exact ⟨rfl, bel1.trans (bel2.mono bel1.size)⟩

set_option maxRecDepth 100000 in
set_option maxHeartbeats 400000 in
/-- TakeText: the length is more than is left. -/
theorem TakeText_no3 (ao : Option Addr) (n cap : Nat) (l : List UInt8) (x z : Nat) (most : Int) (w : World) (hb : BS w ao n cap l) (hx : x + 4 ≤ n) (hz : Hid (num ((l.drop x).take 4) = z)) (hzl : z < 4294967296) (hmost : (z : Int) ≤ most) (hno : n < x + 4 + z) :
    Calls Try.prog 35 #[.slice ao n cap, .int .i64 x, .int .i64 most] w fun e w' => e = .returned (.tuple #[.string ByteArray.empty, .int .i64 0, .int .i64 100]) ∧ Below w.heap.size w w' := by
  have hm : n ≤ 9223372036854775807 := by have h1 := hb.2.2.1; have h2 := hb.2.1; unfold maxLen at h1; omega
  have bel0 : Below w.heap.size w ((w.alloc (.cells #[.slice ao n cap] 50)).alloc (.cells #[.int .i64 x] 3)) := ((Below.refl _ _).alloc (Nat.le_refl _) _).alloc (by simp) _
  obtain ⟨c1, f1, c0⟩ := two_boxes w (.slice ao n cap) (.int .i64 x) 50 3
  have gath : ∀ ao1 wx, BS wx ao1 4 (cap - x) ((l.drop x).take 4) → Calls Try.prog 39 #[.slice ao1 4 (cap - x)] wx fun e w' => e = .returned (.int .u64 (z : Int)) ∧ Below wx.heap.size wx w' := fun ao1 wx h => by
    have := gather_any ao1 4 (cap - x) _ wx h (by omega)
    rwa [hz.out] at this
  go_enter Try.func35, Try.ntmps35
  go_wp2_with (go_at_call 38; go_in)
  refine (taken_yes (w.heap.size + 1) ao n cap l x 4 4 rfl w _ hb (by omega) bel0 hx c1 f1 w.heap.size c0 (by omega)).mono ?_
  rintro e w1 ⟨ao1, rfl, hb1, bel1, c1', f1', c0'⟩
  go_wp2_with fail
  refine (gath ao1 w1 (hb1.below bel1 (Nat.le_refl _))).mono ?_
  rintro e w2 ⟨rfl, bel2⟩
  have c1s := carried bel2 c1'
  have c0s := carried bel2 c0'
  go_wp2_with fail
  refine (taken_no (w.heap.size + 1) ao n cap l ((x + 4 : Nat) : Int) z w _ hb (by omega) (by omega) (by omega) c1s w.heap.size c0s).mono ?_
  rintro e w3 ⟨rfl, rfl⟩
  go_wp2_with fail
  go_ret3
  exact ⟨rfl, bel1.trans (bel2.mono bel1.size)⟩

set_option maxRecDepth 100000 in
set_option maxHeartbeats 400000 in
/-- TakeText: a text is there. -/
theorem TakeText_yes (ao : Option Addr) (n cap : Nat) (l : List UInt8) (x z : Nat) (most : Int) (w : World) (hb : BS w ao n cap l) (hz : Hid (num ((l.drop x).take 4) = z)) (hzl : z < 4294967296) (hmost : (z : Int) ≤ most) (hx : x + 4 + z ≤ n) :
    Calls Try.prog 35 #[.slice ao n cap, .int .i64 x, .int .i64 most] w fun e w' => e = .returned (.tuple #[.string (strOf ((l.drop (x + 4)).take z)), .int .i64 ((x : Int) + 4 + z), .int .i64 0]) ∧ Below w.heap.size w w' := by
  have hm : n ≤ 9223372036854775807 := by have h1 := hb.2.2.1; have h2 := hb.2.1; unfold maxLen at h1; omega
  have bel0 : Below w.heap.size w ((w.alloc (.cells #[.slice ao n cap] 50)).alloc (.cells #[.int .i64 x] 3)) := ((Below.refl _ _).alloc (Nat.le_refl _) _).alloc (by simp) _
  obtain ⟨c1, f1, c0⟩ := two_boxes w (.slice ao n cap) (.int .i64 x) 50 3
  have gath : ∀ ao1 wx, BS wx ao1 4 (cap - x) ((l.drop x).take 4) → Calls Try.prog 39 #[.slice ao1 4 (cap - x)] wx fun e w' => e = .returned (.int .u64 (z : Int)) ∧ Below wx.heap.size wx w' := fun ao1 wx h => by
    have := gather_any ao1 4 (cap - x) _ wx h (by omega)
    rwa [hz.out] at this
  go_enter Try.func35, Try.ntmps35
  go_wp2_with (go_at_call 38; go_in)
  refine (taken_yes (w.heap.size + 1) ao n cap l x 4 4 rfl w _ hb (by omega) bel0 (by omega) c1 f1 w.heap.size c0 (by omega)).mono ?_
  rintro e w1 ⟨ao1, rfl, hb1, bel1, c1', f1', c0'⟩
  go_wp2_with fail
  refine (gath ao1 w1 (hb1.below bel1 (Nat.le_refl _))).mono ?_
  rintro e w2 ⟨rfl, bel2⟩
  have c1s := carried bel2 c1'
  have c0s := carried bel2 c0'
  have f1s := carried_frozen bel2 c1' f1'
  go_wp2_with fail
  refine (taken_yes (w.heap.size + 1) ao n cap l (x + 4) z z rfl w _ hb (by omega) (bel1.trans (bel2.mono bel1.size)) hx c1s f1s w.heap.size c0s (by omega)).mono ?_
  rintro e w3 ⟨ao3, rfl, hb3, bel3, _⟩
  have hcv3 := run_conv (P := Try.prog) 50 5 Try.underlying50 Try.underlying5 9 Try.underlying9 (hb3.below bel3 (Nat.le_refl _))
  go_wp2_with fail
  go_ret3
  exact ⟨rfl, bel3⟩

end Go.Proofs.Ytmhikoblaejhhaa

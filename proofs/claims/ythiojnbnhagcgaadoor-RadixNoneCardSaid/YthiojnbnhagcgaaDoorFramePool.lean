/- Contracts of package frame: none, length, holds, newMarks, New, Left, Taken, and all of a nil pool. -/
import Derived.Test.YthiojnbnhagcgaaDoorFrameLow
import Derived.Deep.OwnRows
namespace Go.Proofs.YthiojnbnhagcgaaDoor
open Go.ChangeShapes Go.WideShapes Go.ChangeAt Go.RowKit
set_option linter.unusedVariables false
set_option linter.unusedSimpArgs false

theorem info_u64 : (Tryd.prog.info? 22).map (fun i => (i.zero, i.size, i.bytes)) = some (some (.int .u64 0), 1, 8) := by kernel_rfl
theorem info_bool : (Tryd.prog.info? 4).map (fun i => (i.zero, i.size, i.bytes)) = some (some (.bool false), 1, 1) := by kernel_rfl
theorem wrow_free (m : Nat) : wrow (fun _ => false) m = List.replicate m (.int .u64 0) := by
  apply List.ext_getElem?
  intro j
  by_cases h : j < m
  · rw [wrow_get _ _ _ h, FR.wd_free, List.getElem?_replicate_of_lt h]; rfl
  · rw [List.getElem?_eq_none (by simp [wrow]; omega), List.getElem?_eq_none (by simp; omega)]
theorem brow_free (m : Nat) : brow (fun _ => false) m = List.replicate m (.bool false) := by
  apply List.ext_getElem?
  intro j
  by_cases h : j < m
  · rw [brow_get _ _ _ h, List.getElem?_replicate_of_lt h]
  · rw [List.getElem?_eq_none (by simp [brow]; omega), List.getElem?_eq_none (by simp; omega)]
theorem make_marks (m : Nat) (hm : m ≤ 65536) : ∃ X : Obj, (∀ w : World, (Instr.makeSlice 81 (.int .u64 (m : Int)) (.int .u64 (m : Int))).run Tryd.prog w = .ok (.slice (some ⟨w.heap.size, 0, none⟩) m m) (w.alloc X)) ∧
    ∀ w : World, Blk (w.alloc X) w.heap.size 22 (wrow (fun _ => false) m) := by
  refine ⟨_, fun w => run_make_row' (P := Tryd.prog) 81 22 (.int .u64 0) 8 Tryd.underlying81 info_u64 rfl .u64 .u64 m (by omega) (by omega) w, fun w => ?_⟩
  rw [made_list, wrow_free]
  exact Blk.new w _ _ rfl
set_option maxRecDepth 100000 in
set_option maxHeartbeats 400000 in
theorem none_nil (w : World) : Calls Tryd.prog 38 #[.pointer none] w fun e w' => e = .returned (.bool true) ∧ w = w' := by
  go_enter Tryd.func38, Tryd.ntmps38
  go_wp2
  go_ret
  exact ⟨rfl, rfl⟩

set_option maxRecDepth 100000 in
set_option maxHeartbeats 400000 in
theorem none_pool (g b n m : Nat) (T : Nat → Bool) (w : World) (h : PL w g b n m T) : Calls Tryd.prog 38 #[.pointer (some ⟨g, 0, none⟩)] w fun e w' => e = .returned (.bool false) ∧ w = w' := by
  obtain ⟨lf, hlf, c0, c1, c2, fz⟩ := h.gives
  have hn : ((n : Int) == 0) = false := by have := h.n1; simp; omega
  clear hlf h
  go_enter Tryd.func38, Tryd.ntmps38
  go_wp2
  go_ret
  exact ⟨rfl, rfl⟩

set_option maxRecDepth 100000 in
set_option maxHeartbeats 400000 in
theorem length_yes (k : Nat) (hk : FR.Run k) (w : World) : Calls Tryd.prog 39 #[.int .i64 k] w fun e w' => e = .returned (.bool true) ∧ w = w' := by
  obtain ⟨h1, h2⟩ := FR.run_le hk
  have ho := W_hid (ones_any k (by omega))
  rw [FR.run_ones hk] at ho
  have d1 : (1 : Int) ≤ k := by omega
  have d2 : decide ((k : Int) ≤ 512) = true := by simp; omega
  clear hk
  go_enter Tryd.func39, Tryd.ntmps39
  go_wp2_with fail
  refine (ho.out _).mono ?_
  rintro e w' ⟨rfl, rfl⟩
  go_wp2
  go_ret
  exact ⟨rfl, rfl⟩

set_option maxRecDepth 100000 in
set_option maxHeartbeats 400000 in
theorem length_no (k : Int) (hk : ¬ FR.RunI k) (w : World) : Calls Tryd.prog 39 #[.int .i64 k] w fun e w' => e = .returned (.bool false) ∧ w = w' := by
  by_cases h1 : 1 ≤ k
  · by_cases h2 : k ≤ 512
    · obtain ⟨q, rfl⟩ : ∃ q : Nat, k = q := ⟨k.toNat, by omega⟩
      have ho := W_hid (ones_any q (by omega))
      have hne : WM.ones q 64 ≠ 1 := fun h => hk ⟨q, rfl, FR.ones_run (by omega) (by omega) h⟩
      have d1 : decide ((1 : Int) ≤ q) = true := by simp; omega
      have d2 : decide ((q : Int) ≤ 512) = true := by simp; omega
      have d3 : (((WM.ones q 64 : Nat) : Int) == 1) = false := by simp; omega
      clear hk hne
      go_enter Tryd.func39, Tryd.ntmps39
      go_wp2_with fail
      refine (ho.out _).mono ?_
      rintro e w' ⟨rfl, rfl⟩
      go_wp2
      go_ret
      exact ⟨rfl, rfl⟩
    · have d1 : decide ((1 : Int) ≤ k) = true := by simp; omega
      have d2 : decide (k ≤ 512) = false := by simp; omega
      clear hk h2
      go_enter Tryd.func39, Tryd.ntmps39
      go_wp2
      go_ret
      exact ⟨rfl, rfl⟩
  · have d1 : decide ((1 : Int) ≤ k) = false := by simp; omega
    clear hk h1
    go_enter Tryd.func39, Tryd.ntmps39
    go_wp2
    go_ret
    exact ⟨rfl, rfl⟩

set_option maxRecDepth 100000 in
set_option maxHeartbeats 1000000 in
theorem holds_any (g b n m f q : Nat) (T : Nat → Bool) (res : Bool) (w : World) (h : PL w g b n m T) (hf : f < 18446744073709551616) (hq : FR.Run q) (hres : res = true ↔ f % q = 0 ∧ f + q ≤ n) :
    Calls Tryd.prog 65 #[.pointer (some ⟨g, 0, none⟩), .int .u64 f, .int .i64 q] w fun e w' => e = .returned (.bool res) ∧ w = w' := by
  obtain ⟨lf, hlf, c0, c1, c2, fz⟩ := h.gives
  obtain ⟨q1, q2⟩ := FR.run_le hq
  have hD := W_hid (down_yes f q hf (by omega) (FR.run_ones hq))
  have hn1 := h.n1
  have hn2 := h.n2
  clear hlf h
  by_cases h1 : f % q = 0
  · have e1 := WM.down_self f q h1
    rw [e1] at hD
    have d1 : ((f : Int) == (f : Int)) = true := by simp
    by_cases h2 : q ≤ n
    · have d2 : decide ((q : Int) ≤ n) = true := by simp; omega
      have d3 : decide ((f : Int) ≤ (n : Int) - q) = res := by
        cases hr : res
        · rw [hr] at hres
          have : ¬ (f % q = 0 ∧ f + q ≤ n) := fun hh => absurd (hres.2 hh) (by decide)
          simp; omega
        · rw [hr] at hres
          have := hres.1 rfl
          simp; omega
      clear hres hq h1 e1
      go_enter Tryd.func65, Tryd.ntmps65
      go_wp2_with fail
      refine (hD.out _).mono ?_
      rintro e w' ⟨rfl, rfl⟩
      go_wp2
      go_ret
      exact ⟨rfl, rfl⟩
    · have d2 : decide (q ≤ n) = false := by simp; omega
      have hr : Hid (res = false) := by
        cases res
        · rfl
        · have := (hres.1 rfl).2; omega
      clear hres hq h1 e1 h2
      go_enter Tryd.func65, Tryd.ntmps65
      go_wp2_with fail
      refine (hD.out _).mono ?_
      rintro e w' ⟨rfl, rfl⟩
      go_wp2
      go_ret
      exact ⟨by rw [hr.out]; rfl, rfl⟩
  · have e1 := WM.down_ne f q h1
    have d1 : (((WM.down f q : Nat) : Int) == (f : Int)) = false := by simp; omega
    have hr : Hid (res = false) := by
      cases res
      · rfl
      · exact absurd (hres.1 rfl).1 h1
    clear hres hq h1 e1
    go_enter Tryd.func65, Tryd.ntmps65
    go_wp2_with fail
    refine (hD.out _).mono ?_
    rintro e w' ⟨rfl, rfl⟩
    go_wp2
    go_ret
    exact ⟨by rw [hr.out]; rfl, rfl⟩

/-- How many words n frames have. -/
def words (n : Nat) : Nat := 8 * ((n + 511) / 512)
theorem up_512 (n : Nat) (hn : n ≤ 65536) (h1 : 1 ≤ n) (w : World) : Calls Tryd.prog 69 #[.int .u64 n, .int .u64 512] w fun e w' => e = .returned (.tuple #[.int .u64 ((64 * words n : Nat) : Int), .int .i64 0]) ∧ w = w' := by
  have ho : WM.ones 512 64 = 1 := by decide
  by_cases h : n % 512 = 0
  · have := up_same n 512 (by omega) (by decide) ho h w
    have e : 64 * words n = n := by unfold words; omega
    rw [e]
    exact this
  · have e0 : WM.down n 512 = n - n % 512 := rfl
    have := up_next n 512 (by omega) (by decide) ho h (by omega) w
    have e : 64 * words n = WM.down n 512 + 512 := by rw [e0]; unfold words; omega
    rw [e]
    exact this

/-- What is taken in a new pool. -/
def fresh (n : Nat) : Nat → Bool := FR.st (fun _ => false) n (64 * words n - n) true

set_option maxRecDepth 100000 in
set_option maxHeartbeats 1000000 in
theorem newMarks_any (n : Nat) (h1 : 1 ≤ n) (h2 : n ≤ 65536) (w : World) :
    Calls Tryd.prog 56 #[.int .i64 n] w fun e w' => e = .returned (.slice (some ⟨w.heap.size, 0, none⟩) (words n) (words n)) ∧ Blk w' w.heap.size 22 (wrow (fresh n) (words n)) ∧ Below w.heap.size w w' := by
  have hU := W_hid (up_512 n h2 h1)
  have hfr : Hid (fresh n = FR.st (fun _ => false) n (64 * words n - n) true) := rfl
  obtain ⟨m, hm⟩ : ∃ m, words n = m := ⟨_, rfl⟩
  have hm1 : n ≤ 64 * m := by rw [← hm]; unfold words; omega
  have hm2 : 64 * m < n + 512 := by rw [← hm]; unfold words; omega
  have hm3 : m ≤ 1024 := by rw [← hm]; unfold words; omega
  rw [hm] at hU hfr ⊢
  obtain ⟨A, hA⟩ : ∃ A, 64 * m = A := ⟨_, rfl⟩
  rw [hA] at hU hfr hm1 hm2
  have eA : (A : Int) / 64 = m := by omega
  obtain ⟨X, hmk, hX⟩ := make_marks m (by omega)
  have hx := hX w
  have belX : Below w.heap.size w (w.alloc X) := (Below.refl _ _).alloc (Nat.le_refl _) _
  obtain ⟨D, hD⟩ : ∃ D, A - n = D := ⟨_, rfl⟩
  rw [hD] at hfr
  have eD : (A : Int) - n = D := by omega
  clear hm hX
  go_enter Tryd.func56, Tryd.ntmps56
  go_wp2_with fail
  refine (hU.out _).mono ?_
  rintro e w' ⟨rfl, rfl⟩
  go_wp2_with fail
  go_loopw [6, 20] (fun _ i wr => ∃ t : Nat, t ≤ D ∧ i = .int .i64 t ∧ Blk wr w.heap.size 22 (wrow (FR.st (fun _ => false) n t true) m) ∧ Below w.heap.size w wr) (fun _ i _ => D - (intOf i).toNat)
  case atStart => exact ⟨0, by omega, rfl, by rw [FR.st_zero]; exact hx, belX⟩
  case round =>
    obtain ⟨t, ht, rfl, hrw, bel⟩ := hrel
    by_cases hlt : t < D
    · have hS := set_any w.heap.size m (n + t) 1 (FR.st (fun _ => false) n t true) true 18446744073709551615 wr rfl hrw hm3 ⟨0, by decide, rfl⟩ (Nat.mod_one _) (by omega)
      rw [FR.st_step, Int.natCast_add] at hS
      replace hS := W_hid hS
      go_wp2_with fail
      refine hS.out.mono ?_
      rintro e w2 ⟨rfl, hrw2, two⟩
      have bel2 := bel.trans (two.below bel.size (Nat.le_refl _) (Nat.le_refl _))
      go_wp2
      go_roundw
      case rel => exact ⟨t + 1, by omega, by go_num, hrw2, bel2⟩
      case measure => simp [intOf]; omega
    · obtain rfl : t = D := by omega
      go_wp2
      go_ret
      exact ⟨rfl, by rw [hfr.out]; exact hrw, bel⟩

theorem fresh_low (n x : Nat) (hx : x < n) : fresh n x = false := FR.st_out _ _ _ _ _ (by omega)
theorem fresh_pad (n x : Nat) (h1 : n ≤ x) (h2 : x < 64 * words n) : fresh n x = true := by
  have := FR.st_in (fun _ => false) n (64 * words n - n) true (x - n) (by omega)
  rwa [show n + (x - n) = x by omega] at this
theorem fresh_cnt (n : Nat) : FR.cnt (fresh n) 0 n = 0 := (FR.cnt_zero _ _ _).2 fun i hi => fresh_low n _ (by omega)

set_option maxRecDepth 100000 in
set_option maxHeartbeats 1000000 in
theorem New_yes (n : Nat) (h1 : 1 ≤ n) (h2 : n ≤ 65536) (w : World) :
    Calls Tryd.prog 37 #[.int .i64 n] w fun e w' => ∃ g, e = .returned (.tuple #[.pointer (some ⟨g, 0, none⟩), .int .i64 0]) ∧ w.heap.size < g ∧ PL w' g w.heap.size n (words n) (fresh n) ∧ Below w.heap.size w w' := by
  have hM := W_hid (newMarks_any n h1 h2)
  have i1 : (1 : Int) ≤ n := by omega
  have i2 : (n : Int) ≤ 65536 := by omega
  obtain ⟨m, hm⟩ : ∃ m, words n = m := ⟨_, rfl⟩
  obtain ⟨T, hT⟩ : ∃ T, fresh n = T := ⟨_, rfl⟩
  have hpl : Hid (n ≤ 64 * m ∧ m % 8 = 0 ∧ m ≤ 1024 ∧ (∀ x, n ≤ x → x < 64 * m → T x = true) ∧ FR.cnt T 0 n = 0) := by
    rw [← hm, ← hT]
    exact ⟨by unfold words; omega, by unfold words; omega, by unfold words; omega, fun x a b => fresh_pad n x a b, fresh_cnt n⟩
  rw [hm, hT] at hM ⊢
  clear hm hT
  go_enter Tryd.func37, Tryd.ntmps37
  go_wp2_with fail
  refine (hM.out _).mono ?_
  rintro e w1 ⟨rfl, hrw, bel⟩
  go_wp2
  go_ret2
  obtain ⟨p1, p2, p3, p4, p5⟩ := hpl.out
  have hlt := hrw.lt
  exact ⟨w1.heap.size, rfl, hlt, ⟨⟨n, by omega, Blk.new w1 _ [.slice (some ⟨w.heap.size, 0, none⟩) m m, .int .i64 n, .int .i64 n] rfl⟩, hrw.alloc _, by omega, h1, h2, p1, p2, p3, p4⟩, bel.alloc bel.size _⟩

set_option maxRecDepth 100000 in
set_option maxHeartbeats 400000 in
theorem New_no (n : Int) (h : ¬ (1 ≤ n ∧ n ≤ 65536)) (w : World) :
    Calls Tryd.prog 37 #[.int .i64 n] w fun e w' => e = .returned (.tuple #[.pointer none, .int .i64 2]) ∧ w = w' := by
  by_cases h1 : n < 1
  · have d1 : decide (n < 1) = true := by simpa using h1
    clear h h1
    go_enter Tryd.func37, Tryd.ntmps37
    go_wp2
    go_ret2
    exact ⟨rfl, rfl⟩
  · have d1 : decide (n < 1) = false := by simp; omega
    have d2 : decide (65536 < n) = true := by simp; omega
    clear h h1
    go_enter Tryd.func37, Tryd.ntmps37
    go_wp2
    go_ret2
    exact ⟨rfl, rfl⟩

end Go.Proofs.YthiojnbnhagcgaaDoor

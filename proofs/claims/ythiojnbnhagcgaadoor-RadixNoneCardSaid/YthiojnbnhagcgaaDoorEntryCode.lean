/- Contracts of package entry's Encode and Decode: for every entry, word and level. -/
import Derived.Test.YthiojnbnhagcgaaDoorEntryDo
import Derived.Test.YthiojnbnhagcgaaDoorEntryIdx
namespace Go.Proofs.YthiojnbnhagcgaaDoor
open Go.ChangeShapes Go.WideShapes Go.ChangeAt Go.RowKit
set_option linter.unusedVariables false
set_option linter.unusedSimpArgs false

/-- Entries are compared field by field. -/
theorem ent_neq (t h t' h' : Bool) (p p' f f' : Int) (b : Bool) (hb : b = true ↔ ¬ (t = t' ∧ h = h' ∧ p = p' ∧ f = f')) (w : World) :
    (binOp .neq 57 (.agg #[.bool t, .bool h, .int .i64 p, .int .u64 f]) (.agg #[.bool t', .bool h', .int .i64 p', .int .u64 f'])).run Tryd.prog w = .ok (.bool b) w := by
  have e : b = !(decide (t = t' ∧ h = h' ∧ p = p' ∧ f = f')) := by
    rw [Bool.eq_iff_iff, hb, Bool.not_eq_true', decide_eq_false_iff_not]
  rw [e]
  by_cases c0 : t = t'
  · by_cases c1 : h = h'
    · by_cases c2 : p = p'
      · by_cases c3 : f = f' <;> simp [go_sem, c0, c1, c2, c3]
      · simp [go_sem, c0, c1, c2]
    · simp [go_sem, c0, c1]
  · simp [go_sem, c0]

theorem res_ent3 {fn : Func} {r t u : Tmp} (hres : fn.results = #[.cell r 57, .tmp t, .tmp u]) (tmps : Array Value) (w : World) {g : Nat} {v0 v1 v2 v3 : Value} (hr : tmps.getD r undef = .pointer (some ⟨g, 0, none⟩)) (hp : Blk w g 57 [v0, v1, v2, v3]) :
    (results fn tmps).run Tryd.prog w = .ok (.tuple #[.agg #[v0, v1, v2, v3], tmps.getD t undef, tmps.getD u undef]) w := by
  have c0 : w.cell? ⟨g, 0, none⟩ = some v0 := hp.cell rfl
  have c1 : w.cell? ⟨g, 1, none⟩ = some v1 := hp.cell rfl
  have c2 : w.cell? ⟨g, 2, none⟩ = some v2 := hp.cell rfl
  have c3 : w.cell? ⟨g, 3, none⟩ = some v3 := hp.cell rfl
  rw [Array.getD_eq_getD_getElem?] at hr
  simp [results, hres, go_sem, hr, c0, c1, c2, c3]

/-- Where the word that is laid says an entry, and which. -/
theorem read_some {x : Nat} {L : Int} {t h : Bool} {p : Int} {f : Nat} (hx : x < 18446744073709551616) (hr : EN.rd x L = some (t, h, p, f)) (w : World) (hk : KT w) :
    Calls Tryd.prog 47 #[.int .u64 x, .int .i64 L] w fun e w' => e = .returned (.tuple #[.agg #[.bool t, .bool h, .int .i64 p, .int .u64 (f : Int)], .bool true]) ∧ Below w.heap.size w w' := by
  have := read_any x L hx w hk
  rw [hr] at this
  exact this
theorem read_not {x : Nat} {L : Int} (hx : x < 18446744073709551616) (hr : EN.rd x L = none) (w : World) (hk : KT w) :
    Calls Tryd.prog 47 #[.int .u64 x, .int .i64 L] w fun e w' => e = .returned (.tuple #[.agg #[.bool false, .bool false, .int .i64 0, .int .u64 0], .bool false]) ∧ Below w.heap.size w w' := by
  have := read_any x L hx w hk
  rw [hr] at this
  exact this

set_option maxRecDepth 100000 in
set_option maxHeartbeats 1000000 in
theorem Encode_fit (T H t h : Bool) (P p : Int) (F f x : Nat) (L : Int) (b : Bool) (v E : Int) (hb : b = true ↔ ¬ (t = T ∧ h = H ∧ p = P ∧ f = F)) (hv : v = if b = true then 0 else (x : Int)) (hE : E = if b = true then 2 else 0)
    (hwr : Hid (∀ w : World, Calls Tryd.prog 46 #[.agg #[.bool T, .bool H, .int .i64 P, .int .u64 F]] w fun e w' => e = .returned (.tuple #[.int .u64 (x : Int), .int .i64 0]) ∧ Below w.heap.size w w'))
    (hrd : Hid (∀ w : World, KT w → Calls Tryd.prog 47 #[.int .u64 x, .int .i64 L] w fun e w' => e = .returned (.tuple #[.agg #[.bool t, .bool h, .int .i64 p, .int .u64 (f : Int)], .bool true]) ∧ Below w.heap.size w w')) (w : World) (hk : KT w) :
    Calls Tryd.prog 25 #[.agg #[.bool T, .bool H, .int .i64 P, .int .u64 F], .int .i64 L] w fun e w' => e = .returned (.tuple #[.int .u64 v, .int .i64 E]) ∧ Below w.heap.size w w' := by
  have hn := ent_neq t h T H p P f F b (by rw [hb, Int.natCast_inj])
  replace hk := W_hid hk
  clear hb
  cases b
  all_goals
    go_enter Tryd.func25, Tryd.ntmps25
    go_wp2_with fail
    refine (hwr.out _).mono ?_
    rintro e w1 ⟨rfl, bel1⟩
    have b0 : Blk w1 w.heap.size 57 [.bool T, .bool H, .int .i64 P, .int .u64 F] := Blk.keep (Blk.new w _ _ rfl) bel1
    replace bel1 : Below w.heap.size w w1 := ((Below.refl _ _).alloc (Nat.le_refl _) _).trans (bel1.mono (by simp))
    go_wp2_with fail
    refine (hrd.out _ (hk.out.keep bel1)).mono ?_
    rintro e w2 ⟨rfl, bel2⟩
    replace b0 := b0.keep bel2
    have bel := bel1.trans (bel2.mono bel1.size)
    clear bel1 bel2
    have c0 : w2.cell? ⟨w.heap.size, 0, none⟩ = some (.bool T) := b0.cell rfl
    have c1 : w2.cell? ⟨w.heap.size, 1, none⟩ = some (.bool H) := b0.cell rfl
    have c2 : w2.cell? ⟨w.heap.size, 2, none⟩ = some (.int .i64 P) := b0.cell rfl
    have c3 : w2.cell? ⟨w.heap.size, 3, none⟩ = some (.int .u64 F) := b0.cell rfl
    have hlt : w.heap.size < w2.heap.size := b0.lt
    go_wp2
    go_ret2
    exact ⟨by rw [hv, hE]; rfl, bel.alloc bel.size _⟩

set_option maxRecDepth 100000 in
set_option maxHeartbeats 1000000 in
theorem Encode_none (T H : Bool) (P : Int) (F x : Nat) (L : Int)
    (hwr : Hid (∀ w : World, Calls Tryd.prog 46 #[.agg #[.bool T, .bool H, .int .i64 P, .int .u64 F]] w fun e w' => e = .returned (.tuple #[.int .u64 (x : Int), .int .i64 0]) ∧ Below w.heap.size w w'))
    (hrd : Hid (∀ w : World, KT w → Calls Tryd.prog 47 #[.int .u64 x, .int .i64 L] w fun e w' => e = .returned (.tuple #[.agg #[.bool false, .bool false, .int .i64 0, .int .u64 0], .bool false]) ∧ Below w.heap.size w w')) (w : World) (hk : KT w) :
    Calls Tryd.prog 25 #[.agg #[.bool T, .bool H, .int .i64 P, .int .u64 F], .int .i64 L] w fun e w' => e = .returned (.tuple #[.int .u64 0, .int .i64 2]) ∧ Below w.heap.size w w' := by
  replace hk := W_hid hk
  go_enter Tryd.func25, Tryd.ntmps25
  go_wp2_with fail
  refine (hwr.out _).mono ?_
  rintro e w1 ⟨rfl, bel1⟩
  replace bel1 : Below w.heap.size w w1 := ((Below.refl _ _).alloc (Nat.le_refl _) _).trans (bel1.mono (by simp))
  go_wp2_with fail
  refine (hrd.out _ (hk.out.keep bel1)).mono ?_
  rintro e w2 ⟨rfl, bel2⟩
  have bel := bel1.trans (bel2.mono bel1.size)
  clear bel1 bel2
  go_wp2
  go_ret2
  exact ⟨rfl, bel.alloc bel.size _⟩

set_option maxRecDepth 100000 in
set_option maxHeartbeats 1000000 in
theorem Encode_high (T H : Bool) (P : Int) (F : Nat) (L : Int) (hF : ¬ F < 68719476736) (w : World) :
    Calls Tryd.prog 25 #[.agg #[.bool T, .bool H, .int .i64 P, .int .u64 F], .int .i64 L] w fun e w' => e = .returned (.tuple #[.int .u64 0, .int .i64 2]) ∧ Below w.heap.size w w' := by
  have hwr := W_hid (fun w => write_high T H P F hF w)
  clear hF
  go_enter Tryd.func25, Tryd.ntmps25
  go_wp2_with fail
  refine (hwr.out _).mono ?_
  rintro e w1 ⟨rfl, bel1⟩
  replace bel1 : Below w.heap.size w w1 := ((Below.refl _ _).alloc (Nat.le_refl _) _).trans (bel1.mono (by simp))
  go_wp2
  go_ret2
  exact ⟨rfl, bel1⟩

/-- A valid entry has its word. -/
theorem Encode_yes (T H : Bool) (P : Int) (F : Nat) (L : Int) (h : EN.right T H P F L) (w : World) (hk : KT w) :
    Calls Tryd.prog 25 #[.agg #[.bool T, .bool H, .int .i64 P, .int .u64 F], .int .i64 L] w fun e w' => e = .returned (.tuple #[.int .u64 ((EN.wd H P F : Nat) : Int), .int .i64 0]) ∧ Below w.heap.size w w' := by
  have hF : F < 68719476736 := h.2.2.1
  have hP : EN.perms P := by rcases h.2.2.2 with ⟨-, -, -, e⟩ | ⟨-, e, -⟩; exact .inr (.inr (.inr e)); exact e
  obtain ⟨x, hx, hxw, hwr⟩ := write_low T H P F hF
  obtain rfl := hxw hP
  exact Encode_fit T H T H P P F F _ L false _ _ (by simp) (by simp) (by simp) (W_hid hwr) (W_hid (fun w hk => read_some hx (EN.right_rd h) w hk)) w hk

/-- What is none has none. -/
theorem Encode_no (T H : Bool) (P : Int) (F : Nat) (L : Int) (h : ¬ EN.right T H P F L) (w : World) (hk : KT w) :
    Calls Tryd.prog 25 #[.agg #[.bool T, .bool H, .int .i64 P, .int .u64 F], .int .i64 L] w fun e w' => e = .returned (.tuple #[.int .u64 0, .int .i64 2]) ∧ Below w.heap.size w w' := by
  by_cases hF : F < 68719476736
  · obtain ⟨x, hx, -, hwr⟩ := write_low T H P F hF
    rcases hr : EN.rd x L with _ | ⟨t, g, p, f⟩
    · exact Encode_none T H P F x L (W_hid hwr) (W_hid (fun w hk => read_not hx hr w hk)) w hk
    · refine Encode_fit T H t g P p F f x L true _ _ ?_ (by simp) (by simp) (W_hid hwr) (W_hid (fun w hk => read_some hx hr w hk)) w hk
      refine ⟨fun _ => ?_, fun _ => rfl⟩
      rintro ⟨rfl, rfl, rfl, rfl⟩
      exact h (EN.rd_right hx hr).1
  · exact Encode_high T H P F L hF w

/-! ### Decode -/
theorem below_four {w w2 : World} (h : Below w.heap.size w w2) (u0 u1 u2 u3 : Value) (o : Obj) :
    Below w.heap.size w (((((w2.setCell ⟨w.heap.size, 0, none⟩ u0).setCell ⟨w.heap.size, 1, none⟩ u1).setCell ⟨w.heap.size, 2, none⟩ u2).setCell ⟨w.heap.size, 3, none⟩ u3).alloc o) := by
  have h4 := ((((h.setCell (p := ⟨w.heap.size, 0, none⟩) (Nat.le_refl _) u0).setCell (p := ⟨w.heap.size, 1, none⟩) (Nat.le_refl _) u1).setCell (p := ⟨w.heap.size, 2, none⟩) (Nat.le_refl _) u2).setCell (p := ⟨w.heap.size, 3, none⟩) (Nat.le_refl _) u3)
  exact h4.alloc h4.size o

set_option maxRecDepth 100000 in
set_option maxHeartbeats 1000000 in
theorem Decode_level (x L : Int) (h : ¬ (1 ≤ L ∧ L ≤ 4)) (w : World) :
    Calls Tryd.prog 52 #[.int .u64 x, .int .i64 L] w fun e w' => e = .returned (.tuple #[.agg #[.bool false, .bool false, .int .i64 0, .int .u64 0], .bool false, .int .i64 2]) ∧ Below w.heap.size w w' := by
  have hL := W_hid (fun w => isLevel_no L h w)
  clear h
  go_enter Tryd.func52, Tryd.ntmps52
  go_wp2_with fail
  refine (hL.out _).mono ?_
  rintro e w1 ⟨rfl, rfl⟩
  go_wp2
  refine bodyPost_ret (res_ent3 rfl _ _ rfl (Blk.new w _ _ rfl)) rfl ⟨rfl, (Below.refl _ _).alloc (Nat.le_refl _) _⟩

set_option maxRecDepth 100000 in
set_option maxHeartbeats 1000000 in
theorem Decode_zero (L : Int) (h : 1 ≤ L ∧ L ≤ 4) (w : World) :
    Calls Tryd.prog 52 #[.int .u64 0, .int .i64 L] w fun e w' => e = .returned (.tuple #[.agg #[.bool false, .bool false, .int .i64 0, .int .u64 0], .bool false, .int .i64 0]) ∧ Below w.heap.size w w' := by
  have hL := W_hid (fun w => isLevel_yes L h.1 h.2 w)
  clear h
  go_enter Tryd.func52, Tryd.ntmps52
  go_wp2_with fail
  refine (hL.out _).mono ?_
  rintro e w1 ⟨rfl, rfl⟩
  go_wp2
  refine bodyPost_ret (res_ent3 rfl _ _ rfl (Blk.new w _ _ rfl)) rfl ⟨rfl, (Below.refl _ _).alloc (Nat.le_refl _) _⟩

set_option maxRecDepth 100000 in
set_option maxHeartbeats 1000000 in
theorem Decode_none (x : Nat) (L : Int) (hx : x < 18446744073709551616) (h : 1 ≤ L ∧ L ≤ 4) (h0 : x ≠ 0) (hr : EN.rd x L = none) (w : World) (hk : KT w) :
    Calls Tryd.prog 52 #[.int .u64 x, .int .i64 L] w fun e w' => e = .returned (.tuple #[.agg #[.bool false, .bool false, .int .i64 0, .int .u64 0], .bool false, .int .i64 106]) ∧ Below w.heap.size w w' := by
  have hL := W_hid (fun w => isLevel_yes L h.1 h.2 w)
  have hR := W_hid (fun w hk => read_not hx hr w hk)
  have e0 : ((x : Int) == 0) = false := by simp; omega
  replace hk := W_hid hk
  clear h hr h0
  go_enter Tryd.func52, Tryd.ntmps52
  go_wp2_with fail
  refine (hL.out _).mono ?_
  rintro e w1 ⟨rfl, rfl⟩
  go_wp2_with fail
  refine (hR.out _ (hk.out.alloc _)).mono ?_
  rintro e w2 ⟨rfl, bel2⟩
  have b0 : Blk w2 w.heap.size 57 [.bool false, .bool false, .int .i64 0, .int .u64 0] := Blk.keep (Blk.new w _ _ rfl) bel2
  replace bel2 : Below w.heap.size w w2 := ((Below.refl _ _).alloc (Nat.le_refl _) _).trans (bel2.mono (by simp))
  have hlt : w.heap.size < w2.heap.size := b0.lt
  have ne1 : ¬ w2.heap.size = w.heap.size := by omega
  have ne2 : ¬ w.heap.size = w2.heap.size := by omega
  have z0 : w2.cell? ⟨w.heap.size, 0, none⟩ = some (.bool false) := b0.cell rfl
  have z1 : w2.cell? ⟨w.heap.size, 1, none⟩ = some (.bool false) := b0.cell rfl
  have z2 : w2.cell? ⟨w.heap.size, 2, none⟩ = some (.int .i64 0) := b0.cell rfl
  have z3 : w2.cell? ⟨w.heap.size, 3, none⟩ = some (.int .u64 0) := b0.cell rfl
  have zf : ∀ i, w2.frozen? ⟨w.heap.size, i, none⟩ = false := b0.fz
  go_wp2
  have hB : Blk _ w.heap.size 57 [.bool false, .bool false, .int .i64 0, .int .u64 0] := (((((b0.set 0 (.bool false)).set 1 (.bool false)).set 2 (.int .i64 0)).set 3 (.int .u64 0)).alloc (.cells #[.bool false, .bool false, .int .i64 0, .int .u64 0] 57))
  refine bodyPost_ret (res_ent3 rfl _ _ rfl hB) rfl ⟨rfl, below_four bel2 _ _ _ _ _⟩

set_option maxRecDepth 100000 in
set_option maxHeartbeats 1000000 in
theorem Decode_some (x : Nat) (L : Int) (hx : x < 18446744073709551616) (t h : Bool) (p : Int) (f : Nat) (hr : EN.rd x L = some (t, h, p, f)) (w : World) (hk : KT w) :
    Calls Tryd.prog 52 #[.int .u64 x, .int .i64 L] w fun e w' => e = .returned (.tuple #[.agg #[.bool t, .bool h, .int .i64 p, .int .u64 (f : Int)], .bool true, .int .i64 0]) ∧ Below w.heap.size w w' := by
  have hrr := EN.rd_right hx hr
  have hL := W_hid (fun w => isLevel_yes L hrr.1.1 hrr.1.2.1 w)
  have hR := W_hid (fun w hk => read_some hx hr w hk)
  have e0 : ((x : Int) == 0) = false := by have := EN.wd_pos h p f; rw [hrr.2] at this; simp; omega
  replace hk := W_hid hk
  clear hrr hr
  go_enter Tryd.func52, Tryd.ntmps52
  go_wp2_with fail
  refine (hL.out _).mono ?_
  rintro e w1 ⟨rfl, rfl⟩
  go_wp2_with fail
  refine (hR.out _ (hk.out.alloc _)).mono ?_
  rintro e w2 ⟨rfl, bel2⟩
  have b0 : Blk w2 w.heap.size 57 [.bool false, .bool false, .int .i64 0, .int .u64 0] := Blk.keep (Blk.new w _ _ rfl) bel2
  replace bel2 : Below w.heap.size w w2 := ((Below.refl _ _).alloc (Nat.le_refl _) _).trans (bel2.mono (by simp))
  have hlt : w.heap.size < w2.heap.size := b0.lt
  have ne1 : ¬ w2.heap.size = w.heap.size := by omega
  have ne2 : ¬ w.heap.size = w2.heap.size := by omega
  have z0 : w2.cell? ⟨w.heap.size, 0, none⟩ = some (.bool false) := b0.cell rfl
  have z1 : w2.cell? ⟨w.heap.size, 1, none⟩ = some (.bool false) := b0.cell rfl
  have z2 : w2.cell? ⟨w.heap.size, 2, none⟩ = some (.int .i64 0) := b0.cell rfl
  have z3 : w2.cell? ⟨w.heap.size, 3, none⟩ = some (.int .u64 0) := b0.cell rfl
  have zf : ∀ i, w2.frozen? ⟨w.heap.size, i, none⟩ = false := b0.fz
  go_wp2
  have hB : Blk _ w.heap.size 57 [.bool t, .bool h, .int .i64 p, .int .u64 (f : Int)] := (((((b0.set 0 (.bool t)).set 1 (.bool h)).set 2 (.int .i64 p)).set 3 (.int .u64 (f : Int))).alloc (.cells #[.bool t, .bool h, .int .i64 p, .int .u64 (f : Int)] 57))
  refine bodyPost_ret (res_ent3 rfl _ _ rfl hB) rfl ⟨rfl, below_four bel2 _ _ _ _ _⟩

end Go.Proofs.YthiojnbnhagcgaaDoor

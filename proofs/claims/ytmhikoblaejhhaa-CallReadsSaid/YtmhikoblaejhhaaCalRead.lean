/- The program's reader: what number, text, step and whole do, whatever stands in the frame. -/
import Derived.Test.YtmhikoblaejhhaaCalEq
import Derived.Deep.RegionHeld3
namespace Go.Proofs.Ytmhikoblaejhhaa
open Go.ChangeShapes Go.WideShapes Go.ChangeAt Go.RowKit Go.Maps
set_option linter.unusedVariables false
set_option linter.unusedSimpArgs false
set_option maxRecDepth 100000
namespace CA
/-- A number at x: can it be read, which is it, where the rest begins. -/
def nok (l : List UInt8) (x : Nat) : Bool := decide (x + 8 ≤ l.length)
def nvl (l : List UInt8) (x : Nat) : Nat := if x + 8 ≤ l.length then num ((l.drop x).take 8) else 0
def nat_ (l : List UInt8) (x : Nat) : Nat := if x + 8 ≤ l.length then x + 8 else 0
/-- A text at x, of at most m bytes. -/
def tsz (l : List UInt8) (x : Nat) : Nat := num ((l.drop x).take 4)
def tok (l : List UInt8) (x m : Nat) : Bool := decide (x + 4 ≤ l.length ∧ tsz l x ≤ m ∧ x + 4 + tsz l x ≤ l.length)
def tvl (l : List UInt8) (x m : Nat) : ByteArray := if tok l x m = true then strOf ((l.drop (x + 4)).take (tsz l x)) else ByteArray.empty
def tat (l : List UInt8) (x m : Nat) : Nat := if tok l x m = true then x + 4 + tsz l x else 0
theorem num_take_lt (l : List UInt8) (x m : Nat) : num ((l.drop x).take m) < 256 ^ m := by
  have h := num_lt ((l.drop x).take m)
  exact Nat.lt_of_lt_of_le h (Nat.pow_le_pow_right (by decide) (by rw [List.length_take]; exact Nat.min_le_left _ _))
theorem nvl_lt (l : List UInt8) (x : Nat) : nvl l x < 18446744073709551616 := by
  unfold nvl
  split
  · exact num_take_lt l x 8
  · decide
theorem tsz_lt (l : List UInt8) (x : Nat) : tsz l x < 4294967296 := num_take_lt l x 4

/-- TakeNumber, whatever stands there. -/
theorem TakeN_any (ao : Option Addr) (n c : Nat) (l : List UInt8) (x : Nat) (w : World) (hb : BS w ao n c l) (hx : x ≤ n) :
    Calls Try.prog 33 #[.slice ao n c, .int .i64 x] w fun e w' => e = .returned (.tuple #[.int .u64 ((nvl l x : Nat) : Int), .int .i64 ((nat_ l x : Nat) : Int), .int .i64 (if nok l x = true then 0 else 100)]) ∧ Below w.heap.size w w' := by
  have hl := hb.1
  have hm : n ≤ 9223372036854775807 := by have := hb.2.1; have := hb.2.2.1; unfold maxLen at *; omega
  by_cases h : x + 8 ≤ n
  · have e1 : nvl l x = num ((l.drop x).take 8) := by unfold nvl; rw [if_pos (by omega)]
    have e2 : ((nat_ l x : Nat) : Int) = (x : Int) + 8 := by unfold nat_; rw [if_pos (by omega)]; push_cast; rfl
    have e3 : nok l x = true := by unfold nok; exact decide_eq_true (by omega)
    rw [e1, e2, e3]
    exact TakeNumber_yes ao n c l x w hb h
  · have e1 : nvl l x = 0 := by unfold nvl; rw [if_neg (by omega)]
    have e2 : nat_ l x = 0 := by unfold nat_; rw [if_neg (by omega)]
    have e3 : nok l x = false := by unfold nok; exact decide_eq_false (by omega)
    rw [e1, e2, e3]
    exact TakeNumber_no ao n c l x w hb (by omega) (by omega) (by omega)
theorem TakeT_any (ao : Option Addr) (n c : Nat) (l : List UInt8) (x m : Nat) (w : World) (hb : BS w ao n c l) (hx : x ≤ n) (hm2 : m ≤ 9223372036854775807) :
    Calls Try.prog 35 #[.slice ao n c, .int .i64 x, .int .i64 m] w fun e w' => e = .returned (.tuple #[.string (tvl l x m), .int .i64 ((tat l x m : Nat) : Int), .int .i64 (if tok l x m = true then 0 else 100)]) ∧ Below w.heap.size w w' := by
  have hl := hb.1
  have hm : n ≤ 9223372036854775807 := by have := hb.2.1; have := hb.2.2.1; unfold maxLen at *; omega
  have hz := tsz_lt l x
  by_cases h : tok l x m = true
  · have h2 : x + 4 ≤ l.length ∧ tsz l x ≤ m ∧ x + 4 + tsz l x ≤ l.length := by unfold tok at h; exact of_decide_eq_true h
    have e1 : tvl l x m = strOf ((l.drop (x + 4)).take (tsz l x)) := by unfold tvl; rw [if_pos h]
    have e2 : ((tat l x m : Nat) : Int) = (x : Int) + 4 + (tsz l x : Nat) := by unfold tat; rw [if_pos h]; push_cast; rfl
    rw [e1, e2, h]
    exact TakeText_yes ao n c l x (tsz l x) m w hb (W_hid rfl) hz (by omega) (by omega)
  · have hf : tok l x m = false := by simpa using h
    have e1 : tvl l x m = ByteArray.empty := by unfold tvl; rw [if_neg h]
    have e2 : tat l x m = 0 := by unfold tat; rw [if_neg h]
    rw [e1, e2, hf]
    have h2 : ¬ (x + 4 ≤ l.length ∧ tsz l x ≤ m ∧ x + 4 + tsz l x ≤ l.length) := by unfold tok at hf; exact of_decide_eq_false hf
    by_cases h3 : x + 4 ≤ n
    · by_cases h4 : tsz l x ≤ m
      · exact TakeText_no3 ao n c l x (tsz l x) m w hb h3 (W_hid rfl) hz (by omega) (by omega)
      · exact TakeText_no2 ao n c l x (tsz l x) m w hb h3 (W_hid rfl) hz (by omega)
    · exact TakeText_no1 ao n c l x m w hb (by omega) (by omega) (by omega)

/-- Block g is a reader of the bytes in block h. -/
structure RB (w : World) (g h n c : Nat) (l : List UInt8) (x : Nat) (b : Bool) : Prop where
  row : Blk w g 58 [.slice (some ⟨h, 0, none⟩) n c, .int .i64 (x : Int), .bool b]
  bytes : BS w (some ⟨h, 0, none⟩) n c l
  ne : h ≠ g
  le : x ≤ n
theorem RB.lt {w : World} {g h n c : Nat} {l : List UInt8} {x : Nat} {b : Bool} (r : RB w g h n c l x b) : g < w.heap.size := r.row.lt
theorem RB.keep {w w' : World} {g h n c : Nat} {l : List UInt8} {x : Nat} {b : Bool} (r : RB w g h n c l x b) (hb : Below w.heap.size w w') : RB w' g h n c l x b := ⟨r.row.keep hb, r.bytes.below hb (Nat.le_refl _), r.ne, r.le⟩
theorem bs_other {w : World} {h n c : Nat} {l : List UInt8} (r : BS w (some ⟨h, 0, none⟩) n c l) (p : Addr) (hp : h ≠ p.block) (u : Value) : BS (w.setCell p u) (some ⟨h, 0, none⟩) n c l := by
  obtain ⟨h1, h2, h3, h4, h5⟩ := r
  refine ⟨h1, h2, h3, h4, fun a ha k u' hu => ?_⟩
  have hc := h5 a ha k u' hu
  obtain rfl := Option.some.inj ha
  rw [← hc]
  unfold World.cell?
  rw [Below.heap_setCell w p u _ (fun e => hp (by rw [Addr.add_lit] at e; exact e))]
theorem RB.set {w : World} {g h n c : Nat} {l : List UInt8} {x : Nat} {b : Bool} (r : RB w g h n c l x b) (y : Nat) (hy : y ≤ n) (b' : Bool) : RB ((w.setCell ⟨g, 1, none⟩ (.int .i64 (y : Int))).setCell ⟨g, 2, none⟩ (.bool b')) g h n c l y b' :=
  ⟨(r.row.set 1 _).set 2 _, bs_other (bs_other r.bytes _ r.ne _) _ r.ne _, r.ne, hy⟩

theorem step_any {w : World} {g h n c : Nat} {l : List UInt8} {x : Nat} {b : Bool} (r : RB w g h n c l x b) (y : Nat) (hy : y ≤ n) (ok : Bool) :
    Calls Try.prog 34 #[.pointer (some ⟨g, 0, none⟩), .int .i64 (y : Int), .int .i64 (if ok = true then 0 else 100)] w fun e w' => e = .returned (.tuple #[]) ∧ RB w' g h n c l y (b || !ok) ∧ Two g g w w' := by
  have hr := r.set y hy (b || !ok)
  have ht : Two g g w ((w.setCell ⟨g, 1, none⟩ (.int .i64 (y : Int))).setCell ⟨g, 2, none⟩ (.bool (b || !ok))) := ((Two.refl g g w).setCell (p := ⟨g, 1, none⟩) (Or.inl rfl) _).setCell (p := ⟨g, 2, none⟩) (Or.inl rfl) _
  have c0 := r.row.cell (j := 0) rfl
  have c1 := r.row.cell (j := 1) rfl
  have c2 := r.row.cell (j := 2) rfl
  have fz := r.row.fz
  replace r := W_hid r
  replace hr := W_hid hr
  replace ht := W_hid ht
  cases b <;> cases ok <;> (
    go_enter Try.func34, Try.ntmps34
    go_wp2_with fail
    go_end0
    exact ⟨rfl, hr.out, ht.out⟩)

theorem whole_any {w : World} {g h n c : Nat} {l : List UInt8} {x : Nat} {b : Bool} (r : RB w g h n c l x b) :
    Calls Try.prog 27 #[.pointer (some ⟨g, 0, none⟩)] w fun e w' => e = .returned (.bool (!b && decide (x = n))) ∧ Below w.heap.size w w' := by
  have c0 := r.row.cell (j := 0) rfl
  have c1 := r.row.cell (j := 1) rfl
  have c2 := r.row.cell (j := 2) rfl
  replace r := W_hid r
  cases b
  · by_cases he : x = n
    · subst he
      go_enter Try.func27, Try.ntmps27
      go_wp2_with fail
      go_quiet (fail)
      go_wp2_with fail
      go_ret
      exact ⟨by simp, below_drewN (Below.refl _ _) _⟩
    · have hd : decide (x = n) = false := decide_eq_false he
      have hd2 : ((x : Int) == (n : Int)) = false := by simp; omega
      go_enter Try.func27, Try.ntmps27
      go_wp2_with fail
      go_quiet (fail)
      go_wp2_with fail
      go_ret
      exact ⟨by simp [he], below_drewN (Below.refl _ _) _⟩
  · go_enter Try.func27, Try.ntmps27
    go_wp2_with fail
    go_quiet (fail)
    go_wp2_with fail
    go_ret
    exact ⟨rfl, below_drewN (Below.refl _ _) _⟩
theorem nat_le {n : Nat} {l : List UInt8} (hl : l.length = n) (x : Nat) : nat_ l x ≤ n := by
  unfold nat_
  split <;> omega
theorem tat_le {n : Nat} {l : List UInt8} (hl : l.length = n) (x m : Nat) : tat l x m ≤ n := by
  unfold tat
  split
  · rename_i h
    have h2 : x + 4 ≤ l.length ∧ tsz l x ≤ m ∧ x + 4 + tsz l x ≤ l.length := by unfold tok at h; exact of_decide_eq_true h
    omega
  · omega
theorem number_any {w : World} {g h n c : Nat} {l : List UInt8} {x : Nat} {b : Bool} (r : RB w g h n c l x b) :
    Calls Try.prog 25 #[.pointer (some ⟨g, 0, none⟩)] w fun e w' => e = .returned (.int .u64 ((nvl l x : Nat) : Int)) ∧ RB w' g h n c l (nat_ l x) (b || !nok l x) ∧ Two g g w w' := by
  have c0 := r.row.cell (j := 0) rfl
  have c1 := r.row.cell (j := 1) rfl
  have hT := TakeN_any _ n c l x w.drew (BS.below r.bytes (Below.refl _ _).drew (Nat.le_refl _)) r.le
  have hy := nat_le r.bytes.1 x
  have hS := fun (w1 : World) (bel1 : Below w.drew.heap.size w.drew w1) => step_any (r.keep ((Below.refl _ _).drew.trans bel1)) (nat_ l x) hy (nok l x)
  have hK : ∀ w1, Below w.drew.heap.size w.drew w1 → w1.cell? ⟨g, 0, none⟩ = some (.slice (some ⟨h, 0, none⟩) n c) ∧ w1.cell? ⟨g, 1, none⟩ = some (.int .i64 (x : Int)) := fun w1 b1 => by
    have r1 := r.keep ((Below.refl _ _).drew.trans b1)
    exact ⟨r1.row.cell (j := 0) rfl, r1.row.cell (j := 1) rfl⟩
  replace hK := W_hid hK
  obtain ⟨E, hE⟩ : ∃ E : Int, (if nok l x = true then 0 else 100) = E := ⟨_, rfl⟩
  rw [hE] at hT hS
  generalize nok l x = q at *
  replace hT := W_hid hT
  replace hS := W_hid hS
  clear r hE hy
  go_enter Try.func25, Try.ntmps25
  go_wp2_with fail
  go_region_held3 (fun w' => w'.cell? ⟨g, 0, none⟩ = some (.slice (some ⟨h, 0, none⟩) n c) ∧ w'.cell? ⟨g, 1, none⟩ = some (.int .i64 (x : Int))) (first | exact hK.out _ bel1 | go_keep) (first | (go_at_call 33; refine hT.out.mono ?_; rintro e w1 ⟨rfl, bel1⟩))
  go_wp2_with fail
  refine (hS.out _ bel1).mono ?_
  rintro e w2 ⟨rfl, hr2, two2⟩
  go_wp2_with fail
  go_ret
  exact ⟨rfl, hr2, ((Two.refl g g w).trans (Two.of ((Below.refl _ _).drew.trans bel1))).trans two2⟩
theorem text_any {w : World} {g h n c : Nat} {l : List UInt8} {x : Nat} {b : Bool} (r : RB w g h n c l x b) (m : Nat) (hm2 : m ≤ 9223372036854775807) :
    Calls Try.prog 26 #[.pointer (some ⟨g, 0, none⟩), .int .i64 (m : Int)] w fun e w' => e = .returned (.string (tvl l x m)) ∧ RB w' g h n c l (tat l x m) (b || !tok l x m) ∧ Two g g w w' := by
  have c0 := r.row.cell (j := 0) rfl
  have c1 := r.row.cell (j := 1) rfl
  have hT := TakeT_any _ n c l x m w.drew (BS.below r.bytes (Below.refl _ _).drew (Nat.le_refl _)) r.le hm2
  have hy := tat_le r.bytes.1 x m
  have hS := fun (w1 : World) (bel1 : Below w.drew.heap.size w.drew w1) => step_any (r.keep ((Below.refl _ _).drew.trans bel1)) (tat l x m) hy (tok l x m)
  have hK : ∀ w1, Below w.drew.heap.size w.drew w1 → w1.cell? ⟨g, 0, none⟩ = some (.slice (some ⟨h, 0, none⟩) n c) ∧ w1.cell? ⟨g, 1, none⟩ = some (.int .i64 (x : Int)) := fun w1 b1 => by
    have r1 := r.keep ((Below.refl _ _).drew.trans b1)
    exact ⟨r1.row.cell (j := 0) rfl, r1.row.cell (j := 1) rfl⟩
  replace hK := W_hid hK
  obtain ⟨E, hE⟩ : ∃ E : Int, (if tok l x m = true then 0 else 100) = E := ⟨_, rfl⟩
  rw [hE] at hT hS
  generalize tok l x m = q at *
  replace hT := W_hid hT
  replace hS := W_hid hS
  clear r hE hy
  go_enter Try.func26, Try.ntmps26
  go_wp2_with fail
  go_region_held3 (fun w' => w'.cell? ⟨g, 0, none⟩ = some (.slice (some ⟨h, 0, none⟩) n c) ∧ w'.cell? ⟨g, 1, none⟩ = some (.int .i64 (x : Int))) (first | exact hK.out _ bel1 | go_keep) (first | (go_at_call 35; refine hT.out.mono ?_; rintro e w1 ⟨rfl, bel1⟩))
  go_wp2_with fail
  refine (hS.out _ bel1).mono ?_
  rintro e w2 ⟨rfl, hr2, two2⟩
  go_wp2_with fail
  go_ret
  exact ⟨rfl, hr2, ((Two.refl g g w).trans (Two.of ((Below.refl _ _).drew.trans bel1))).trans two2⟩
end CA
end Go.Proofs.Ytmhikoblaejhhaa

/- Contracts over lists of floats: the law's list of numbers by their bits; shares and choices, the program's and the document's own. -/
import Derived.Test.YtmikgkelmdgckaaBlk
import Derived.Test.YtmikgkelmdgckaaShareSum
import Derived.Deep.DeepAppendWide
import Derived.Maps.AppendAt
import Derived.ShutString
import Derived.ChangeOld
import Derived.SizedLaws
namespace Go.Proofs.Ytmikgkelmdgckaa
open Go.ChangeShapes Go.WideShapes Go.ChangeAt Go.RowKit
open FM
set_option linter.unusedVariables false

theorem info_f64 : (Try.prog.info? 28).map (fun i => (i.zero, i.size, i.bytes)) = some (some (.float .f64 0), 1, 8) := by kernel_rfl

/-- The words of a row of numbers by their bits. -/
theorem words_of_row {w : World} {a : Option Addr} {len cap : Nat} {zs : List Int} (h : IsRow .u64 w a len cap zs) (hl : 0 < len) :
    ∃ blk off, a = some ⟨blk, off, none⟩ ∧ ∀ j, j < len → ∃ x : Nat, x < 18446744073709551616 ∧ w.cell? ⟨blk, off + j, none⟩ = some (.int .u64 x) := by
  rcases h with ⟨rfl, rfl, rfl, rfl⟩ | ⟨x, rfl, hlc, hm, hz, hc, hwf⟩
  · omega
  · have hcell : ∀ j, j < len → ∃ y : Nat, y < 18446744073709551616 ∧ w.cell? (x.add j) = some (.int .u64 y) := fun j hj => by
      have h1 := hc j (by omega)
      rw [List.getD, List.getElem?_eq_getElem (by omega : j < zs.length)] at h1
      have h2 := bounds_u64 (hwf zs[j] (List.getElem_mem _))
      refine ⟨zs[j].toNat, by omega, ?_⟩
      rw [h1]
      simp only [Option.getD_some, Option.some.injEq, Value.int.injEq, true_and]
      omega
    obtain ⟨b, off, spot⟩ := x
    obtain ⟨y, -, h0⟩ := hcell 0 hl
    have hs : spot = none := by simpa [Addr.add] using World.cell?_spot h0
    subst hs
    exact ⟨b, off, rfl, fun j hj => by
      obtain ⟨y, h1, h2⟩ := hcell j hj
      exact ⟨y, h1, by rwa [Addr.add_lit] at h2⟩⟩

theorem Fsl_of_own {w : World} {base e : Nat} {v : Value} {n : Nat} {l : List Nat} (h : w.ownsRow base e 1 v n (fcel l)) (hl64 : ∀ b ∈ l, b < 18446744073709551616) : ∃ ao cap, v = .slice ao n cap ∧ Fsl w ao n cap l := by
  have hl : l.length = n := by have := h.1; rw [fcel_length] at this; omega
  rcases h.2 with ⟨rfl, rfl⟩ | ⟨g, cap, cur, rfl, _⟩
  · have : l = [] := List.eq_nil_of_length_eq_zero hl
    subst this
    exact ⟨none, 0, rfl, rfl, Nat.le_refl _, Nat.zero_le _, (fun _ => rfl), hl64, fun _ h => by cases h⟩
  · exact ⟨_, cap, rfl, Fsl_own h hl64⟩

theorem okW_at {l : List Nat} (h : okW l = true) {k : Nat} (hk : k < l.length) : pos (l[k]?.getD 0) = true := by
  unfold okW at h
  rw [Bool.and_eq_true, List.all_eq_true] at h
  rw [List.getElem?_eq_getElem hk]
  exact h.1 _ (List.getElem_mem hk)
theorem okW_sum {l : List Nat} (h : okW l = true) : pos (sums l) = true := by
  unfold okW at h
  rw [Bool.and_eq_true] at h
  exact h.2

/-- A quotient; one weight's part, or that there is none. -/
def quo (x y : Nat) : Nat := (D.div x y).getD 0
def shareR (i : Int) (l : List Nat) : Nat × Int := if okW l = true ∧ 0 ≤ i ∧ i < (l.length : Int) then (quo (l[i.toNat]?.getD 0) (sums l), 0) else (0, 2)

theorem quo_some (x y : Nat) (hx : pos x = true) (hy : pos y = true) : floatBits .quo .f64 x y = some (quo x y) ∧ quo x y ≤ 9218868437227405312 := by
  have hx' : 0 < x ∧ x < 9218868437227405312 := of_decide_eq_true hx
  have hy' : 0 < y ∧ y < 9218868437227405312 := of_decide_eq_true hy
  obtain ⟨r, h1, h2⟩ := div_some x y hx'.2 hy'
  have : quo x y = r := by unfold quo; rw [h1]; rfl
  rw [this]
  exact ⟨h1, h2⟩
theorem shareR_lt (i : Int) (l : List Nat) : (shareR i l).1 < 18446744073709551616 := by
  unfold shareR
  split
  · next h =>
    have := (quo_some _ _ (okW_at h.1 (k := i.toNat) (by omega)) (okW_sum h.1)).2
    show quo _ _ < _
    omega
  · decide

set_option maxRecDepth 100000 in
set_option maxHeartbeats 1000000 in
theorem share_any (i : Int) (ao : Option Addr) (n cap : Nat) (l : List Nat) (w : World) (hb : Fsl w ao n cap l) :
    Calls Try.prog 17 #[.int .i64 i, .slice ao n cap] w fun e w' => e = .returned (.tuple #[fl (shareR i l).1, .int .i64 (shareR i l).2]) ∧ Below w.heap.size w w' := by
  have hmx : n ≤ 9223372036854775807 := by have h1 := hb.2.2.1; have h2 := hb.2.1; unfold maxLen at h1; omega
  have ht := total_any ao n cap l w hb
  have hlen := hb.1
  have hbb := hb
  cases hok : okW l with
  | false =>
    rw [show shareR i l = (0, 2) by simp [shareR, hok]]
    rw [hok] at ht
    by_cases h1 : i < 0
    · clear hb hbb hok
      go_enter Try.func17, Try.ntmps17
      go_wp2_with fail
      refine ht.mono ?_
      rintro e w' ⟨s, rfl, hs, -, hw⟩
      go_wp2_with fail
      go_ret2
      exact ⟨rfl, by subst hw; exact Below.refl _ _⟩
    · by_cases h2 : (n : Int) ≤ i
      · clear hb hbb hok
        go_enter Try.func17, Try.ntmps17
        go_wp2_with fail
        refine ht.mono ?_
        rintro e w' ⟨s, rfl, hs, -, hw⟩
        go_wp2_with fail
        go_ret2
        exact ⟨rfl, by subst hw; exact Below.refl _ _⟩
      · clear hb hbb hok
        go_enter Try.func17, Try.ntmps17
        go_wp2_with fail
        refine ht.mono ?_
        rintro e w' ⟨s, rfl, hs, -, hw⟩
        go_wp2_with fail
        go_ret2
        exact ⟨rfl, by subst hw; exact Below.refl _ _⟩
  | true =>
    rw [hok] at ht
    by_cases h1 : i < 0
    · rw [show shareR i l = (0, 2) by simp [shareR, show ¬ 0 ≤ i by omega]]
      clear hb hbb hok
      go_enter Try.func17, Try.ntmps17
      go_wp2_with fail
      refine ht.mono ?_
      rintro e w' ⟨s, rfl, hs, -, hw⟩
      go_wp2_with fail
      go_ret2
      exact ⟨rfl, by subst hw; exact Below.refl _ _⟩
    · by_cases h2 : (n : Int) ≤ i
      · rw [show shareR i l = (0, 2) by simp [shareR, hlen, show ¬ i < (n : Int) by omega]]
        clear hb hbb hok
        go_enter Try.func17, Try.ntmps17
        go_wp2_with fail
        refine ht.mono ?_
        rintro e w' ⟨s, rfl, hs, -, hw⟩
        go_wp2_with fail
        go_ret2
        exact ⟨rfl, by subst hw; exact Below.refl _ _⟩
      · obtain ⟨k, rfl⟩ : ∃ k : Nat, i = k := ⟨i.toNat, by omega⟩
        have hk : k < n := by omega
        have hr : shareR k l = (quo (l[k]?.getD 0) (sums l), 0) := by simp [shareR, hok, hlen, hk]
        have hp := okW_at hok (k := k) (by omega)
        have hsum := okW_sum hok
        obtain ⟨hq, hq2⟩ := quo_some _ _ hp hsum
        rw [hr]
        obtain ⟨blk, off, rfl, hcell⟩ := hb.at (by omega)
        have hc := hcell k hk
        have hsm := W_hid hsum
        clear hb hbb hok hr hcell hp hsum h2
        generalize l[k]?.getD 0 = x at *
        generalize quo x (sums l) = q at *
        generalize sums l = S at *
        go_enter Try.func17, Try.ntmps17
        go_wp2_with fail
        refine ht.mono ?_
        rintro e w' ⟨s, rfl, hs, hS, hw⟩
        have hS := hS (by trivial)
        subst hS
        subst hw
        go_wp2_with (with_reducible show wpList _ _ _ _ _ _; refine wpList_float_some rfl rfl (.inr (.inr rfl)) rfl rfl hq ?_)
        go_ret2
        exact ⟨rfl, Below.refl _ _⟩

set_option maxRecDepth 100000 in
set_option maxHeartbeats 1000000 in
theorem rshare_any (i : Int) (ao : Option Addr) (n cap : Nat) (l : List Nat) (w : World) (hb : Fsl w ao n cap l) :
    Calls Try.prog 64 #[.int .i64 i, .slice ao n cap] w fun e w' => e = .returned (.tuple #[fl (shareR i l).1, .int .i64 (shareR i l).2]) ∧ Below w.heap.size w w' := by
  have hmx : n ≤ 9223372036854775807 := by have h1 := hb.2.2.1; have h2 := hb.2.1; unfold maxLen at h1; omega
  have ht := rsum_any ao n cap l w hb
  have hlen := hb.1
  have hbb := hb
  cases hok : okW l with
  | false =>
    rw [show shareR i l = (0, 2) by simp [shareR, hok]]
    rw [hok] at ht
    by_cases h1 : i < 0
    · clear hb hbb hok
      go_enter Try.func64, Try.ntmps64
      go_wp2_with fail
      refine ht.mono ?_
      rintro e w' ⟨s, rfl, hs, -, hw⟩
      go_wp2_with fail
      go_ret2
      exact ⟨rfl, hw⟩
    · by_cases h2 : (n : Int) ≤ i
      · clear hb hbb hok
        go_enter Try.func64, Try.ntmps64
        go_wp2_with fail
        refine ht.mono ?_
        rintro e w' ⟨s, rfl, hs, -, hw⟩
        go_wp2_with fail
        go_ret2
        exact ⟨rfl, hw⟩
      · clear hb hbb hok
        go_enter Try.func64, Try.ntmps64
        go_wp2_with fail
        refine ht.mono ?_
        rintro e w' ⟨s, rfl, hs, -, hw⟩
        go_wp2_with fail
        go_ret2
        exact ⟨rfl, hw⟩
  | true =>
    rw [hok] at ht
    by_cases h1 : i < 0
    · rw [show shareR i l = (0, 2) by simp [shareR, show ¬ 0 ≤ i by omega]]
      clear hb hbb hok
      go_enter Try.func64, Try.ntmps64
      go_wp2_with fail
      refine ht.mono ?_
      rintro e w' ⟨s, rfl, hs, -, hw⟩
      go_wp2_with fail
      go_ret2
      exact ⟨rfl, hw⟩
    · by_cases h2 : (n : Int) ≤ i
      · rw [show shareR i l = (0, 2) by simp [shareR, hlen, show ¬ i < (n : Int) by omega]]
        clear hb hbb hok
        go_enter Try.func64, Try.ntmps64
        go_wp2_with fail
        refine ht.mono ?_
        rintro e w' ⟨s, rfl, hs, -, hw⟩
        go_wp2_with fail
        go_ret2
        exact ⟨rfl, hw⟩
      · obtain ⟨k, rfl⟩ : ∃ k : Nat, i = k := ⟨i.toNat, by omega⟩
        have hk : k < n := by omega
        have hr : shareR k l = (quo (l[k]?.getD 0) (sums l), 0) := by simp [shareR, hok, hlen, hk]
        have hp := okW_at hok (k := k) (by omega)
        have hsum := okW_sum hok
        obtain ⟨hq, hq2⟩ := quo_some _ _ hp hsum
        rw [hr]
        obtain ⟨blk, off, rfl, hcell⟩ := hb.at (by omega)
        have hc := hcell k hk
        have hsm := W_hid hsum
        clear hb hbb hok hr hcell hp hsum h2
        generalize l[k]?.getD 0 = x at *
        generalize quo x (sums l) = q at *
        generalize sums l = S at *
        go_enter Try.func64, Try.ntmps64
        go_wp2_with fail
        refine ht.mono ?_
        rintro e w' ⟨s, rfl, hs, hS, hw⟩
        have hS := hS (by trivial)
        subst hS
        have hc := (hw.cell (World.block_lt_of_cell? w _ hc)).trans hc
        go_wp2_with (with_reducible show wpList _ _ _ _ _ _; refine wpList_float_some rfl rfl (.inr (.inr rfl)) rfl rfl hq ?_)
        go_ret2
        exact ⟨rfl, hw⟩

end Go.Proofs.Ytmikgkelmdgckaa

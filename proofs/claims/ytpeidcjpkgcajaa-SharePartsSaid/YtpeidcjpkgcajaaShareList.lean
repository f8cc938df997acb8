/- Contracts over lists of floats: the law's list of numbers by their bits; shares and choices, the program's and the document's own. -/
import Derived.Test.YtpeidcjpkgcajaaShareSum
import Derived.Deep.DeepAppendWide
import Derived.Maps.AppendAt
import Derived.ShutString
import Derived.ChangeOld
import Derived.SizedLaws
namespace Go.Proofs.Ytpeidcjpkgcajaa
open Go.ChangeShapes Go.WideShapes Go.ChangeAt Go.RowKit
open FM
set_option linter.unusedVariables false

theorem laidOut : laidOutB Try.prog = true := by kernel_rfl
theorem info_f64 : (Try.prog.info? 23).map (fun i => (i.zero, i.size, i.bytes)) = some (some (.float .f64 0), 1, 8) := by kernel_rfl

/-- What the walk is told of a slice of integers that came in. -/
def IsRow (k : IntKind) (w : World) (a : Option Addr) (len cap : Nat) (zs : List Int) : Prop :=
  (a = none ∧ len = 0 ∧ cap = 0 ∧ zs = []) ∨
  ∃ x, a = some x ∧ len ≤ cap ∧ cap ≤ maxLen ∧ zs.length = cap ∧ (∀ i, i < zs.length → w.cell? (x.add i) = some (.int k (zs.getD i 0))) ∧ ∀ n ∈ zs, (Lit.int k n).wf = true

/-- The words of a row of numbers by their bits. -/
theorem words_of_row {w : World} {a : Option Addr} {len cap : Nat} {zs : List Int} (h : IsRow .u64 w a len cap zs) (hl : 0 < len) :
    ∃ blk off, a = some ⟨blk, off, none⟩ ∧ ∀ j, j < len → ∃ x : Nat, x < 18446744073709551616 ∧ w.cell? ⟨blk, off + j, none⟩ = some (.int .u64 x) := by
  rcases h with ⟨rfl, rfl, rfl, rfl⟩ | ⟨x, rfl, hlc, hm, hz, hc, hwf⟩
  · omega
  · have hcell : ∀ j, j < len → ∃ y : Nat, y < 18446744073709551616 ∧ w.cell? (x.add j) = some (.int .u64 y) := fun j hj => by
      have h1 := hc j (by omega)
      rw [List.getD, List.getElem?_eq_getElem (by omega : j < zs.length)] at h1
      have h2 := bounds_u64 (hwf zs[j] (List.getElem_mem _))
      refine ⟨zs[j].toNat, by omega, ?_⟩
      rw [h1]
      simp only [Option.getD_some, Option.some.injEq, Value.int.injEq, true_and]
      omega
    obtain ⟨b, off, spot⟩ := x
    obtain ⟨y, -, h0⟩ := hcell 0 hl
    have hs : spot = none := by simpa [Addr.add] using World.cell?_spot h0
    subst hs
    exact ⟨b, off, rfl, fun j hj => by
      obtain ⟨y, h1, h2⟩ := hcell j hj
      exact ⟨y, h1, by rwa [Addr.add_lit] at h2⟩⟩

theorem Fsl_of_own {w : World} {base e : Nat} {v : Value} {n : Nat} {l : List Nat} (h : w.ownsRow base e 1 v n (fcel l)) (hl64 : ∀ b ∈ l, b < 18446744073709551616) : ∃ ao cap, v = .slice ao n cap ∧ Fsl w ao n cap l := by
  have hl : l.length = n := by have := h.1; rw [fcel_length] at this; omega
  rcases h.2 with ⟨rfl, rfl⟩ | ⟨g, cap, cur, rfl, _⟩
  · have : l = [] := List.eq_nil_of_length_eq_zero hl
    subst this
    exact ⟨none, 0, rfl, rfl, Nat.le_refl _, Nat.zero_le _, (fun _ => rfl), hl64, fun _ h => by cases h⟩
  · exact ⟨_, cap, rfl, Fsl_own h hl64⟩

theorem own_ge {w : World} {base e size n : Nat} {v : Value} {xs : List Value} (hown : w.ownsRow base e size v n xs) (g : Nat) (hg : v.ownBlock = some g) : base ≤ g := by
  rcases hown.2 with ⟨rfl, _⟩ | ⟨g', cap, cur, rfl, hb, _⟩
  · cases hg
  · cases hg; exact hb

set_option maxHeartbeats 1000000 in
theorem floats_any (a0 : Option Addr) (n cap0 : Nat) (z0 : List Int) (w : World) (hrow : IsRow .u64 w a0 n cap0 z0) (hsz : n * 8 ≤ 140737488351232) :
    Calls Try.prog 26 #[.slice a0 n cap0] w fun e w' => ∃ ao cap l, e = .returned (.slice ao n cap) ∧ Fsl w' ao n cap l ∧ Below w.heap.size w w' := by
  obtain ⟨i0, hi, hz0, hz1, hz2⟩ := info_parts info_f64
  have hin : 0 < n → ∃ blk off, a0 = some ⟨blk, off, none⟩ ∧ ∀ j, j < n → ∃ x : Nat, x < 18446744073709551616 ∧ w.cell? ⟨blk, off + j, none⟩ = some (.int .u64 x) := words_of_row hrow
  have hin := W_hid hin
  clear hrow
  go_enter Try.func26, Try.ntmps26
  go_wp2
  go_loopw [3, 4] (fun v i wr => ∃ (k : Nat) (l : List Nat), k ≤ n ∧ i = .int .i64 k ∧ wr.ownsRow w.heap.size 23 1 v k (fcel l) ∧ Hid (∀ b ∈ l, b < 18446744073709551616) ∧ Below w.heap.size w wr) (fun _ i _ => n - (intOf i).toNat)
  case atStart => exact ⟨0, [], Nat.zero_le _, rfl, World.ownsRow_nil w _ _ _, (fun b h => by cases h), Below.refl _ _⟩
  case round =>
    obtain ⟨k, l, hk, rfl, hown, hl64, bel⟩ := hrel
    by_cases hlt : k < n
    · obtain ⟨blk, off, rfl, hcells⟩ := hin.out (by omega)
      obtain ⟨x, hx, hcw⟩ := hcells k hlt
      have hc := (bel.cell (World.block_lt_of_cell? w _ hcw)).trans hcw
      have hf := run_frombits x
      clear hcells hcw
      go_wp2_with (at_builtin; apply Hid.out)
      refine W_hid ?_
      refine wpList_append_own_wide _ rfl (.tmp 11) (.tmp 17) 38 rfl w.heap.size 23 i0 (.float .f64 0) 1 8 Try.underlying38 hi hz0 hz1 hz2 rfl (by decide) u3 k (fcel l) rfl (hown.alloc _) ⟨wr.heap.size, 0, none⟩ 1 1 [fl x] rfl rfl (cell_one_new _ _ _) (by intro u hu; simp at hu; subst hu; rfl) (by unfold maxLen; omega) (by omega) (by simp; have := bel.size; omega) ?_
      intro v2 w2 hown2 hgrow2 hnn
      have hown3 : w2.ownsRow w.heap.size 23 1 v2 (k + 1) (fcel (l ++ [x])) := by rw [fcel_append]; exact hown2
      have bel3 : Below w.heap.size w w2 := (bel.alloc bel.size _).grown hgrow2 (by simp; have := bel.size; omega) (fun g hg => own_ge hown g hg)
      have hl64' : Hid (∀ b ∈ l ++ [x], b < 18446744073709551616) := by
        intro b hb
        rcases List.mem_append.1 hb with h | h
        · exact hl64.out b h
        · rw [List.mem_singleton.1 h]; exact hx
      clear hown2 hgrow2 hnn hown bel hl64
      go_wp2
      go_roundw
      case rel => exact ⟨k + 1, l ++ [x], by omega, by go_num, hown3, hl64', bel3⟩
      case measure => simp [intOf]; omega
    · have hkn : k = n := by omega
      subst hkn
      obtain ⟨ao, cap, rfl, hfs⟩ := Fsl_of_own hown hl64.out
      clear hown
      go_wp2
      go_ret
      exact ⟨ao, cap, l, rfl, hfs, bel⟩

theorem okW_at {l : List Nat} (h : okW l = true) {k : Nat} (hk : k < l.length) : pos (l[k]?.getD 0) = true := by
  unfold okW at h
  rw [Bool.and_eq_true, List.all_eq_true] at h
  rw [List.getElem?_eq_getElem hk]
  exact h.1 _ (List.getElem_mem hk)
theorem okW_sum {l : List Nat} (h : okW l = true) : pos (sums l) = true := by
  unfold okW at h
  rw [Bool.and_eq_true] at h
  exact h.2

/-- A quotient; one weight's part, or that there is none. -/
def quo (x y : Nat) : Nat := (D.div x y).getD 0
def shareR (i : Int) (l : List Nat) : Nat × Int := if okW l = true ∧ 0 ≤ i ∧ i < (l.length : Int) then (quo (l[i.toNat]?.getD 0) (sums l), 0) else (0, 2)

theorem quo_some (x y : Nat) (hx : pos x = true) (hy : pos y = true) : floatBits .quo .f64 x y = some (quo x y) ∧ quo x y ≤ 9218868437227405312 := by
  have hx' : 0 < x ∧ x < 9218868437227405312 := of_decide_eq_true hx
  have hy' : 0 < y ∧ y < 9218868437227405312 := of_decide_eq_true hy
  obtain ⟨r, h1, h2⟩ := div_some x y hx'.2 hy'
  have : quo x y = r := by unfold quo; rw [h1]; rfl
  rw [this]
  exact ⟨h1, h2⟩
theorem shareR_lt (i : Int) (l : List Nat) : (shareR i l).1 < 18446744073709551616 := by
  unfold shareR
  split
  · next h =>
    have := (quo_some _ _ (okW_at h.1 (k := i.toNat) (by omega)) (okW_sum h.1)).2
    show quo _ _ < _
    omega
  · decide

set_option maxHeartbeats 1000000 in
theorem share_any (i : Int) (ao : Option Addr) (n cap : Nat) (l : List Nat) (w : World) (hb : Fsl w ao n cap l) :
    Calls Try.prog 27 #[.int .i64 i, .slice ao n cap] w fun e w' => e = .returned (.tuple #[fl (shareR i l).1, .int .i64 (shareR i l).2]) ∧ Below w.heap.size w w' := by
  have hmx : n ≤ 9223372036854775807 := by have h1 := hb.2.2.1; have h2 := hb.2.1; unfold maxLen at h1; omega
  have ht := total_any ao n cap l w hb
  have hlen := hb.1
  have hbb := hb
  cases hok : okW l with
  | false =>
    rw [show shareR i l = (0, 2) by simp [shareR, hok]]
    rw [hok] at ht
    by_cases h1 : i < 0
    · clear hb hbb hok
      go_enter Try.func27, Try.ntmps27
      go_wp2_with fail
      refine ht.mono ?_
      rintro e w' ⟨s, rfl, hs, -, hw⟩
      go_wp2_with fail
      go_ret2
      exact ⟨rfl, by subst hw; exact Below.refl _ _⟩
    · by_cases h2 : (n : Int) ≤ i
      · clear hb hbb hok
        go_enter Try.func27, Try.ntmps27
        go_wp2_with fail
        refine ht.mono ?_
        rintro e w' ⟨s, rfl, hs, -, hw⟩
        go_wp2_with fail
        go_ret2
        exact ⟨rfl, by subst hw; exact Below.refl _ _⟩
      · clear hb hbb hok
        go_enter Try.func27, Try.ntmps27
        go_wp2_with fail
        refine ht.mono ?_
        rintro e w' ⟨s, rfl, hs, -, hw⟩
        go_wp2_with fail
        go_ret2
        exact ⟨rfl, by subst hw; exact Below.refl _ _⟩
  | true =>
    rw [hok] at ht
    by_cases h1 : i < 0
    · rw [show shareR i l = (0, 2) by simp [shareR, show ¬ 0 ≤ i by omega]]
      clear hb hbb hok
      go_enter Try.func27, Try.ntmps27
      go_wp2_with fail
      refine ht.mono ?_
      rintro e w' ⟨s, rfl, hs, -, hw⟩
      go_wp2_with fail
      go_ret2
      exact ⟨rfl, by subst hw; exact Below.refl _ _⟩
    · by_cases h2 : (n : Int) ≤ i
      · rw [show shareR i l = (0, 2) by simp [shareR, hlen, show ¬ i < (n : Int) by omega]]
        clear hb hbb hok
        go_enter Try.func27, Try.ntmps27
        go_wp2_with fail
        refine ht.mono ?_
        rintro e w' ⟨s, rfl, hs, -, hw⟩
        go_wp2_with fail
        go_ret2
        exact ⟨rfl, by subst hw; exact Below.refl _ _⟩
      · obtain ⟨k, rfl⟩ : ∃ k : Nat, i = k := ⟨i.toNat, by omega⟩
        have hk : k < n := by omega
        have hr : shareR k l = (quo (l[k]?.getD 0) (sums l), 0) := by simp [shareR, hok, hlen, hk]
        have hp := okW_at hok (k := k) (by omega)
        have hsum := okW_sum hok
        obtain ⟨hq, hq2⟩ := quo_some _ _ hp hsum
        rw [hr]
        obtain ⟨blk, off, rfl, hcell⟩ := hb.at (by omega)
        have hc := hcell k hk
        have hsm := W_hid hsum
        clear hb hbb hok hr hcell hp hsum h2
        generalize l[k]?.getD 0 = x at *
        generalize quo x (sums l) = q at *
        generalize sums l = S at *
        go_enter Try.func27, Try.ntmps27
        go_wp2_with fail
        refine ht.mono ?_
        rintro e w' ⟨s, rfl, hs, hS, hw⟩
        have hS := hS (by trivial)
        subst hS
        subst hw
        go_wp2_with (with_reducible show wpList _ _ _ _ _ _; refine wpList_float_some rfl rfl (.inr (.inr rfl)) rfl rfl hq ?_)
        go_ret2
        exact ⟨rfl, Below.refl _ _⟩

set_option maxHeartbeats 1000000 in
theorem rshare_any (i : Int) (ao : Option Addr) (n cap : Nat) (l : List Nat) (w : World) (hb : Fsl w ao n cap l) :
    Calls Try.prog 28 #[.int .i64 i, .slice ao n cap] w fun e w' => e = .returned (.tuple #[fl (shareR i l).1, .int .i64 (shareR i l).2]) ∧ Below w.heap.size w w' := by
  have hmx : n ≤ 9223372036854775807 := by have h1 := hb.2.2.1; have h2 := hb.2.1; unfold maxLen at h1; omega
  have ht := rsum_any ao n cap l w hb
  have hlen := hb.1
  have hbb := hb
  cases hok : okW l with
  | false =>
    rw [show shareR i l = (0, 2) by simp [shareR, hok]]
    rw [hok] at ht
    by_cases h1 : i < 0
    · clear hb hbb hok
      go_enter Try.func28, Try.ntmps28
      go_wp2_with fail
      refine ht.mono ?_
      rintro e w' ⟨s, rfl, hs, -, hw⟩
      go_wp2_with fail
      go_ret2
      exact ⟨rfl, hw⟩
    · by_cases h2 : (n : Int) ≤ i
      · clear hb hbb hok
        go_enter Try.func28, Try.ntmps28
        go_wp2_with fail
        refine ht.mono ?_
        rintro e w' ⟨s, rfl, hs, -, hw⟩
        go_wp2_with fail
        go_ret2
        exact ⟨rfl, hw⟩
      · clear hb hbb hok
        go_enter Try.func28, Try.ntmps28
        go_wp2_with fail
        refine ht.mono ?_
        rintro e w' ⟨s, rfl, hs, -, hw⟩
        go_wp2_with fail
        go_ret2
        exact ⟨rfl, hw⟩
  | true =>
    rw [hok] at ht
    by_cases h1 : i < 0
    · rw [show shareR i l = (0, 2) by simp [shareR, show ¬ 0 ≤ i by omega]]
      clear hb hbb hok
      go_enter Try.func28, Try.ntmps28
      go_wp2_with fail
      refine ht.mono ?_
      rintro e w' ⟨s, rfl, hs, -, hw⟩
      go_wp2_with fail
      go_ret2
      exact ⟨rfl, hw⟩
    · by_cases h2 : (n : Int) ≤ i
      · rw [show shareR i l = (0, 2) by simp [shareR, hlen, show ¬ i < (n : Int) by omega]]
        clear hb hbb hok
        go_enter Try.func28, Try.ntmps28
        go_wp2_with fail
        refine ht.mono ?_
        rintro e w' ⟨s, rfl, hs, -, hw⟩
        go_wp2_with fail
        go_ret2
        exact ⟨rfl, hw⟩
      · obtain ⟨k, rfl⟩ : ∃ k : Nat, i = k := ⟨i.toNat, by omega⟩
        have hk : k < n := by omega
        have hr : shareR k l = (quo (l[k]?.getD 0) (sums l), 0) := by simp [shareR, hok, hlen, hk]
        have hp := okW_at hok (k := k) (by omega)
        have hsum := okW_sum hok
        obtain ⟨hq, hq2⟩ := quo_some _ _ hp hsum
        rw [hr]
        obtain ⟨blk, off, rfl, hcell⟩ := hb.at (by omega)
        have hc := hcell k hk
        have hsm := W_hid hsum
        clear hb hbb hok hr hcell hp hsum h2
        generalize l[k]?.getD 0 = x at *
        generalize quo x (sums l) = q at *
        generalize sums l = S at *
        go_enter Try.func28, Try.ntmps28
        go_wp2_with fail
        refine ht.mono ?_
        rintro e w' ⟨s, rfl, hs, hS, hw⟩
        have hS := hS (by trivial)
        subst hS
        have hc := (hw.cell (World.block_lt_of_cell? w _ hc)).trans hc
        go_wp2_with (with_reducible show wpList _ _ _ _ _ _; refine wpList_float_some rfl rfl (.inr (.inr rfl)) rfl rfl hq ?_)
        go_ret2
        exact ⟨rfl, hw⟩

end Go.Proofs.Ytpeidcjpkgcajaa

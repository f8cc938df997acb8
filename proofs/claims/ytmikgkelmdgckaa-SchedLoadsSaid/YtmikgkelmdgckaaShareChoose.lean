/- Contracts of the choice by parts, the program's and the document's own: what each returns, for all arguments. -/
import Derived.Test.YtmikgkelmdgckaaShareList
namespace Go.Proofs.Ytmikgkelmdgckaa
open Go.ChangeShapes Go.WideShapes Go.ChangeAt Go.RowKit
open FM
set_option linter.unusedVariables false

/-- A product; the place that a bound falls to; what a part chooses, or that there is nothing. -/
def prod (x y : Nat) : Nat := (D.mul x y).getD 0
def gtB (s b : Nat) : Bool := FloatKind.f64.format.order s b == some .gt
def pickF (b : Nat) (l : List Nat) : Nat → Nat → Nat
  | 0, _ => l.length - 1
  | f + 1, i => if gtB (sums (l.take (i + 1))) b = true then i else pickF b l f (i + 1)
def pick (b : Nat) (l : List Nat) : Nat := pickF b l l.length 0
def partOK (p : Nat) : Bool := decide (p < 4607182418800017408 ∨ p = 9223372036854775808)
def chooseR (p : Nat) (l : List Nat) : Int × Int := if okW l = true ∧ partOK p = true then ((pick (prod p (sums l)) l : Nat), 0) else (0, 2)

theorem part_ways (p : Nat) (hp : p < 18446744073709551616) : ∃ (k : Nat) (g : Bool), cls p = k ∧ (FloatKind.f64.format.order p 4607182418800017408 == some .gt || FloatKind.f64.format.order p 4607182418800017408 == some .eq) = g ∧
    ((k < 3 ∧ partOK p = false) ∨ (5 < k ∧ partOK p = false) ∨ (3 ≤ k ∧ k ≤ 5 ∧ g = true ∧ partOK p = false) ∨ (3 ≤ k ∧ k ≤ 5 ∧ g = false ∧ partOK p = true)) := by
  refine ⟨cls p, _, rfl, rfl, ?_⟩
  have hk := cls_rank p hp
  have hr : rank p = if isNan p = true then 9218868437227405313 else if p < 9223372036854775808 then (p : Int) else -1 - ((p % 9223372036854775808 : Nat) : Int) := rfl
  by_cases h : 3 ≤ cls p ∧ cls p ≤ 5
  · have hrr : -1 ≤ rank p ∧ rank p < 9218868437227405312 := by
      rw [hk] at h
      unfold clsR at h
      (repeat' split at h) <;> omega
    have hn : isNan p = false := by rw [nan_rank p hp]; exact decide_eq_false (by omega)
    have hkey := key_rank p hp hn
    have h1 : key 4607182418800017408 = 4607182418800017408 := by decide
    have e : (FloatKind.f64.format.order p 4607182418800017408 == some .gt || FloatKind.f64.format.order p 4607182418800017408 == some .eq) = decide (4607182418800017408 ≤ key p) := by
      show (D.order p 4607182418800017408 == some .gt || D.order p 4607182418800017408 == some .eq) = _
      rw [gt_key p _ hp (by decide) hn (by decide), eq_key p _ hp (by decide) hn (by decide), h1]
      rw [Bool.eq_iff_iff]
      simp only [Bool.or_eq_true, decide_eq_true_eq]
      omega
    rw [e]
    rw [hn] at hr
    simp only [Bool.false_eq_true, if_false] at hr
    have hpp : partOK p = !decide (4607182418800017408 ≤ key p) := by
      unfold partOK
      rw [Bool.eq_iff_iff]
      simp only [Bool.not_eq_true', decide_eq_true_eq, decide_eq_false_iff_not]
      split at hr <;> (rw [hkey]; split <;> omega)
    rw [hpp]
    by_cases hg : 4607182418800017408 ≤ key p
    · exact .inr (.inr (.inl ⟨h.1, h.2, decide_eq_true hg, by rw [decide_eq_true hg]; rfl⟩))
    · exact .inr (.inr (.inr ⟨h.1, h.2, decide_eq_false hg, by rw [decide_eq_false hg]; rfl⟩))
  · have hno : partOK p = false := by
      apply decide_eq_false
      rintro (h2 | h2)
      · apply h
        have hn : isNan p = false := decide_eq_false (by omega)
        rw [hn] at hr
        simp only [Bool.false_eq_true, if_false] at hr
        rw [if_pos (by omega)] at hr
        rw [hk, hr]
        unfold clsR
        (repeat' split) <;> omega
      · subst h2
        exact h (by decide)
    by_cases h3 : cls p < 3
    · exact .inl ⟨h3, hno⟩
    · exact .inr (.inl ⟨by omega, hno⟩)

theorem prod_some (p s : Nat) (hp : partOK p = true) (hs : pos s = true) : floatBits .mul .f64 p s = some (prod p s) ∧ prod p s < 18446744073709551616 := by
  have hp' : p < 4607182418800017408 ∨ p = 9223372036854775808 := of_decide_eq_true hp
  have hs' : 0 < s ∧ s < 9218868437227405312 := of_decide_eq_true hs
  obtain ⟨r, h1, h2, -⟩ := mul_some p s (by omega) hs'
  have : prod p s = r := by unfold prod; rw [h1]; rfl
  rw [this]
  exact ⟨h1, h2⟩

theorem pickF_step {b : Nat} {l : List Nat} {k n : Nat} (h : k < n) : pickF b l (n - k) k = if gtB (sums (l.take (k + 1))) b = true then k else pickF b l (n - (k + 1)) (k + 1) := by
  obtain ⟨f, hf⟩ : ∃ f, n - k = f + 1 := ⟨n - k - 1, by omega⟩
  rw [hf, show n - (k + 1) = f by omega]
  rfl

theorem ret_pair {a b : Int} (x : Int) (h : a = b) : Ending.returned (.tuple #[.int .i64 a, .int .i64 x]) = .returned (.tuple #[.int .i64 b, .int .i64 x]) := by rw [h]

set_option maxRecDepth 100000 in
set_option maxHeartbeats 1000000 in
theorem choose_any (p : Nat) (hp : p < 18446744073709551616) (ao : Option Addr) (n cap : Nat) (l : List Nat) (w : World) (hb : Fsl w ao n cap l) :
    Calls Try.prog 59 #[fl p, .slice ao n cap] w fun e w' => e = .returned (.tuple #[.int .i64 (chooseR p l).1, .int .i64 (chooseR p l).2]) ∧ Below w.heap.size w w' := by
  have hmx : n ≤ 9223372036854775807 := by have h1 := hb.2.2.1; have h2 := hb.2.1; unfold maxLen at h1; omega
  have ht := total_any ao n cap l w hb
  have hc := class_any p hp
  have hlen := W_hid hb.1
  cases hok : okW l with
  | false =>
    rw [show chooseR p l = (0, 2) by simp [chooseR, hok]]
    rw [hok] at ht
    clear hok
    generalize cls p = c at *
    clear hb
    go_enter Try.func59, Try.ntmps59
    go_wp2_with fail
    refine ht.mono ?_
    rintro e w' ⟨s, rfl, hs, hS, hw⟩
    go_wp2_with fail
    refine (hc _).mono ?_
    rintro e w'' ⟨rfl, rfl⟩
    go_wp2_with fail
    go_ret2
    exact ⟨rfl, by subst hw; exact Below.refl _ _⟩
  | true =>
    have h0 : 0 < n := by
      rcases Nat.eq_zero_or_pos n with h | h
      · subst h
        rw [List.eq_nil_of_length_eq_zero hb.1] at hok
        revert hok; decide
      · exact h
    have h0' : ((n : Int) == 0) = false := by simp; omega
    obtain ⟨k, g, e1, e2, hway⟩ := part_ways p hp
    rw [e1] at hc
    rw [hok] at ht
    rcases hway with ⟨hk, hno⟩ | ⟨hk, hno⟩ | ⟨hk1, hk2, rfl, hno⟩ | ⟨hk1, hk2, rfl, hyes⟩
    · rw [show chooseR p l = (0, 2) by simp [chooseR, hno]]
      clear hb hok hno e1
      go_enter Try.func59, Try.ntmps59
      go_wp2_with fail
      refine ht.mono ?_
      rintro e w' ⟨s, rfl, hs, hS, hw⟩
      go_wp2_with fail
      refine (hc _).mono ?_
      rintro e w'' ⟨rfl, rfl⟩
      go_wp2_with fail
      go_ret2
      exact ⟨rfl, by subst hw; exact Below.refl _ _⟩
    · rw [show chooseR p l = (0, 2) by simp [chooseR, hno]]
      clear hb hok hno e1
      go_enter Try.func59, Try.ntmps59
      go_wp2_with fail
      refine ht.mono ?_
      rintro e w' ⟨s, rfl, hs, hS, hw⟩
      go_wp2_with fail
      refine (hc _).mono ?_
      rintro e w'' ⟨rfl, rfl⟩
      go_wp2_with fail
      go_ret2
      exact ⟨rfl, by subst hw; exact Below.refl _ _⟩
    · rw [show chooseR p l = (0, 2) by simp [chooseR, hno]]
      clear hb hok hno e1
      go_enter Try.func59, Try.ntmps59
      go_wp2_with fail
      refine ht.mono ?_
      rintro e w' ⟨s, rfl, hs, hS, hw⟩
      go_wp2_with fail
      refine (hc _).mono ?_
      rintro e w'' ⟨rfl, rfl⟩
      go_wp2_with fail
      go_ret2
      exact ⟨rfl, by subst hw; exact Below.refl _ _⟩
    · have hsum := okW_sum hok
      obtain ⟨hm, hml⟩ := prod_some p (sums l) hyes hsum
      have hr : chooseR p l = (((pick (prod p (sums l)) l : Nat) : Int), 0) := by simp [chooseR, hok, hyes]
      rw [hr]
      obtain ⟨blk, off, rfl, hcell⟩ := hb.at h0
      have hall : Hid (∀ k, k < l.length → pos (l[k]?.getD 0) = true) := fun k hk => okW_at hok hk
      have hstep : Hid (∀ k, k < l.length → sums (l.take (k + 1)) = ad (sums (l.take k)) (l[k]?.getD 0)) := sums_take l
      clear hb hok hr hsum e1 hyes
      generalize prod p (sums l) = b at *
      generalize hSe : sums l = S at *
      clear hSe
      have hpick : Hid (∀ k, k < n → pickF b l (n - k) k = if gtB (sums (l.take (k + 1))) b = true then k else pickF b l (n - (k + 1)) (k + 1)) := fun k hk => pickF_step hk
      go_enter Try.func59, Try.ntmps59
      go_wp2_with fail
      refine ht.mono ?_
      rintro e w' ⟨s, rfl, hs, hS, hw⟩
      go_wp2_with fail
      refine (hc _).mono ?_
      rintro e w'' ⟨rfl, rfl⟩
      have hS := hS (by trivial)
      subst hS
      subst hw
      go_wp2_with (with_reducible show wpList _ _ _ _ _ _; refine wpList_float_some rfl rfl (.inr (.inl rfl)) rfl rfl hm ?_)
      go_loop [10, 39] (fun v i => ∃ k s : Nat, k ≤ n ∧ i = .int .i64 k ∧ v = fl s ∧ s ≤ 9218868437227405312 ∧ Hid (s = sums (l.take k)) ∧ Hid (pick b l = pickF b l (n - k) k)) (fun _ i => n - (intOf i).toNat)
      case atStart => exact ⟨0, 0, Nat.zero_le _, rfl, rfl, by omega, rfl, by rw [← hlen.out]; exact rfl⟩
      case round =>
        obtain ⟨k, s, hk, rfl, rfl, hs2, hsum, hpk⟩ := hrel
        by_cases hlt : k < n
        · have hcl := hcell k hlt
          obtain ⟨ha1, ha2⟩ := ad_some s _ hs2 (hall.out k (by rw [hlen.out]; exact hlt))
          have hsum' : Hid (ad s (l[k]?.getD 0) = sums (l.take (k + 1))) := by rw [hsum.out]; exact (hstep.out k (by rw [hlen.out]; exact hlt)).symm
          have hpk' : Hid (pick b l = if gtB (ad s (l[k]?.getD 0)) b = true then k else pickF b l (n - (k + 1)) (k + 1)) := by rw [hsum'.out, hpk.out]; exact hpick.out k hlt
          clear hcell hstep hsum hall hpk hpick
          generalize l[k]?.getD 0 = x at *
          generalize ad s x = s' at *
          cases hg : gtB s' b with
          | true =>
            have hres : Hid (pick b l = k) := by rw [hpk'.out, if_pos hg]; exact rfl
            have hg : (FloatKind.f64.format.order s' b == some .gt) = true := hg
            clear hpk'
            go_wp2_with (with_reducible show wpList _ _ _ _ _ _; refine wpList_float_some rfl rfl (.inl rfl) rfl rfl ha1 ?_)
            go_ret2
            exact ⟨by rw [hres.out]; rfl, Below.refl _ _⟩
          | false =>
            have hres : Hid (pick b l = pickF b l (n - (k + 1)) (k + 1)) := by rw [hpk'.out, if_neg (by rw [hg]; exact Bool.false_ne_true)]; exact rfl
            have hg : (FloatKind.f64.format.order s' b == some .gt) = false := hg
            clear hpk'
            go_wp2_with (with_reducible show wpList _ _ _ _ _ _; refine wpList_float_some rfl rfl (.inl rfl) rfl rfl ha1 ?_)
            go_round
            case rel => exact ⟨k + 1, s', by omega, by go_num, rfl, ha2, hsum', hres⟩
            case measure => simp [intOf]; omega
        · have hkn : k = n := by omega
          subst hkn
          have hres : Hid (pick b l = k - 1) := by rw [hpk.out, Nat.sub_self, ← hlen.out]; exact rfl
          clear hcell hstep hsum hall hpk hpick
          go_wp2
          go_ret2
          exact ⟨by rw [hres.out]; exact ret_pair _ (by omega), Below.refl _ _⟩

set_option maxRecDepth 100000 in
set_option maxHeartbeats 1000000 in
theorem rchoose_any (p : Nat) (hp : p < 18446744073709551616) (ao : Option Addr) (n cap : Nat) (l : List Nat) (w : World) (hb : Fsl w ao n cap l) :
    Calls Try.prog 62 #[fl p, .slice ao n cap] w fun e w' => e = .returned (.tuple #[.int .i64 (chooseR p l).1, .int .i64 (chooseR p l).2]) ∧ Below w.heap.size w w' := by
  have hmx : n ≤ 9223372036854775807 := by have h1 := hb.2.2.1; have h2 := hb.2.1; unfold maxLen at h1; omega
  have ht := rsum_any ao n cap l w hb
  have hc := rclass_any p hp
  have hlen := W_hid hb.1
  cases hok : okW l with
  | false =>
    rw [show chooseR p l = (0, 2) by simp [chooseR, hok]]
    rw [hok] at ht
    clear hok
    generalize cls p = c at *
    by_cases h0 : n = 0
    · subst h0
      clear hb
      go_enter Try.func62, Try.ntmps62
      go_wp2_with fail
      refine ht.mono ?_
      rintro e w' ⟨s, rfl, hs, hS, hw⟩
      go_wp2_with fail
      refine (hc _).mono ?_
      rintro e w'' ⟨rfl, rfl⟩
      go_wp2_with fail
      go_ret2
      exact ⟨rfl, hw⟩
    · clear hb
      go_enter Try.func62, Try.ntmps62
      go_wp2_with fail
      refine ht.mono ?_
      rintro e w' ⟨s, rfl, hs, hS, hw⟩
      go_wp2_with fail
      refine (hc _).mono ?_
      rintro e w'' ⟨rfl, rfl⟩
      go_wp2_with fail
      go_ret2
      exact ⟨rfl, hw⟩
  | true =>
    have h0 : 0 < n := by
      rcases Nat.eq_zero_or_pos n with h | h
      · subst h
        rw [List.eq_nil_of_length_eq_zero hb.1] at hok
        revert hok; decide
      · exact h
    have h0' : ((n : Int) == 0) = false := by simp; omega
    obtain ⟨k, g, e1, e2, hway⟩ := part_ways p hp
    rw [e1] at hc
    rw [hok] at ht
    rcases hway with ⟨hk, hno⟩ | ⟨hk, hno⟩ | ⟨hk1, hk2, rfl, hno⟩ | ⟨hk1, hk2, rfl, hyes⟩
    · rw [show chooseR p l = (0, 2) by simp [chooseR, hno]]
      clear hb hok hno e1
      go_enter Try.func62, Try.ntmps62
      go_wp2_with fail
      refine ht.mono ?_
      rintro e w' ⟨s, rfl, hs, hS, hw⟩
      go_wp2_with fail
      refine (hc _).mono ?_
      rintro e w'' ⟨rfl, rfl⟩
      go_wp2_with fail
      go_ret2
      exact ⟨rfl, hw⟩
    · rw [show chooseR p l = (0, 2) by simp [chooseR, hno]]
      clear hb hok hno e1
      go_enter Try.func62, Try.ntmps62
      go_wp2_with fail
      refine ht.mono ?_
      rintro e w' ⟨s, rfl, hs, hS, hw⟩
      go_wp2_with fail
      refine (hc _).mono ?_
      rintro e w'' ⟨rfl, rfl⟩
      go_wp2_with fail
      go_ret2
      exact ⟨rfl, hw⟩
    · rw [show chooseR p l = (0, 2) by simp [chooseR, hno]]
      clear hb hok hno e1
      go_enter Try.func62, Try.ntmps62
      go_wp2_with fail
      refine ht.mono ?_
      rintro e w' ⟨s, rfl, hs, hS, hw⟩
      go_wp2_with fail
      refine (hc _).mono ?_
      rintro e w'' ⟨rfl, rfl⟩
      go_wp2_with fail
      go_ret2
      exact ⟨rfl, hw⟩
    · have hsum := okW_sum hok
      obtain ⟨hm, hml⟩ := prod_some p (sums l) hyes hsum
      have hr : chooseR p l = (((pick (prod p (sums l)) l : Nat) : Int), 0) := by simp [chooseR, hok, hyes]
      rw [hr]
      obtain ⟨blk, off, rfl, hcell⟩ := hb.at h0
      have hall : Hid (∀ k, k < l.length → pos (l[k]?.getD 0) = true) := fun k hk => okW_at hok hk
      have hstep : Hid (∀ k, k < l.length → sums (l.take (k + 1)) = ad (sums (l.take k)) (l[k]?.getD 0)) := sums_take l
      clear hb hok hr hsum e1 hyes
      generalize prod p (sums l) = b at *
      generalize hSe : sums l = S at *
      clear hSe
      have hpick : Hid (∀ k, k < n → pickF b l (n - k) k = if gtB (sums (l.take (k + 1))) b = true then k else pickF b l (n - (k + 1)) (k + 1)) := fun k hk => pickF_step hk
      go_enter Try.func62, Try.ntmps62
      go_wp2_with fail
      refine ht.mono ?_
      rintro e w' ⟨s, rfl, hs, hS, hw⟩
      go_wp2_with fail
      refine (hc _).mono ?_
      rintro e w'' ⟨rfl, rfl⟩
      have hS := hS (by trivial)
      subst hS
      go_wp2_with (with_reducible show wpList _ _ _ _ _ _; refine wpList_float_some rfl rfl (.inr (.inl rfl)) rfl rfl hm ?_)
      go_loop [10, 11] (fun v i => ∃ k s : Nat, k ≤ n ∧ i = .int .i64 k ∧ v = fl s ∧ s ≤ 9218868437227405312 ∧ Hid (s = sums (l.take k)) ∧ Hid (pick b l = pickF b l (n - k) k)) (fun _ i => n - (intOf i).toNat)
      case atStart => exact ⟨0, 0, Nat.zero_le _, rfl, rfl, by omega, rfl, by rw [← hlen.out]; exact rfl⟩
      case round =>
        obtain ⟨k, s, hk, rfl, rfl, hs2, hsum, hpk⟩ := hrel
        by_cases hlt : k < n
        · have hcl := hcell k hlt
          have hcl := (hw.cell (World.block_lt_of_cell? w _ hcl)).trans hcl
          obtain ⟨ha1, ha2⟩ := ad_some s _ hs2 (hall.out k (by rw [hlen.out]; exact hlt))
          have hsum' : Hid (ad s (l[k]?.getD 0) = sums (l.take (k + 1))) := by rw [hsum.out]; exact (hstep.out k (by rw [hlen.out]; exact hlt)).symm
          have hpk' : Hid (pick b l = if gtB (ad s (l[k]?.getD 0)) b = true then k else pickF b l (n - (k + 1)) (k + 1)) := by rw [hsum'.out, hpk.out]; exact hpick.out k hlt
          clear hcell hstep hsum hall hpk hpick
          generalize l[k]?.getD 0 = x at *
          generalize ad s x = s' at *
          cases hg : gtB s' b with
          | true =>
            have hres : Hid (pick b l = k) := by rw [hpk'.out, if_pos hg]; exact rfl
            have hg : (FloatKind.f64.format.order s' b == some .gt) = true := hg
            clear hpk'
            go_wp2_with (with_reducible show wpList _ _ _ _ _ _; refine wpList_float_some rfl rfl (.inl rfl) rfl rfl ha1 ?_)
            go_ret2
            exact ⟨by rw [hres.out]; rfl, hw⟩
          | false =>
            have hres : Hid (pick b l = pickF b l (n - (k + 1)) (k + 1)) := by rw [hpk'.out, if_neg (by rw [hg]; exact Bool.false_ne_true)]; exact rfl
            have hg : (FloatKind.f64.format.order s' b == some .gt) = false := hg
            clear hpk'
            go_wp2_with (with_reducible show wpList _ _ _ _ _ _; refine wpList_float_some rfl rfl (.inl rfl) rfl rfl ha1 ?_)
            go_round
            case rel => exact ⟨k + 1, s', by omega, by go_num, rfl, ha2, hsum', hres⟩
            case measure => simp [intOf]; omega
        · have hkn : k = n := by omega
          subst hkn
          have hres : Hid (pick b l = k - 1) := by rw [hpk.out, Nat.sub_self, ← hlen.out]; exact rfl
          clear hcell hstep hsum hall hpk hpick
          go_wp2
          go_ret2
          exact ⟨by rw [hres.out]; exact ret_pair _ (by omega), hw⟩

end Go.Proofs.Ytmikgkelmdgckaa

/- Contracts of package sched: where a process stands (slices.BinarySearchFunc), find, none, isNice, level. -/
import Derived.Test.YtmikgkelmdgckaaSchMem
import Derived.ChangeOld
import Derived.WalkLawsBesides
import Derived.TacticsInMore
namespace Go.Proofs.Ytmikgkelmdgckaa
open Go.ChangeShapes Go.WideShapes Go.ChangeAt Go.RowKit
set_option linter.unusedVariables false
set_option linter.unusedSimpArgs false
set_option maxRecDepth 100000
namespace SD
open IN (Keeps lt_of_some)

theorem bel_mono {w1 w2 : World} {B C : Nat} (h : Below C w1 w2) (hB : B ≤ C) : Below B w1 w2 := ⟨h.os, h.tape, h.output, h.size, fun k hk => h.block k (by omega)⟩
def cmpI (a b : Int) : Int := if a < b then -1 else if b < a then 1 else 0
theorem cmp_any (a b : Int) (w : World) : Calls Try.prog 69 #[.int .i64 a, .int .i64 b] w fun e w' => e = .returned (.int .i64 (cmpI a b)) ∧ w = w' := by
  have hc : (a < b ∧ cmpI a b = -1) ∨ (¬ a < b ∧ b < a ∧ cmpI a b = 1) ∨ (¬ a < b ∧ ¬ b < a ∧ cmpI a b = 0) := by unfold cmpI; by_cases h1 : a < b <;> by_cases h2 : b < a <;> simp [h1, h2]
  rcases hc with ⟨h1, h2⟩ | ⟨h1, h3, h2⟩ | ⟨h1, h3, h2⟩
  all_goals
    rw [h2]
    clear h2
    go_enter Try.func69, Try.ntmps69
    go_wp2
    go_ret
    exact ⟨rfl, rfl⟩
theorem cl_any (a b c d : Value) (x p : Int) (ha : a = .int .i64 x) (hb : ∃ y, b = .int .i64 y) (hc : ∃ y, c = .bool y) (hd : ∃ y, d = .float .f64 y) (w : World) :
    Calls Try.prog 68 #[.agg #[a, b, c, d], .int .i64 p] w fun e w' => e = .returned (.int .i64 (cmpI x p)) ∧ Below w.heap.size w w' := by
  subst ha
  obtain ⟨y, rfl⟩ := hb
  obtain ⟨z, rfl⟩ := hc
  obtain ⟨u, rfl⟩ := hd
  have cC := W_hid (fun w => cmp_any x p w)
  have hB := W_hid ((Below.refl w.heap.size w).alloc (Nat.le_refl _) (.cells #[.int .i64 x, .int .i64 y, .bool z, .float .f64 u] TR))
  go_enter Try.func68, Try.ntmps68
  go_wp2_with (go_at_call 69; refine (cC.out _).mono ?_; rintro e w' ⟨rfl, rfl⟩)
  go_ret
  exact ⟨rfl, hB.out⟩

section
variable {base : Nat} {w : World} {qb nb : Nat} {vr : Value} {vl : Nat → Value} {P : List Pr} {ls : Nat → List Int}
abbrev bsF : Nat := 67
set_option maxRecDepth 100000 in
set_option maxHeartbeats 1000000 in
theorem bs_any (h : QM base w qb nb vr vl P ls) (hasc : Asc P) (hlen : P.length ≤ 60000) (p : Int) :
    Calls Try.prog bsF #[vr, .int .i64 p, .func (.func 68) #[] #[]] w fun e w' => e = .returned (.tuple #[.int .i64 (low P p), .bool (get P p).isSome]) ∧ Below w.heap.size w w' := by
  obtain ⟨ao, cap, hv⟩ := Own.form h.row
  have hE := W_hid (fun (wr : World) (hb : Below w.heap.size w wr) i (hi : i < P.length) => (h.keep hb).opened hi)
  rw [hv] at hE
  have hlt : Hid (∀ j (hj : j < P.length), j < low P p → P[j].pid < p) := W_hid fun j hj hl => (low_lt hl).2
  have hge : Hid (∀ j (hj : j < P.length), low P p ≤ j → p ≤ P[j].pid) := W_hid fun j hj hl => low_ge hasc hj hl
  have hsome : Hid (∀ x, P[low P p]? = some x → ((get P p).isSome = true ↔ x.pid = p)) := W_hid fun x hx => by
    obtain ⟨hl, rfl⟩ := List.getElem?_eq_some_iff.1 hx
    cases hg : get P p with
    | none => have := get_no hg hl; simp; omega
    | some x =>
      obtain ⟨h1, h2⟩ := get_at hasc hg
      simp only [Option.isSome_some, h2, (get_some hg).2]
  have hnone : Hid (¬ low P p < P.length → (get P p).isSome = false) := W_hid fun hl => by
    cases hg : get P p with
    | none => rfl
    | some x => exact absurd (get_at hasc hg).1 hl
  have hle := low_le P p
  obtain ⟨r, hr⟩ : ∃ r, (get P p).isSome = r := ⟨_, rfl⟩
  rw [hr] at hsome hnone ⊢
  obtain ⟨K, hK⟩ : ∃ K, low P p = K := ⟨_, rfl⟩
  simp only [hK] at hlt hge hle hnone hsome ⊢
  obtain ⟨n, hn⟩ : ∃ n, P.length = n := ⟨_, rfl⟩
  rw [hn] at hle hlen hnone hv
  have hn2 := W_hid hn
  subst hv
  clear h hK hr hasc hn
  go_enter Try.func67, Try.ntmps67
  go_wp2_with fail
  go_loopw [9, 10] (fun i j wr => ∃ lo hi : Nat, lo ≤ K ∧ K ≤ hi ∧ hi ≤ n ∧ i = .int .i64 (lo : Int) ∧ j = .int .i64 (hi : Int) ∧ Hid (Below w.heap.size w wr)) (fun i j _ => (intOf j).toNat - (intOf i).toNat)
  case atStart => exact ⟨0, n, by omega, by omega, by omega, rfl, rfl, W_hid (Below.refl _ _)⟩
  case round =>
    obtain ⟨lo, hi, h1, h2, h3, rfl, rfl, hb⟩ := hrel
    by_cases hlo : lo < hi
    · obtain ⟨m, hm⟩ : ∃ m : Nat, m = (lo + hi) / 2 := ⟨_, rfl⟩
      have m1 : lo ≤ m := by omega
      have m2 : m < hi := by omega
      have hmP : m < P.length := by rw [hn2.out]; omega
      obtain ⟨g, n', cap', hv', hn', -, hcn, -, -, -, -, -, -, e0, e1, e2, e3⟩ := hE.out wr hb.out m hmP
      simp only [Value.slice.injEq] at hv'
      obtain ⟨rfl, rfl, rfl⟩ := hv'
      have hlow : P[m].pid < p → m < K := fun hx => by
        rcases Nat.lt_or_ge m K with h | h
        · exact h
        · have := hge.out m hmP h; omega
      have hhigh : ¬ P[m].pid < p → K ≤ m := fun hx => by
        rcases Nat.lt_or_ge m K with h | h
        · exact absurd (hlt.out m hmP h) hx
        · exact h
      obtain ⟨a, ha⟩ : ∃ a, P[m].pid = a := ⟨_, rfl⟩
      obtain ⟨b, hb'⟩ : ∃ a, P[m].nice = a := ⟨_, rfl⟩
      obtain ⟨c, hc'⟩ : ∃ a, (!P[m].on) = a := ⟨_, rfl⟩
      obtain ⟨d, hd'⟩ : ∃ a, P[m].load = a := ⟨_, rfl⟩
      rw [ha] at e0 hlow hhigh
      rw [hb'] at e1
      rw [hc'] at e2
      rw [hd'] at e3
      have hcmp : (cmpI a p < 0) = (a < p) := by
        unfold cmpI
        by_cases h1 : a < p <;> by_cases h2 : p < a <;> simp [h1, h2]
      have cC := W_hid (fun w => cl_any (.int .i64 a) (.int .i64 b) (.bool c) (.float .f64 d) a p rfl ⟨_, rfl⟩ ⟨_, rfl⟩ ⟨_, rfl⟩ w)
      have hmi : ((lo : Int) + (hi : Int)) / 2 = (m : Int) := by omega
      have hmm : (m : Int) < (n : Int) := by omega
      clear ha hb' hc' hd' hn' hmP
      by_cases hap : a < p
      · have hq : cmpI a p < 0 := by rw [hcmp]; exact hap
        have hmK := hlow hap
        replace hcmp := W_hid hcmp
        obtain ⟨q, hqq⟩ : ∃ q, cmpI a p = q := ⟨_, rfl⟩
        rw [hqq] at cC hq
        clear hlow hhigh hcmp hqq
        have hm2 := W_hid hm
        clear hm
        go_wp2_with (go_at_call 68; refine (cC.out _).mono ?_; rintro e w' ⟨rfl, hb2⟩; have hb2 := W_hid hb2)
        go_roundw
        case rel => exact ⟨m + 1, hi, by omega, by omega, by omega, by go_num, rfl, W_hid (hb.out.trans (bel_mono hb2.out hb.out.size))⟩
        case measure => simp [intOf]; omega
      · have hq : ¬ cmpI a p < 0 := by rw [hcmp]; exact hap
        have hmK := hhigh hap
        replace hcmp := W_hid hcmp
        obtain ⟨q, hqq⟩ : ∃ q, cmpI a p = q := ⟨_, rfl⟩
        rw [hqq] at cC hq
        clear hlow hhigh hcmp hqq
        have hm2 := W_hid hm
        clear hm
        go_wp2_with (go_at_call 68; refine (cC.out _).mono ?_; rintro e w' ⟨rfl, hb2⟩; have hb2 := W_hid hb2)
        go_roundw
        case rel => exact ⟨lo, m, by omega, by omega, by omega, rfl, by go_num, W_hid (hb.out.trans (bel_mono hb2.out hb.out.size))⟩
        case measure => simp [intOf]; omega
    · obtain rfl : lo = K := by omega
      obtain rfl : hi = lo := by omega
      by_cases hKn : hi < n
      · have hmP : hi < P.length := by rw [hn2.out]; omega
        obtain ⟨g, n', cap', hv', hn', -, hcn, -, -, -, -, -, -, e0, e1, e2, e3⟩ := hE.out wr hb.out hi hmP
        simp only [Value.slice.injEq] at hv'
        obtain ⟨rfl, rfl, rfl⟩ := hv'
        have hs := hsome.out P[hi] (List.getElem?_eq_getElem hmP)
        obtain ⟨a, ha⟩ : ∃ a, P[hi].pid = a := ⟨_, rfl⟩
        obtain ⟨b, hb'⟩ : ∃ a, P[hi].nice = a := ⟨_, rfl⟩
        obtain ⟨c, hc'⟩ : ∃ a, (!P[hi].on) = a := ⟨_, rfl⟩
        obtain ⟨d, hd'⟩ : ∃ a, P[hi].load = a := ⟨_, rfl⟩
        rw [ha] at e0 hs
        rw [hb'] at e1
        rw [hc'] at e2
        rw [hd'] at e3
        have hcmp : (cmpI a p == 0) = r := by
          cases r with
          | true => rw [hs.1 rfl]; unfold cmpI; simp
          | false =>
            have : a ≠ p := fun e => by have := hs.2 e; cases this
            unfold cmpI
            by_cases h1 : a < p
            · simp [h1]
            · have h2 : p < a := by omega
              simp [h1, h2]
        have cC := W_hid (fun w => cl_any (.int .i64 a) (.int .i64 b) (.bool c) (.float .f64 d) a p rfl ⟨_, rfl⟩ ⟨_, rfl⟩ ⟨_, rfl⟩ w)
        obtain ⟨q, hqq⟩ : ∃ q, cmpI a p = q := ⟨_, rfl⟩
        rw [hqq] at cC hcmp
        have hmm : (hi : Int) < (n : Int) := by omega
        clear ha hb' hc' hd' hn' hmP hs hqq
        go_wp2_with (go_at_call 68; refine (cC.out _).mono ?_; rintro e w' ⟨rfl, hb2⟩; have hb2 := W_hid hb2)
        go_ret2
        exact ⟨rfl, hb.out.trans (bel_mono hb2.out hb.out.size)⟩
      · have hr := hnone.out hKn
        subst hr
        have hmm : ¬ (hi : Int) < (n : Int) := by omega
        go_wp2_with fail
        go_ret2
        exact ⟨rfl, hb.out⟩
theorem place_any (h : QM base w qb nb vr vl P ls) (hasc : Asc P) (hlen : P.length ≤ 60000) (p : Int) :
    Calls Try.prog 46 #[ptr nb, .int .i64 p] w fun e w' => e = .returned (.tuple #[.int .i64 (low P p), .bool (get P p).isSome]) ∧ Below w.heap.size w w' := by
  have c0 := h.nbox.cell (j := 0) rfl
  have hb := W_hid (bs_any h hasc hlen p)
  obtain ⟨ao, cap, hv⟩ := Own.form h.row
  subst hv
  clear h
  go_enter Try.func46, Try.ntmps46
  go_wp2_with (go_at_call 67; refine hb.out.mono ?_; rintro e w' ⟨rfl, hb2⟩; have hb2 := W_hid hb2)
  go_ret2
  exact ⟨rfl, hb2.out⟩
theorem nfind_no (h : QM base w qb nb vr vl P ls) (hasc : Asc P) (hlen : P.length ≤ 60000) (p : Int) (hg : get P p = none) :
    Calls Try.prog 20 #[ptr nb, .int .i64 p] w fun e w' => e = .returned (.pointer none) ∧ Below w.heap.size w w' := by
  have hb := place_any h hasc hlen p
  rw [hg] at hb
  simp only [Option.isSome_none] at hb
  replace hb := W_hid hb
  clear h hg
  go_enter Try.func20, Try.ntmps20
  go_wp2_with (go_at_call 46; refine hb.out.mono ?_; rintro e w' ⟨rfl, hb2⟩; have hb2 := W_hid hb2)
  go_ret
  exact ⟨rfl, hb2.out⟩
theorem nfind_yes (h : QM base w qb nb vr vl P ls) (hasc : Asc P) (hlen : P.length ≤ 60000) (p : Int) {x : Pr} (hg : get P p = some x) {g : Nat} (hv : vr.ownBlock = some g) :
    Calls Try.prog 20 #[ptr nb, .int .i64 p] w fun e w' => e = .returned (.pointer (some ⟨g, low P p * 4 + 1, none⟩)) ∧ Below w.heap.size w w' := by
  have hb := place_any h hasc hlen p
  rw [hg] at hb
  simp only [Option.isSome_some] at hb
  obtain ⟨hl, hx⟩ := get_at hasc hg
  have hE := W_hid (fun (wr : World) (hb : Below w.heap.size w wr) => (h.keep hb).nbox.cell (j := 0) rfl)
  obtain ⟨g', n, cap, rfl, hn, hlt, hnc, hcm, -⟩ := h.opened hl
  simp only [Value.ownBlock, Option.some.injEq] at hv
  subst hv
  obtain ⟨K, hK⟩ : ∃ K, low P p = K := ⟨_, rfl⟩
  rw [hK] at hb hlt
  simp only [hK]
  replace hb := W_hid hb
  have hmm : (K : Int) < (n : Int) := by omega
  clear h hg hl hx hn hK
  go_enter Try.func20, Try.ntmps20
  go_wp2_with (go_at_call 46; refine hb.out.mono ?_; rintro e w' ⟨rfl, hb2⟩; have c0 := hE.out _ hb2; have hb2 := W_hid hb2)
  go_ret
  exact ⟨by simp, hb2.out⟩
theorem qnone_nil (w : World) : Calls Try.prog 14 #[.pointer none] w fun e w' => e = .returned (.bool true) ∧ w = w' := by
  go_enter Try.func14, Try.ntmps14
  go_wp2
  go_ret
  exact ⟨rfl, rfl⟩
theorem qnone_no (h : QM base w qb nb vr vl P ls) : Calls Try.prog 14 #[ptr qb] w fun e w' => e = .returned (.bool false) ∧ w = w' := by
  have c0 := h.box.cell (j := 0) rfl
  clear h
  go_enter Try.func14, Try.ntmps14
  go_wp2
  go_ret
  exact ⟨rfl, rfl⟩
theorem find_nil (p : Int) (w : World) : Calls Try.prog 13 #[.pointer none, .int .i64 p] w fun e w' => e = .returned (.tuple #[.pointer none, .int .i64 1]) ∧ w = w' := by
  go_enter Try.func13, Try.ntmps13
  go_wp2_with (go_at_call 14; refine (qnone_nil _).mono ?_; rintro e w' ⟨rfl, rfl⟩)
  go_ret2
  exact ⟨rfl, rfl⟩
theorem find_no (h : QM base w qb nb vr vl P ls) (hasc : Asc P) (hlen : P.length ≤ 60000) (p : Int) (hg : get P p = none) :
    Calls Try.prog 13 #[ptr qb, .int .i64 p] w fun e w' => e = .returned (.tuple #[.pointer none, .int .i64 19]) ∧ Below w.heap.size w w' := by
  have hn := W_hid (qnone_no h)
  have c0 := h.box.cell (j := 0) rfl
  have hb := W_hid (nfind_no h hasc hlen p hg)
  clear h hg
  go_enter Try.func13, Try.ntmps13
  go_wp2_with (first | (go_at_call 14; refine hn.out.mono ?_; rintro e w' ⟨rfl, rfl⟩) | (go_at_call 20; refine hb.out.mono ?_; rintro e w' ⟨rfl, hb2⟩; have hb2 := W_hid hb2))
  go_ret2
  exact ⟨rfl, hb2.out⟩
theorem find_yes (h : QM base w qb nb vr vl P ls) (hasc : Asc P) (hlen : P.length ≤ 60000) (p : Int) {x : Pr} (hg : get P p = some x) {g : Nat} (hv : vr.ownBlock = some g) :
    Calls Try.prog 13 #[ptr qb, .int .i64 p] w fun e w' => e = .returned (.tuple #[.pointer (some ⟨g, low P p * 4 + 1, none⟩), .int .i64 0]) ∧ Below w.heap.size w w' := by
  have hn := W_hid (qnone_no h)
  have c0 := h.box.cell (j := 0) rfl
  have hb := W_hid (nfind_yes h hasc hlen p hg hv)
  clear h hg hv
  go_enter Try.func13, Try.ntmps13
  go_wp2_with (first | (go_at_call 14; refine hn.out.mono ?_; rintro e w' ⟨rfl, rfl⟩) | (go_at_call 20; refine hb.out.mono ?_; rintro e w' ⟨rfl, hb2⟩; have hb2 := W_hid hb2))
  go_ret2
  exact ⟨rfl, hb2.out⟩
theorem isNice_any (n : Int) (w : World) : Calls Try.prog 19 #[.int .i64 n] w fun e w' => e = .returned (.bool (isNice n)) ∧ w = w' := by
  obtain ⟨r, hr⟩ : ∃ r, isNice n = r := ⟨_, rfl⟩
  rw [hr]
  have hc : (¬ -20 ≤ n ∧ r = false) ∨ (-20 ≤ n ∧ ¬ n ≤ 19 ∧ r = false) ∨ (-20 ≤ n ∧ n ≤ 19 ∧ r = true) := by
    rw [← hr]
    by_cases h1 : -20 ≤ n <;> by_cases h2 : n ≤ 19 <;> simp [isNice, h1, h2]
  rcases hc with ⟨h1, h3⟩ | ⟨h1, h2, h3⟩ | ⟨h1, h2, h3⟩
  all_goals
    subst h3
    clear hr
    go_enter Try.func19, Try.ntmps19
    go_wp2
    go_ret
    exact ⟨rfl, rfl⟩
theorem level_any (g o : Nat) (n : Int) (hn : -20 ≤ n ∧ n ≤ 19) (w : World) (hc : w.cell? ⟨g, o, none⟩ = some (.int .i64 n)) :
    Calls Try.prog 23 #[.pointer (some ⟨g, o, none⟩)] w fun e w' => e = .returned (.int .i64 (lev n)) ∧ w = w' := by
  obtain ⟨k, hk⟩ : ∃ k, lev n = k := ⟨_, rfl⟩
  have hl : (n + 20).tdiv 8 = (k : Int) := by rw [← hk, Int.tdiv_eq_ediv_of_nonneg (by omega)]; unfold lev; omega
  rw [hk]
  obtain ⟨m, hm⟩ : ∃ m, n + 20 = m := ⟨_, rfl⟩
  rw [hm] at hl
  have hm0 : 0 ≤ m ∧ m ≤ 39 := by omega
  have hw : n - -20 = m := by omega
  have hd : m / 8 = (k : Int) := by rw [← hl, Int.tdiv_eq_ediv_of_nonneg (by omega)]
  replace hk := W_hid hk
  replace hm := W_hid hm
  go_enter Try.func23, Try.ntmps23
  go_wp2_with fail
  go_ret
  exact ⟨by first | rfl | exact ret_int (by assumption), rfl⟩
end
end SD
end Go.Proofs.Ytmikgkelmdgckaa
